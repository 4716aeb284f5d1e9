/- Unpack. -/
import Derived.Test.YtekbmdpokghmmaaLF
namespace Go.Proofs.Ytekbmdpokghmmaa
open Go.RowKit Lz
/-- What Unpack answers. -/
def UnpTo (w : World) (bs : List UInt8) (most : Int) (e : Ending) (w' : World) : Prop := Below w.heap.size w w' ∧
  ((begL bs = none ∧ e = .returned (.tuple #[.slice none 0 0, .int .i64 4])) ∨
   (∃ n k, begL bs = some (n, k) ∧ max most 0 < (n : Int) ∧ e = .returned (.tuple #[.slice none 0 0, .int .i64 2])) ∨
   (∃ n k, begL bs = some (n, k) ∧ (n : Int) ≤ max most 0 ∧ (∀ us, ¬ Right n (bs.drop k) us) ∧ e = .returned (.tuple #[.slice none 0 0, .int .i64 4])) ∨
   (∃ n k ts a c, begL bs = some (n, k) ∧ (n : Int) ≤ max most 0 ∧ Right n (bs.drop k) ts ∧ e = .returned (.tuple #[.slice a n c, .int .i64 0]) ∧ w'.ownsRow w.heap.size 5 1 (.slice a n c) n (bytesV (outL ts))))
set_option maxRecDepth 100000 in
set_option maxHeartbeats 4000000 in
theorem unpack_any {w : World} {a : Option Addr} {len cap : Nat} {bs : List UInt8} (h : Bs w a len cap bs) (most : Int) : Calls Try.prog 10 #[.slice a len cap, .int .i64 most] w (UnpTo w bs most) := by
  have HB := begin_any h
  unfold begV at HB
  cases hb : begL bs with
  | none =>
    rw [hb] at HB
    have HB : Hid (Calls Try.prog 21 #[.slice a len cap] w fun e w' => e = .returned (.tuple #[.int .i64 0, .int .i64 0, .int .i64 4]) ∧ w' = w) := HB
    have HN : Hid (begL bs = none) := hb
    clear hb
    go_enter Try.func10, Try.ntmps10
    go_wp2_with fail
    refine HB.out.mono ?_
    rintro e w' ⟨rfl, h⟩; subst w'
    go_wp2
    go_ret2
    exact ⟨Below.refl _ _, .inl ⟨HN.out, rfl⟩⟩
  | some nk =>
    obtain ⟨n, k⟩ := nk
    rw [hb] at HB
    obtain ⟨hn, hk⟩ := begL_le hb
    have hlen := h.1
    have HB : Hid (Calls Try.prog 21 #[.slice a len cap] w fun e w' => e = .returned (.tuple #[.int .i64 (n : Int), .int .i64 (k : Int), .int .i64 0]) ∧ w' = w) := HB
    have HE : Hid (begL bs = some (n, k)) := hb
    obtain ⟨mx, hmx⟩ : ∃ mx, max most 0 = mx := ⟨_, rfl⟩
    have HMX : Hid (max most 0 = mx) := hmx
    by_cases hlt : mx < (n : Int)
    · clear hb
      have HLT : Hid (mx < (n : Int)) := hlt
      rcases Int.lt_or_le most 0 with hm0 | hm0
      · have hq : (0 : Int) < (n : Int) := by omega
        clear hlt hmx
        go_enter Try.func10, Try.ntmps10
        go_wp2_with fail
        refine HB.out.mono ?_
        rintro e w' ⟨rfl, h⟩; subst w'
        go_wp2
        go_ret2
        exact ⟨Below.refl _ _, .inr (.inl ⟨n, k, HE.out, by rw [HMX.out]; exact HLT.out, rfl⟩)⟩
      · have hq : most < (n : Int) := by omega
        have hm1 : ¬ most < 0 := by omega
        clear hlt hmx hm0
        go_enter Try.func10, Try.ntmps10
        go_wp2_with fail
        refine HB.out.mono ?_
        rintro e w' ⟨rfl, h⟩; subst w'
        go_wp2
        go_ret2
        exact ⟨Below.refl _ _, .inr (.inl ⟨n, k, HE.out, by rw [HMX.out]; exact HLT.out, rfl⟩)⟩
    · obtain ⟨i0, hi0, hz0, hzs, hzb⟩ := info_parts info5
      obtain ⟨W0, hmk, ho0, hg0⟩ := run_make_own (P := Try.prog) w w.heap.size 22 5 i0 (.int .u8 0) 1 Try.underlying22 hi0 hz0 hzs .i64 .i64 n (by rw [hzb]; omega) (by unfold maxLen; omega) (Nat.le_refl _)
      obtain ⟨R, hR⟩ : ∃ R, w.heap.size = R := ⟨_, rfl⟩
      rw [hR] at hmk ho0
      obtain ⟨B, hB⟩ : ∃ B, W0.heap.size = B := ⟨_, rfl⟩
      have hRB : R < B := by rw [← hB]; exact (ho0.lt R rfl).2
      obtain ⟨W1, hW1⟩ : ∃ W, W0.alloc (.cells #[.slice (some ⟨R, 0, none⟩) 0 n] 22) = W := ⟨_, rfl⟩
      have hb0 : Below R w W0 := ⟨hg0.os, hg0.tape, hg0.output, hg0.size, fun x hx => hg0.block x (by omega) (by simp)⟩
      have hb1 : Below R w W1 := by rw [← hW1]; exact hb0.alloc (by omega) _
      have ho : OutR W1 R B 22 5 1 (some ⟨R, 0, none⟩) 0 n (bytesV []) := by
        refine ⟨by omega, by rw [← hW1, ← hB]; exact heap_alloc_new W0 _, by simp [ob]; omega, ?_⟩
        refine own_keep ho0 (fun x hx => ?_)
        cases hx
        rw [← hW1]
        exact ((Below.refl _ W0).alloc (Nat.le_refl _) _).block R (by omega)
      have hly := lyv_of (w0 := w) (R := R) (B := B) (ty := 22) (e := 5) (sz := 1) (size := n) (f := 23) (cnt := toldL) (enc := fun ts => bytesV (outL ts)) (lb := #[.pointer (some ⟨B, 0, none⟩)]) (enters_of Try.func23 (by kernel_rfl) rfl) (fun W ts t a c h hg => by
        have h2 := hg.le (Nat.zero_le _)
        have h3 := (Goes.app.1 hg).2
        have h4 := h3.1
        have h5 := h3.2.1
        rw [toldL_app, toldL_one] at h2 ⊢
        rw [outL_snoc]
        refine unp1_any t h (outL_len ts).symm ?_ (by omega)
        rcases h4 with h4 | h4
        · exact .inl h4.2.2.2
        · exact .inr ⟨h4.2.2.2.1, by omega⟩)
      have hrd : ∀ W ts F, InvR w R B 22 5 1 toldL (fun ts => bytesV (outL ts)) W ts F → Bs W (cutA a cap k 1) (len - k) (cap - k) (bs.drop k) := fun W ts F ⟨_, _, _, _, hb⟩ => by
        rw [← hR] at hb
        exact (h.below hb).rest k (by omega)
      have HW := walk_any hly hrd (w := W1) (F0 := fun x => x = B ∨ ob (some ⟨R, 0, none⟩) = some x) ⟨some ⟨R, 0, none⟩, n, ho, rfl, hb1⟩ hn
      have HW : Hid (Calls Try.prog 22 #[.slice (cutA a cap k 1) (len - k) (cap - k), .int .i64 (n : Int), .func (.func 23) #[] #[.pointer (some ⟨B, 0, none⟩)]] W1 (WkTo n (bs.drop k) (InvR w R B 22 5 1 toldL (fun ts => bytesV (outL ts))))) := HW
      have hcut := off_bytes a len cap k (by omega)
      have hwR : Hid (w.heap.size = R) := hR
      have hle : (n : Int) ≤ mx := by omega
      clear hb h hb1 ho hly hrd hb0 hg0 ho0 hi0 hz0 hzs hzb
      have HLE : Hid ((n : Int) ≤ mx) := hle
      rcases Int.lt_or_le most 0 with hm0 | hm0
      · have hq : ¬ (0 : Int) < (n : Int) := by omega
        clear hlt hmx hle
        go_enter Try.func10, Try.ntmps10
        go_wp2_with fail
        refine HB.out.mono ?_
        rintro e w' ⟨rfl, h⟩; subst w'
        go_wp2_with fail
        refine HW.out.mono ?_
        rintro e V ⟨r, ts, F, rfl, ⟨a9, c9, ho, _, hbV⟩, hyes, hno⟩
        cases r with
        | true =>
          have hr := hyes rfl
          have hn2 := hr.n
          have HR : Hid (Right n (bs.drop k) ts) := hr
          rw [hn2] at ho
          have cB : V.cell? ⟨B, 0, none⟩ = some (.slice a9 n c9) := by rw [cell_of_row _ _ _ _ _ _ ho.2.1]; rfl
          have HO : Hid (V.ownsRow R 5 1 (.slice a9 n c9) n (bytesV (outL ts)) ∧ Below R w V) := ⟨ho.2.2.2, hbV⟩
          clear hyes hno ho hbV hr hn2
          go_wp2
          go_ret2
          exact ⟨by rw [hwR.out]; exact HO.out.2, .inr (.inr (.inr ⟨n, k, ts, a9, c9, HE.out, by rw [HMX.out]; exact HLE.out, HR.out, rfl, by rw [hwR.out]; exact HO.out.1⟩))⟩
        | false =>
          have HR : Hid (∀ us, ¬ Right n (bs.drop k) us) := hno rfl
          have HO : Hid (Below R w V) := hbV
          clear hyes hno ho hbV
          go_wp2
          go_ret2
          exact ⟨by rw [hwR.out]; exact HO.out, .inr (.inr (.inl ⟨n, k, HE.out, by rw [HMX.out]; exact HLE.out, HR.out, rfl⟩))⟩
      · have hq : ¬ most < (n : Int) := by omega
        have hm1 : ¬ most < 0 := by omega
        clear hlt hmx hm0 hle
        go_enter Try.func10, Try.ntmps10
        go_wp2_with fail
        refine HB.out.mono ?_
        rintro e w' ⟨rfl, h⟩; subst w'
        go_wp2_with fail
        refine HW.out.mono ?_
        rintro e V ⟨r, ts, F, rfl, ⟨a9, c9, ho, _, hbV⟩, hyes, hno⟩
        cases r with
        | true =>
          have hr := hyes rfl
          have hn2 := hr.n
          have HR : Hid (Right n (bs.drop k) ts) := hr
          rw [hn2] at ho
          have cB : V.cell? ⟨B, 0, none⟩ = some (.slice a9 n c9) := by rw [cell_of_row _ _ _ _ _ _ ho.2.1]; rfl
          have HO : Hid (V.ownsRow R 5 1 (.slice a9 n c9) n (bytesV (outL ts)) ∧ Below R w V) := ⟨ho.2.2.2, hbV⟩
          clear hyes hno ho hbV hr hn2
          go_wp2
          go_ret2
          exact ⟨by rw [hwR.out]; exact HO.out.2, .inr (.inr (.inr ⟨n, k, ts, a9, c9, HE.out, by rw [HMX.out]; exact HLE.out, HR.out, rfl, by rw [hwR.out]; exact HO.out.1⟩))⟩
        | false =>
          have HR : Hid (∀ us, ¬ Right n (bs.drop k) us) := hno rfl
          have HO : Hid (Below R w V) := hbV
          clear hyes hno ho hbV
          go_wp2
          go_ret2
          exact ⟨by rw [hwR.out]; exact HO.out, .inr (.inr (.inl ⟨n, k, HE.out, by rw [HMX.out]; exact HLE.out, HR.out, rfl⟩))⟩
end Go.Proofs.Ytekbmdpokghmmaa
