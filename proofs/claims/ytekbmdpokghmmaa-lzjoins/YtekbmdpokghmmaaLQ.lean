/- Pack. -/
import Derived.Test.YtekbmdpokghmmaaLP
namespace Go.Proofs.Ytekbmdpokghmmaa
open Go.RowKit Lz
theorem encL_le {size : Nat} {ts : List Tk} : ∀ {d : Nat}, Goes size d ts → (encL ts).length ≤ 2 * toldL ts := by
  induction ts with
  | nil => intro _ _; exact Nat.zero_le _
  | cons t ts ih =>
    intro d h
    have h1 := ih h.2.2.2
    rw [show encL (t :: ts) = t.enc ++ encL ts by simp [encL], List.length_append]
    simp only [toldL]
    have : t.enc.length ≤ 2 * t.told := by
      unfold Tk.told
      rcases h.1 with h | h
      · rw [h.enc]; have := h.1; simp only [List.length_cons]; omega
      · rw [h.enc]; have := h.2.1; simp only [List.length_cons, List.length_nil]; omega
    omega
/-- What Pack answers. -/
def PackTo (w : World) (bs : List UInt8) (e : Ending) (w' : World) : Prop := Below w.heap.size w w' ∧
  ((65536 < bs.length ∧ e = .returned (.tuple #[.slice none 0 0, .int .i64 2])) ∨
   (bs.length ≤ 65536 ∧ ∃ a c, e = .returned (.tuple #[.slice a (packB bs).length c, .int .i64 0]) ∧ w'.ownsRow w.heap.size 5 1 (.slice a (packB bs).length c) (packB bs).length (bytesV (packB bs))))
set_option maxRecDepth 100000 in
set_option maxHeartbeats 4000000 in
theorem pack_any {w : World} {a : Option Addr} {len cap : Nat} {bs : List UInt8} (h : Bs w a len cap bs) : Calls Try.prog 15 #[.slice a len cap] w (PackTo w bs) := by
  have hlen := h.1
  have hcap := h.2.2.1
  have hlc := h.2.1
  by_cases hlt : 65536 < len
  · have kk : (65536 : Int) < (len : Int) := by omega
    have HL : Hid (65536 < bs.length) := by show 65536 < bs.length; omega
    clear h hlen
    go_enter Try.func15, Try.ntmps15
    go_wp2
    go_ret2
    exact ⟨Below.refl _ _, .inl ⟨HL.out, rfl⟩⟩
  · have kk : ¬ (65536 : Int) < (len : Int) := by omega
    have hbl : bs.length ≤ 65536 := by omega
    obtain ⟨R, hR⟩ : ∃ R, w.heap.size = R := ⟨_, rfl⟩
    obtain ⟨P, hP⟩ : ∃ P, (putN len).length = P := ⟨_, rfl⟩
    have hPU := put_any none 0 0 [] len w (Bs.nil w) (by omega) (by omega)
    rw [hP, Nat.zero_add, List.nil_append, hR] at hPU
    have HPU : Hid (Calls Try.prog 26 #[.slice none 0 0, .int .u64 (len : Int)] w fun e w' => e = .returned (.slice (some ⟨R, 0, none⟩) P P) ∧ w'.ownsRow R 5 1 (.slice (some ⟨R, 0, none⟩) P P) P (bytesV (putN len)) ∧ Below R w w') := hPU
    have hwu : IntKind.u64.wrap (len : Int) = (len : Int) := by rw [IntKind.wrap_u64]; omega
    have HB : Hid (Bs w a len cap bs ∧ bs.length = len ∧ bs.length ≤ 65536 ∧ (putN len).length = P ∧ w.heap.size = R ∧ P ≤ 3) := ⟨h, hlen, hbl, hP, hR, by rw [← hP]; exact putN_len3 (by omega)⟩
    clear h hlen hbl hP hR hPU
    go_enter Try.func15, Try.ntmps15
    go_wp2_with fail
    refine HPU.out.mono ?_
    rintro e V1 ⟨rfl, ho0, hb0⟩
    obtain ⟨h, hlen, hbl, hP, hR, hP3⟩ := HB.out
    obtain ⟨B, hB⟩ : ∃ B, V1.heap.size = B := ⟨_, rfl⟩
    have hRB : R < B := by rw [← hB]; exact (ho0.lt R rfl).2
    obtain ⟨W2, hW2⟩ : ∃ W, V1.alloc (.cells #[.slice (some ⟨R, 0, none⟩) P P] 22) = W := ⟨_, rfl⟩
    have hb2 : Below R w W2 := by rw [← hW2]; exact hb0.alloc (by omega) _
    have hb2' : Below w.heap.size w W2 := by rw [hR]; exact hb2
    have hnil : putN len ++ encL [] = putN len := by simp [encL]
    have ho : OutR W2 R B 22 5 1 (some ⟨R, 0, none⟩) (putN len ++ encL []).length P (bytesV (putN len ++ encL [])) := by
      rw [hnil, hP]
      refine ⟨by omega, by rw [← hW2, ← hB]; exact heap_alloc_new V1 _, by simp [ob]; omega, ?_⟩
      refine own_keep ho0 (fun x hx => ?_)
      cases hx
      rw [← hW2]
      exact ((Below.refl _ V1).alloc (Nat.le_refl _) _).block R (by omega)
    have hly := lyv_of (w0 := w) (R := R) (B := B) (ty := 22) (e := 5) (sz := 1) (size := bs.length) (f := 28) (cnt := fun ts => (putN len ++ encL ts).length) (enc := fun ts => bytesV (putN len ++ encL ts)) (lb := #[.pointer (some ⟨B, 0, none⟩)]) (enters_of Try.func28 (by kernel_rfl) rfl) (fun W ts t a c h hg => by
      have h2 := hg.le (Nat.zero_le _)
      have h3 := (Goes.app.1 hg).1
      have h4 := (Goes.app.1 hg).2.1
      have h5 := encL_le h3
      rw [toldL_app] at h2
      have h6 : (putN len ++ encL ts).length = P + (encL ts).length := by rw [List.length_append, hP]
      have := pack1_any t h4 h (by omega)
      have e1 : putN len ++ encL (ts ++ [t]) = putN len ++ encL ts ++ t.enc := by rw [encL_app, encL_one, List.append_assoc]
      have e2 : (putN len ++ encL ts ++ t.enc).length = (putN len ++ encL ts).length + t.enc.length := List.length_append
      rw [e1, e2]
      exact this)
    have hcv := (h.below hb2').convS
    have HCH := choose_any (x := bs) hly (w := W2) (F := fun x => x = B ∨ ob (some ⟨R, 0, none⟩) = some x) ⟨some ⟨R, 0, none⟩, P, ho, rfl, hb2⟩ hbl
    have HCH : Hid (Calls Try.prog 27 #[.string (strOf bs), .func (.func 28) #[] #[.pointer (some ⟨B, 0, none⟩)]] W2 (ChTo bs (InvR w R B 22 5 1 (fun ts => (putN len ++ encL ts).length) (fun ts => bytesV (putN len ++ encL ts))))) := HCH
    clear h hlen hbl hP hP3 ho0 hb0 hb2 hb2' ho hly hnil
    go_wp2_with fail
    refine HCH.out.mono ?_
    rintro e V ⟨rfl, F9, a9, c9, ho9, _, hb9⟩
    have hpk : putN len ++ encL (chooseL bs) = packB bs := by unfold packB packL; rw [HB.out.2.1]
    simp only [hpk] at ho9
    have cB : V.cell? ⟨B, 0, none⟩ = some (.slice a9 (packB bs).length c9) := by rw [cell_of_row _ _ _ _ _ _ ho9.2.1]; rfl
    have HO : Hid (V.ownsRow R 5 1 (.slice a9 (packB bs).length c9) (packB bs).length (bytesV (packB bs)) ∧ Below R w V) := ⟨ho9.2.2.2, hb9⟩
    clear ho9 hb9 hpk HCH
    go_wp2
    go_ret2
    exact ⟨by rw [hR]; exact HO.out.2, .inr ⟨HB.out.2.2.1, a9, c9, rfl, by rw [hR]; exact HO.out.1⟩⟩
end Go.Proofs.Ytekbmdpokghmmaa
