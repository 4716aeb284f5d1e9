/- Proved: for every b, the law ShaWhole returns true, b as it was; where the package's two tables begin as the program's text lays them. -/
import Derived.Test.YtmachfapcgjljabDoorBD
import Derived.Test.YtmachfapcgjljabDoorBB
import Derived.Test.YtmachfapcgjljabDoorCards
import Derived.Test.YtmachfapcgjljabDoorTie
import Derived.WalkKit
import Derived.ProofKit
import Derived.OpenShut
import Derived.ShutString
import Derived.ChangeOld
import Derived.Below
import Derived.LaidMore
import Derived.Stop.Joined
import Derived.SevenTiedAt
namespace Go.Proofs.YtmachfapcgjljabDoor.shaWhole
open Go.ChangeShapes Go.WideShapes Go.ChangeAt Go.WideMaps Go.WideElems Go.RowKit
open Go.ChangeMaps (open_string shut_string)
theorem laidOut : laidOutB Tryd.prog = true := by kernel_rfl


theorem row_put8 (W : World) (g : Nat) (n0 n1 n2 n3 n4 n5 n6 n7 : Nat) (h : W.heap[g]? = some (.cells (u32v [0, 0, 0, 0, 0, 0, 0, 0]) 26 (0, 0))) :
    ((((((((W.setCell ⟨g, 0, none⟩ (.int .u32 (n0 : Int))).setCell ⟨g, 1, none⟩ (.int .u32 (n1 : Int))).setCell ⟨g, 2, none⟩ (.int .u32 (n2 : Int))).setCell ⟨g, 3, none⟩ (.int .u32 (n3 : Int))).setCell ⟨g, 4, none⟩ (.int .u32 (n4 : Int))).setCell ⟨g, 5, none⟩ (.int .u32 (n5 : Int))).setCell ⟨g, 6, none⟩ (.int .u32 (n6 : Int))).setCell ⟨g, 7, none⟩ (.int .u32 (n7 : Int))).heap[g]? = some (.cells (u32v [n0, n1, n2, n3, n4, n5, n6, n7]) 26 (0, 0)) := by
  have h0 := heap_setCell_same _ g 0 _ _ (.int .u32 (n0 : Int)) h
  rw [u32v_set] at h0
  have h1 := heap_setCell_same _ g 1 _ _ (.int .u32 (n1 : Int)) h0
  rw [u32v_set] at h1
  have h2 := heap_setCell_same _ g 2 _ _ (.int .u32 (n2 : Int)) h1
  rw [u32v_set] at h2
  have h3 := heap_setCell_same _ g 3 _ _ (.int .u32 (n3 : Int)) h2
  rw [u32v_set] at h3
  have h4 := heap_setCell_same _ g 4 _ _ (.int .u32 (n4 : Int)) h3
  rw [u32v_set] at h4
  have h5 := heap_setCell_same _ g 5 _ _ (.int .u32 (n5 : Int)) h4
  rw [u32v_set] at h5
  have h6 := heap_setCell_same _ g 6 _ _ (.int .u32 (n6 : Int)) h5
  rw [u32v_set] at h6
  have h7 := heap_setCell_same _ g 7 _ _ (.int .u32 (n7 : Int)) h6
  rw [u32v_set] at h7
  exact h7
theorem slice22 (g q n c : Nat) (hc : 64 ≤ c) (W : World) : (Instr.sliceAt 22 (.slice (some ⟨g, q, none⟩) n c) none (some (.int .i64 64)) none).run Tryd.prog W = .ok (.slice (some ⟨g, q, none⟩) 64 c) W := by
  have h1 : (sizeOf 5).run Tryd.prog W = .ok 1 W := by kernel_rfl
  have e : (⟨g, q, none⟩ : Addr).add 0 = ⟨g, q, none⟩ := add_at g q 0
  have n1 : ¬ c = 0 := by omega
  have n2 : (64 : Int) ≤ (c : Int) := by omega
  simp [Instr.sliceAt, Instr.slice, run_underlying Tryd.underlying22, Instr.sliceBounds, Instr.sliceBound, asIntOf, h1, e, n1, n2]
theorem owns_keep {w w' : World} {base g n cap : Nat} {xs : List Value} (h : w.ownsRow base 5 1 (.slice (some ⟨g, 0, none⟩) n cap) n xs) (e : w'.heap[g]? = w.heap[g]?) : w'.ownsRow base 5 1 (.slice (some ⟨g, 0, none⟩) n cap) n xs := by
  refine ⟨h.1, ?_⟩
  rcases h.2 with h2 | ⟨g', cap', cur, e1, h1, h2, h3⟩
  · exact .inl h2
  · cases e1
    exact .inr ⟨g, cap, cur, rfl, h1, e.trans h2, h3⟩
/-- What stays: the words at gs, the bytes and their padding at g2. -/
structure WhW (w : World) (gs g2 c2 : Nat) (A : List UInt8) (ss : List Nat) (wr : World) : Prop where
  r : wr.heap[gs]? = some (.cells (u32v ss) 26 (0, 0))
  o : wr.ownsRow w.heap.size 5 1 (.slice (some ⟨g2, 0, none⟩) A.length c2) A.length (bytesV A)
  b : Below w.heap.size w wr
section
variable {w wr w' : World} {gs g2 c2 : Nat} {A : List UInt8} {ss : List Nat}
theorem WhW.on (s : WhW w gs g2 c2 A ss wr) (hb : Below wr.heap.size wr w') : WhW w gs g2 c2 A ss w' :=
  ⟨(hb.block _ (lt_of_some s.r)).trans s.r, owns_keep s.o (hb.block _ (s.o.lt g2 rfl).2), s.b.trans (hb.mono s.b.size)⟩
theorem WhW.put (s : WhW w gs g2 c2 A ss wr) (hg : w.heap.size ≤ gs) (hn : g2 ≠ gs) (i x : Nat) : WhW w gs g2 c2 A (ss.set i x) (wr.setCell ⟨gs, i, none⟩ (.int .u32 (x : Int))) :=
  ⟨by rw [heap_setCell_same wr gs i _ _ _ s.r, u32v_set], owns_keep s.o (heap_setCell_other _ _ _ _ hn), s.b.setCell hg _⟩
theorem WhW.cell (s : WhW w gs g2 c2 A ss wr) (i : Nat) (hi : i < ss.length) : wr.cell? ⟨gs, i, none⟩ = some (.int .u32 ((ss.getD i 0 : Nat) : Int)) := by
  rw [cell_of_row wr gs i _ _ _ s.r, u32v_get ss i hi]
theorem WhW.fro (s : WhW w gs g2 c2 A ss wr) (i : Nat) : wr.frozen? ⟨gs, i, none⟩ = false := frozen_of_row wr gs i _ _ s.r
end

set_option maxRecDepth 100000 in
set_option maxHeartbeats 4000000 in
theorem walk (a0 : Option Addr) (len0 cap0 : Nat) (z0 : List Int) (w : World) (w0 : IsRow .u8 w a0 len0 cap0 z0) (hL : Laid w) :
    Calls Tryd.prog 3 #[.slice a0 len0 cap0] w fun e w' => e = .returned (.bool true) ∧ Below w.heap.size w w' := by
  have hnil := w0.nocap
  obtain ⟨bs, hb⟩ := w0.bsI
  have HLV : Hid (∀ W, Below w.heap.size w W → Calls Tryd.prog 5 #[] W fun e w' => e = .returned (.bool true) ∧ Below w.heap.size w w') := by
    intro W hW
    refine (lives_any W (hL.below hW)).mono ?_
    rintro e w' ⟨rfl, hb⟩
    exact ⟨rfl, hW.trans (hb.mono hW.size)⟩
  by_cases h3 : 1000 < len0
  · have hi : (1000 : Int) < (len0 : Int) := by omega
    clear w0 hb hL hnil
    go_enter Tryd.func3, Tryd.ntmps3
    go_wp2_with (go_at_call 5; refine (HLV.out _ (Below.refl _ _)).mono ?_; rintro e w' ⟨rfl, hb⟩)
    go_ret
    exact ⟨rfl, hb⟩
  · have hi : ¬ (1000 : Int) < (len0 : Int) := by omega
    have HL : Hid (Laid w) := hL
    have HB : Hid (BsI w a0 len0 cap0 bs) := hb
    have HNIL : Hid (a0 = none → cap0 = 0) := hnil
    have HLEN : Hid (bs.length = len0) := hb.1
    obtain ⟨P, hP⟩ : ∃ P, padL len0 = P := ⟨_, rfl⟩
    obtain ⟨Lp, hLp⟩ : ∃ Lp, P.length = Lp := ⟨_, rfl⟩
    have hlp : Lp ≤ 72 := by rw [← hLp, ← hP, padL_len]; unfold padZ; omega
    have HPD : Hid (∀ W, Calls Tryd.prog 6 #[.int .i64 (len0 : Int)] W fun e w' => e = .returned (.slice (some ⟨W.heap.size, 0, none⟩) Lp Lp) ∧ PadW W.heap.size W P w') := by
      intro W; have := pad_is len0 W (by omega); rw [hP, hLp] at this; exact this
    obtain ⟨A, hA⟩ : ∃ A, bs ++ P = A := ⟨_, rfl⟩
    have hAl : A.length = len0 + Lp := by rw [← hA, List.length_append, hb.1, hLp]
    have HA : Hid (allL bs = A) := by show bs ++ padL bs.length = A; rw [hb.1, hP, hA]
    have HAL : Hid (A.length = len0 + Lp) := hAl
    have H1 : Hid (∀ g1 c1 w2, w2.ownsRow w.heap.size 5 1 (.slice (some ⟨g1, 0, none⟩) (0 + len0) c1) (0 + len0) (bytesV ([] ++ bs)) → (w.alloc (.cells #[] 5)).grownBy w2 (some w.heap.size) → w2.ownsRow w.heap.size 5 1 (.slice (some ⟨g1, 0, none⟩) len0 c1) len0 (bytesV bs) ∧ Below w.heap.size w w2) := by
      intro g1 c1 w2 ho hg
      rw [Nat.zero_add, List.nil_append] at ho
      exact ⟨ho, ((Below.refl _ w).alloc (Nat.le_refl _) _).grown hg (by simp) (by intro k hk; cases hk; exact Nat.le_refl _)⟩
    have H2 : Hid (∀ g1 c1 w2 w3, w2.ownsRow w.heap.size 5 1 (.slice (some ⟨g1, 0, none⟩) len0 c1) len0 (bytesV bs) ∧ Below w.heap.size w w2 → PadW w2.heap.size w2 P w3 → w3.ownsRow w.heap.size 5 1 (.slice (some ⟨g1, 0, none⟩) len0 c1) len0 (bytesV bs) ∧ Below w.heap.size w w3 ∧ BsI w3 (some ⟨w2.heap.size, 0, none⟩) Lp Lp P) := by
      intro g1 c1 w2 w3 ho hp
      refine ⟨owns_keep ho.1 (hp.bl.block _ (ho.1.lt g1 rfl).2), ho.2.trans (hp.bl.mono ho.2.size), hLp, Nat.le_refl _, by omega, fun _ => ⟨w2.heap.size, 0, rfl, lt_of_some hp.c, fun i hi => ?_⟩⟩
      rw [Nat.zero_add]; exact hp.cell i (by omega)
    have H3 : Hid (∀ g1 c1 w3 g2 c2 w4, w3.ownsRow w.heap.size 5 1 (.slice (some ⟨g1, 0, none⟩) len0 c1) len0 (bytesV bs) → Below w.heap.size w w3 → w4.ownsRow w.heap.size 5 1 (.slice (some ⟨g2, 0, none⟩) (len0 + Lp) c2) (len0 + Lp) (bytesV (bs ++ P)) → w3.grownBy w4 (some g1) → WhW w w4.heap.size g2 c2 A (List.replicate 8 0) (w4.alloc (.cells #[Value.int IntKind.u32 0, Value.int IntKind.u32 0, Value.int IntKind.u32 0, Value.int IntKind.u32 0, Value.int IntKind.u32 0, Value.int IntKind.u32 0, Value.int IntKind.u32 0, Value.int IntKind.u32 0] 26)) ∧ w.heap.size ≤ w4.heap.size ∧ g2 < w4.heap.size) := by
      intro g1 c1 w3 g2 c2 w4 ho1 hB3 ho hg
      have hB4 : Below w.heap.size w w4 := hB3.grown hg hB3.size (by intro k hk; cases hk; exact (ho1.lt g1 rfl).1)
      have hlt := (ho.lt g2 rfl).2
      rw [← hAl, hA] at ho
      exact ⟨⟨heap_alloc_new _ _, owns_keep ho (Go.heap_alloc_old _ _ hlt), hB4.alloc hB4.size _⟩, hB4.size, hlt⟩
    have h200 : len0 ≤ 1000 := by omega
    clear w0 hb hL hnil hP hLp hA hAl h3
    go_enter Tryd.func3, Tryd.ntmps3
    go_wp2_with (first | (at_builtin; refine append_bs _ rfl (.tmp 15) (.tmp 16) rfl w.heap.size w.heap.size 0 0 [] rfl (World.ownsRow_made w #[] 0 (Nat.le_refl _) (by decide) rfl) a0 len0 cap0 bs rfl (HB.out.below ((Below.refl _ w).alloc (Nat.le_refl _) _)) HNIL.out (by omega) (by simp) ?_; intro g1 c1 w2 hown2 hgrow2; have HO2 : Hid (w2.ownsRow w.heap.size 5 1 (.slice (some ⟨g1, 0, none⟩) len0 c1) len0 (bytesV bs) ∧ Below w.heap.size w w2) := H1.out g1 c1 w2 hown2 hgrow2; clear hown2 hgrow2) | (go_at_call 6; refine (HPD.out _).mono ?_; rintro e w3 ⟨rfl, hp3⟩; have HO3 : Hid (w3.ownsRow w.heap.size 5 1 (.slice (some ⟨g1, 0, none⟩) len0 c1) len0 (bytesV bs) ∧ Below w.heap.size w w3 ∧ BsI w3 (some ⟨w2.heap.size, 0, none⟩) Lp Lp P) := H2.out g1 c1 w2 w3 HO2.out hp3; clear hp3) | (at_builtin; refine append_bs _ rfl (.tmp 18) (.tmp 21) rfl w.heap.size g1 len0 c1 bs rfl HO3.out.1 (some ⟨w2.heap.size, 0, none⟩) Lp Lp P rfl HO3.out.2.2 (fun h => by cases h) (by omega) HO3.out.2.1.size ?_; intro g2 c2 w4 hown4 hgrow4; have HW4 : Hid (WhW w w4.heap.size g2 c2 A (List.replicate 8 0) (w4.alloc (.cells #[Value.int IntKind.u32 0, Value.int IntKind.u32 0, Value.int IntKind.u32 0, Value.int IntKind.u32 0, Value.int IntKind.u32 0, Value.int IntKind.u32 0, Value.int IntKind.u32 0, Value.int IntKind.u32 0] 26)) ∧ w.heap.size ≤ w4.heap.size ∧ g2 < w4.heap.size) := H3.out g1 c1 w3 g2 c2 w4 HO3.out.1 HO3.out.2.1 hown4 hgrow4; clear hown4 hgrow4))
    have hgs := HW4.out.2.1
    have hg2 := HW4.out.2.2
    obtain ⟨gs, hgse⟩ : ∃ gs, w4.heap.size = gs := ⟨_, rfl⟩
    have HST : Hid (WhW w gs g2 c2 A (List.replicate 8 0) (w4.alloc (.cells #[Value.int IntKind.u32 0, Value.int IntKind.u32 0, Value.int IntKind.u32 0, Value.int IntKind.u32 0, Value.int IntKind.u32 0, Value.int IntKind.u32 0, Value.int IntKind.u32 0, Value.int IntKind.u32 0] 26))) := hgse ▸ HW4.out.1
    rw [hgse] at hgs hg2 ⊢
    clear HW4 HO3 HO2 H1 H2 H3 HPD HNIL
    go_loopw [5] (fun i wr => ∃ t : Nat, t ≤ 8 ∧ i = .int .i64 t ∧ WhW w gs g2 c2 A (ivL.take t ++ List.replicate (8 - t) 0) wr) (fun i _ => 8 - (intOf i).toNat)
    case atStart => exact ⟨0, by omega, rfl, HST.out⟩
    case round =>
      clear HST
      obtain ⟨t, ht, rfl, hst⟩ := hrel
      by_cases hlt : t < 8
      · obtain ⟨R, hR⟩ : ∃ R, rootW (primeN t) false = R := ⟨_, rfl⟩
        have hp541 := (primes_ok ⟨t, by omega⟩).2.2.2
        simp only at hp541
        have HPR : Hid (∀ W, Calls Tryd.prog 8 #[.int .i64 (t : Int)] W fun e w' => e = .returned (.int .u32 (primeN t : Int)) ∧ w' = W) := fun W => prime0 t W (by omega)
        have HRT : Hid (∀ W, Calls Tryd.prog 7 #[.int .u32 (primeN t : Int), .bool false] W fun e w' => e = .returned (.int .u32 (R : Int)) ∧ w' = W) := by
          intro W; have := root_is (primeN t) false W (by omega); rw [hR] at this; exact this
        obtain ⟨y, cy⟩ : ∃ y : Nat, wr.cell? ⟨gs, t, none⟩ = some (.int .u32 (y : Int)) := ⟨_, hst.cell t (by simp [ivL_len]; omega)⟩
        have fy := hst.fro t
        have kt : (t : Int) < 8 := by omega
        have HST : Hid (WhW w gs g2 c2 A (ivL.take (t + 1) ++ List.replicate (8 - (t + 1)) 0) (wr.setCell ⟨gs, t, none⟩ (.int .u32 (R : Int)))) := by
          have h := hst.put hgs (by omega) t R
          have el : (ivL.take t).length = t := by simp [ivL_len]; omega
          have es := set_mid (ivL.take t) (8 - (t + 1)) R
          rw [el, show 8 - (t + 1) + 1 = 8 - t by omega] at es
          rw [es, ← hR, ← ivL_snoc t hlt, hR] at h
          exact h
        revert HPR HRT
        generalize primeN t = pt
        intro HPR HRT
        clear hst hR hp541
        go_wp2_with (first | (go_at_call 8; refine (HPR.out _).mono ?_; rintro e w' ⟨rfl, hw⟩; subst w') | (go_at_call 7; refine (HRT.out _).mono ?_; rintro e w' ⟨rfl, hw⟩; subst w'))
        exact ⟨⟨t + 1, by omega, by go_num, HST.out⟩, by simp [intOf]; omega⟩
      · obtain rfl : t = 8 := by omega
        have e8 : ivL.take 8 ++ List.replicate (8 - 8) 0 = ivL := by rw [List.take_of_length_le (by rw [ivL_len]; omega)]; simp
        rw [e8] at hst
        have HST : Hid (WhW w gs g2 c2 A ivL wr) := hst
        clear hst e8
        have hn0 := (BsI.owned HST.out.o).2.1
        have hn1 := (BsI.owned HST.out.o).2.2.1
        rw [HAL.out] at hn0
        go_wp2
        go_loopw [3] (fun al wr => ∃ (j q : Nat) (a' : Option Addr) (n c' : Nat), q = 64 * j ∧ q + n = len0 + Lp ∧ al = .slice a' n c' ∧ n ≤ c' ∧ c' ≤ 9223372036854775807 ∧ (∃ ad, a' = some ad ∧ (0 < n → ad = ⟨g2, q, none⟩)) ∧ WhW w gs g2 c2 A (mixTo A j) wr) (fun al _ => sliceN al)
        case atStart => exact ⟨0, 0, _, len0 + Lp, c2, rfl, by omega, rfl, hn0, hn1, ⟨_, rfl, fun _ => rfl⟩, HST.out⟩
        case round =>
          clear HST
          obtain ⟨j, q, a', n, c', hq, hqn, rfl, hnc, hc63, ⟨ad, rfl, hap⟩, hst⟩ := hrel
          by_cases h64 : 64 ≤ n
          · obtain rfl := hap (by omega)
            clear hap
            obtain ⟨s0, s1, s2, s3, s4, s5, s6, s7, hss, hsw⟩ := mixTo_eight A j
            rw [hss] at hst
            obtain ⟨n0, n1, n2, n3, n4, n5, n6, n7, hnn, _⟩ := mixL_eight kL [s0, s1, s2, s3, s4, s5, s6, s7] (A.drop q) ⟨_, _, _, _, _, _, _, _, rfl, hsw⟩
            have HNX : Hid (mixTo A (j + 1) = [n0, n1, n2, n3, n4, n5, n6, n7]) := by
              show mixL kL (mixTo A j) ((A.drop (64 * j)).take 64) = _
              rw [hss, mixL_take, ← hq, hnn]
            have HMX : Hid (∀ W, WhW w gs g2 c2 A [s0, s1, s2, s3, s4, s5, s6, s7] W → Calls Tryd.prog 9 #[.agg #[.int .u32 (s0 : Int), .int .u32 (s1 : Int), .int .u32 (s2 : Int), .int .u32 (s3 : Int), .int .u32 (s4 : Int), .int .u32 (s5 : Int), .int .u32 (s6 : Int), .int .u32 (s7 : Int)], .slice (some ⟨g2, q, none⟩) 64 c'] W fun e w' => e = .returned (.tuple #[.agg #[.int .u32 (n0 : Int), .int .u32 (n1 : Int), .int .u32 (n2 : Int), .int .u32 (n3 : Int), .int .u32 (n4 : Int), .int .u32 (n5 : Int), .int .u32 (n6 : Int), .int .u32 (n7 : Int)], .int .i64 0]) ∧ Below W.heap.size W w') := by
              intro W s
              refine mix_is ⟨g2, q, none⟩ c' (A.drop q) s0 s1 s2 s3 s4 s5 s6 s7 n0 n1 n2 n3 n4 n5 n6 n7 W hsw (s.o.lt g2 rfl).2 (fun i hi => ?_) (HL.out.below s.b) hnn
              obtain ⟨bb, bo, e, _, hc⟩ := (BsI.owned s.o).2.2.2 (by rw [HAL.out]; omega)
              cases e
              have := hc (q + i) (by rw [HAL.out]; omega)
              rw [Nat.zero_add] at this
              rw [add_at, this]
              congr 3
              rw [List.getD_eq_getElem?_getD, List.getD_eq_getElem?_getD, List.getElem?_drop]
            have HSTD : Hid (WhW w gs g2 c2 A [s0, s1, s2, s3, s4, s5, s6, s7] wr.drew) := hst.on ((Below.refl _ _).drew)
            have HST : Hid (WhW w gs g2 c2 A [s0, s1, s2, s3, s4, s5, s6, s7] wr) := hst
            have HSC : Hid (∀ W, Below wr.heap.size wr W → W.cell? ⟨gs, 0, none⟩ = some (.int .u32 (s0 : Int)) ∧ W.cell? ⟨gs, 1, none⟩ = some (.int .u32 (s1 : Int)) ∧ W.cell? ⟨gs, 2, none⟩ = some (.int .u32 (s2 : Int)) ∧ W.cell? ⟨gs, 3, none⟩ = some (.int .u32 (s3 : Int)) ∧ W.cell? ⟨gs, 4, none⟩ = some (.int .u32 (s4 : Int)) ∧ W.cell? ⟨gs, 5, none⟩ = some (.int .u32 (s5 : Int)) ∧ W.cell? ⟨gs, 6, none⟩ = some (.int .u32 (s6 : Int)) ∧ W.cell? ⟨gs, 7, none⟩ = some (.int .u32 (s7 : Int))) := by
              intro W hW
              have s := HST.out.on hW
              exact ⟨s.cell 0 (by simp), s.cell 1 (by simp), s.cell 2 (by simp), s.cell 3 (by simp), s.cell 4 (by simp), s.cell 5 (by simp), s.cell 6 (by simp), s.cell 7 (by simp)⟩
            have hslo : ∀ W : World, (Instr.sliceAt 22 (.slice (some ⟨g2, q, none⟩) n c') none (some (.int .i64 64)) none).run Tryd.prog W = .ok (.slice (some ⟨g2, q, none⟩) 64 c') W := fun W => slice22 g2 q n c' (by omega) W
            obtain ⟨ad', had, had'⟩ : ∃ ad', (if c' = 64 then some (⟨g2, q, none⟩ : Addr) else some ⟨g2, q + 64, none⟩) = some ad' ∧ (0 < n - 64 → ad' = ⟨g2, q + 64, none⟩) := by
              by_cases hc : c' = 64
              · exact ⟨_, if_pos hc, fun h => by omega⟩
              · exact ⟨_, if_neg hc, fun _ => rfl⟩
            have HSN : Hid (∀ W : World, (Instr.sliceAt 22 (.slice (some ⟨g2, q, none⟩) n c') (some (.int .i64 64)) none none).run Tryd.prog W = .ok (.slice (some ad') (n - 64) (c' - 64)) W) := by
              intro W
              have := slice28 g2 q n c' 64 h64 W
              rw [had] at this
              exact this
            have HAD : Hid (0 < n - 64 → ad' = ⟨g2, q + 64, none⟩) := had'
            clear had had'
            have HQ : Hid (q = 64 * j) := hq
            have d1 : (64 : Int) ≤ (n : Int) := by omega
            clear hst hss hsw hnn hq
            go_wp2
            refine wp_region_held_drew (S := fun W => W.cell? ⟨gs, 0, none⟩ = some (.int .u32 (s0 : Int)) ∧ W.cell? ⟨gs, 1, none⟩ = some (.int .u32 (s1 : Int)) ∧ W.cell? ⟨gs, 2, none⟩ = some (.int .u32 (s2 : Int)) ∧ W.cell? ⟨gs, 3, none⟩ = some (.int .u32 (s3 : Int)) ∧ W.cell? ⟨gs, 4, none⟩ = some (.int .u32 (s4 : Int)) ∧ W.cell? ⟨gs, 5, none⟩ = some (.int .u32 (s5 : Int)) ∧ W.cell? ⟨gs, 6, none⟩ = some (.int .u32 (s6 : Int)) ∧ W.cell? ⟨gs, 7, none⟩ = some (.int .u32 (s7 : Int))) (by kernel_rfl) (HSC.out _ (Below.refl _ _).drew) (fun hHeld => ?_)
            refine wpAnyH_take (i := 0) (v := ?vg12_0) rfl (by kernel_rfl) (by kernel_rfl) (by kernel_rfl) (fun _ _ _ h => h) (Or.inl ⟨by kernel_rfl, ?yg12_0⟩) hHeld ?rg12_0
            case yg12_0 => (intro W hSW; (try dsimp only at hSW); go_simp; (try with_reducible rfl))
            change wpAnyH _ _ _ _ _ _ _ (Act.put _ (some 36) _) _
            simp only [Act.put, List.setIfInBounds_toArray, List.set_cons_zero, List.set_cons_succ]
            refine wpAnyH_take (i := 1) (v := ?vg12_1) rfl (by kernel_rfl) (by kernel_rfl) (by kernel_rfl) (fun _ _ _ h => h) (Or.inl ⟨by kernel_rfl, ?yg12_1⟩) hHeld ?rg12_1
            case yg12_1 => (intro W hSW; (try dsimp only at hSW); go_simp; (try with_reducible rfl))
            change wpAnyH _ _ _ _ _ _ _ (Act.put _ (some 37) _) _
            simp only [Act.put, List.setIfInBounds_toArray, List.set_cons_zero, List.set_cons_succ]
            refine wpAnyH_take (i := 2) (v := ?vg12_2) rfl (by kernel_rfl) (by kernel_rfl) (by kernel_rfl) (fun _ _ _ h => h) (Or.inl ⟨by kernel_rfl, ?yg12_2⟩) hHeld ?rg12_2
            case yg12_2 => (intro W hSW; (try dsimp only at hSW); go_simp; (try with_reducible rfl))
            change wpAnyH _ _ _ _ _ _ _ (Act.put _ (some 38) _) _
            simp only [Act.put, List.setIfInBounds_toArray, List.set_cons_zero, List.set_cons_succ]
            refine wpAnyH_ready (rs := [3, 7]) (by kernel_rfl) (by simp) ?_
            refine AllReadyH.cons rfl (fun K hK => ?_) (AllReadyH.cons rfl (fun K hK => ?_) AllReadyH.nil)
            · go_simp
              refine (HMX.out _ HSTD.out).mono ?_
              rintro e w6 ⟨rfl, hb6⟩
              have HB6 : Hid (Below wr.heap.size wr w6) := undrew hb6
              clear hb6
              refine hK.out _ _ (HSC.out _ HB6.out) (fun hHeld => ?_)
              clear hK K
              try simp only [Act.put, List.setIfInBounds_toArray, List.set_cons_zero, List.set_cons_succ]
              refine wpAnyH_take (i := 4) (v := ?vgA_4) rfl (by kernel_rfl) (by kernel_rfl) (by kernel_rfl) (fun _ _ _ h => h) (Or.inl ⟨by kernel_rfl, ?ygA_4⟩) hHeld ?rgA_4
              case ygA_4 => (intro W hSW; (try dsimp only at hSW); go_simp; (try with_reducible rfl))
              change wpAnyH _ _ _ _ _ _ _ (Act.put _ (some 35) _) _
              simp only [Act.put, List.setIfInBounds_toArray, List.set_cons_zero, List.set_cons_succ]
              refine wpAnyH_take (i := 5) (v := ?vgA_5) rfl (by kernel_rfl) (by kernel_rfl) (by kernel_rfl) (fun _ _ _ h => h) (Or.inl ⟨by kernel_rfl, ?ygA_5⟩) hHeld ?rgA_5
              case ygA_5 => (intro W hSW; (try dsimp only at hSW); go_simp; (try with_reducible rfl))
              change wpAnyH _ _ _ _ _ _ _ (Act.put _ (some 40) _) _
              simp only [Act.put, List.setIfInBounds_toArray, List.set_cons_zero, List.set_cons_succ]
              refine wpAnyH_take (i := 6) (v := ?vgA_6) rfl (by kernel_rfl) (by kernel_rfl) (by kernel_rfl) (fun _ _ _ h => h) (Or.inl ⟨by kernel_rfl, ?ygA_6⟩) hHeld ?rgA_6
              case ygA_6 => (intro W hSW; (try dsimp only at hSW); go_simp; (try with_reducible rfl))
              change wpAnyH _ _ _ _ _ _ _ (Act.put _ (some 41) _) _
              simp only [Act.put, List.setIfInBounds_toArray, List.set_cons_zero, List.set_cons_succ]
              refine wpAnyH_ready (rs := [7]) (by kernel_rfl) (by simp) ?_
              refine AllReadyH.cons rfl (fun K hK => ?_) AllReadyH.nil
              go_simp
              refine hK.out _ _ (HSC.out _ (HB6.out.alloc HB6.out.size _)) (fun hHeld => ?_)
              clear hK K
              refine wpAnyH_ready (rs := [8]) (by kernel_rfl) (by simp) ?_
              refine AllReadyH.cons rfl (fun K hK => ?_) AllReadyH.nil
              go_simp
              refine hK.out _ _ (HSC.out _ (HB6.out.alloc HB6.out.size _)) (fun hHeld => ?_)
              clear hK K
              refine wpAnyH_take (i := 9) (v := ?vgA_9) rfl (by kernel_rfl) (by kernel_rfl) (by kernel_rfl) (fun _ _ _ h => h) (Or.inl ⟨by kernel_rfl, ?ygA_9⟩) hHeld ?rgA_9
              case ygA_9 => (intro W hSW; (try dsimp only at hSW); go_simp; (try with_reducible rfl))
              change wpAnyH _ _ _ _ _ _ _ (Act.put _ (some 7) _) _
              simp only [Act.put, List.setIfInBounds_toArray, List.set_cons_zero, List.set_cons_succ]
              refine wpAnyH_done (by kernel_rfl) ?_ _
              obtain ⟨W5, hW5⟩ : ∃ W, W = w6.alloc (.cells #[.int .u32 (n0 : Int), .int .u32 (n1 : Int), .int .u32 (n2 : Int), .int .u32 (n3 : Int), .int .u32 (n4 : Int), .int .u32 (n5 : Int), .int .u32 (n6 : Int), .int .u32 (n7 : Int)] 26) := ⟨_, rfl⟩
              rw [← hW5]
              have hB5 : Below wr.heap.size wr W5 := by rw [hW5]; exact HB6.out.alloc HB6.out.size _
              have hr6 : W5.heap[w6.heap.size]? = some (.cells (u32v [n0, n1, n2, n3, n4, n5, n6, n7]) 26 (0, 0)) := by rw [hW5]; exact heap_alloc_new _ _
              clear hW5
              have hc0 : W5.cell? ⟨w6.heap.size, 0, none⟩ = some (.int .u32 (n0 : Int)) := by rw [cell_of_row W5 _ 0 _ _ _ hr6]; rfl
              have hc1 : W5.cell? ⟨w6.heap.size, 1, none⟩ = some (.int .u32 (n1 : Int)) := by rw [cell_of_row W5 _ 1 _ _ _ hr6]; rfl
              have hc2 : W5.cell? ⟨w6.heap.size, 2, none⟩ = some (.int .u32 (n2 : Int)) := by rw [cell_of_row W5 _ 2 _ _ _ hr6]; rfl
              have hc3 : W5.cell? ⟨w6.heap.size, 3, none⟩ = some (.int .u32 (n3 : Int)) := by rw [cell_of_row W5 _ 3 _ _ _ hr6]; rfl
              have hc4 : W5.cell? ⟨w6.heap.size, 4, none⟩ = some (.int .u32 (n4 : Int)) := by rw [cell_of_row W5 _ 4 _ _ _ hr6]; rfl
              have hc5 : W5.cell? ⟨w6.heap.size, 5, none⟩ = some (.int .u32 (n5 : Int)) := by rw [cell_of_row W5 _ 5 _ _ _ hr6]; rfl
              have hc6 : W5.cell? ⟨w6.heap.size, 6, none⟩ = some (.int .u32 (n6 : Int)) := by rw [cell_of_row W5 _ 6 _ _ _ hr6]; rfl
              have hc7 : W5.cell? ⟨w6.heap.size, 7, none⟩ = some (.int .u32 (n7 : Int)) := by rw [cell_of_row W5 _ 7 _ _ _ hr6]; rfl
              have sW : WhW w gs g2 c2 A [s0, s1, s2, s3, s4, s5, s6, s7] W5 := HST.out.on hB5
              have hs0 : W5.cell? ⟨gs, 0, none⟩ = some (.int .u32 (s0 : Int)) := sW.cell 0 (by simp)
              have hf0 : W5.frozen? ⟨gs, 0, none⟩ = false := sW.fro 0
              have hs1 : W5.cell? ⟨gs, 1, none⟩ = some (.int .u32 (s1 : Int)) := sW.cell 1 (by simp)
              have hf1 : W5.frozen? ⟨gs, 1, none⟩ = false := sW.fro 1
              have hs2 : W5.cell? ⟨gs, 2, none⟩ = some (.int .u32 (s2 : Int)) := sW.cell 2 (by simp)
              have hf2 : W5.frozen? ⟨gs, 2, none⟩ = false := sW.fro 2
              have hs3 : W5.cell? ⟨gs, 3, none⟩ = some (.int .u32 (s3 : Int)) := sW.cell 3 (by simp)
              have hf3 : W5.frozen? ⟨gs, 3, none⟩ = false := sW.fro 3
              have hs4 : W5.cell? ⟨gs, 4, none⟩ = some (.int .u32 (s4 : Int)) := sW.cell 4 (by simp)
              have hf4 : W5.frozen? ⟨gs, 4, none⟩ = false := sW.fro 4
              have hs5 : W5.cell? ⟨gs, 5, none⟩ = some (.int .u32 (s5 : Int)) := sW.cell 5 (by simp)
              have hf5 : W5.frozen? ⟨gs, 5, none⟩ = false := sW.fro 5
              have hs6 : W5.cell? ⟨gs, 6, none⟩ = some (.int .u32 (s6 : Int)) := sW.cell 6 (by simp)
              have hf6 : W5.frozen? ⟨gs, 6, none⟩ = false := sW.fro 6
              have hs7 : W5.cell? ⟨gs, 7, none⟩ = some (.int .u32 (s7 : Int)) := sW.cell 7 (by simp)
              have hf7 : W5.frozen? ⟨gs, 7, none⟩ = false := sW.fro 7
              have HS5 : Hid (WhW w gs g2 c2 A [s0, s1, s2, s3, s4, s5, s6, s7] W5) := sW
              have hsn := HSN.out
              clear sW hr6 hB5 hHeld hslo
              go_wp2
              refine ⟨?_, ?measure⟩
              refine ⟨_, _, _, _, _, _, _, _, _, _, _, _, _, _, _, _, _, _, _, ?rel, rfl⟩
              case measure => (show n - 64 < n; omega)
              case rel =>
                refine ⟨j + 1, q + 64, _, n - 64, c' - 64, by have := HQ.out; omega, by omega, rfl, by omega, by omega, ⟨ad', rfl, HAD.out⟩, ?_⟩
                rw [HNX.out]
                exact ((((((((HS5.out.put hgs (by omega) 0 n0).put hgs (by omega) 1 n1).put hgs (by omega) 2 n2).put hgs (by omega) 3 n3).put hgs (by omega) 4 n4).put hgs (by omega) 5 n5).put hgs (by omega) 6 n6).put hgs (by omega) 7 n7)
            · go_simp
              refine hK.out _ _ (HSC.out _ ((Below.refl _ _).drew.alloc (Nat.le_refl _) _)) (fun hHeld => ?_)
              clear hK K
              try simp only [Act.put, List.setIfInBounds_toArray, List.set_cons_zero, List.set_cons_succ]
              refine wpAnyH_ready (rs := [3]) (by kernel_rfl) (by simp) ?_
              refine AllReadyH.cons rfl (fun K hK => ?_) AllReadyH.nil
              go_simp
              refine (HMX.out _ (HSTD.out.on ((Below.refl _ _).alloc (Nat.le_refl _) _))).mono ?_
              rintro e w7 ⟨rfl, hb7⟩
              have hz7 : w7.heap[wr.heap.size]? = some (.cells (u32v [0, 0, 0, 0, 0, 0, 0, 0]) 26 (0, 0)) := (hb7.block _ (by simp)).trans (heap_alloc_new wr.drew _)
              have hb7' : Below wr.heap.size wr w7 := ((Below.refl _ wr).drew.alloc (Nat.le_refl _) _).trans (hb7.mono (by simp))
              have HB7 : Hid (Below wr.heap.size wr w7) := hb7'
              clear hb7 hb7'
              refine hK.out _ _ (HSC.out _ HB7.out) (fun hHeld => ?_)
              clear hK K
              try simp only [Act.put, List.setIfInBounds_toArray, List.set_cons_zero, List.set_cons_succ]
              have zc0 : w7.cell? ⟨wr.heap.size, 0, none⟩ = some (.int .u32 0) := by rw [cell_of_row w7 _ 0 _ _ _ hz7]; rfl
              have zf0 : w7.frozen? ⟨wr.heap.size, 0, none⟩ = false := frozen_of_row w7 _ 0 _ _ hz7
              have zc1 : w7.cell? ⟨wr.heap.size, 1, none⟩ = some (.int .u32 0) := by rw [cell_of_row w7 _ 1 _ _ _ hz7]; rfl
              have zf1 : w7.frozen? ⟨wr.heap.size, 1, none⟩ = false := frozen_of_row w7 _ 1 _ _ hz7
              have zc2 : w7.cell? ⟨wr.heap.size, 2, none⟩ = some (.int .u32 0) := by rw [cell_of_row w7 _ 2 _ _ _ hz7]; rfl
              have zf2 : w7.frozen? ⟨wr.heap.size, 2, none⟩ = false := frozen_of_row w7 _ 2 _ _ hz7
              have zc3 : w7.cell? ⟨wr.heap.size, 3, none⟩ = some (.int .u32 0) := by rw [cell_of_row w7 _ 3 _ _ _ hz7]; rfl
              have zf3 : w7.frozen? ⟨wr.heap.size, 3, none⟩ = false := frozen_of_row w7 _ 3 _ _ hz7
              have zc4 : w7.cell? ⟨wr.heap.size, 4, none⟩ = some (.int .u32 0) := by rw [cell_of_row w7 _ 4 _ _ _ hz7]; rfl
              have zf4 : w7.frozen? ⟨wr.heap.size, 4, none⟩ = false := frozen_of_row w7 _ 4 _ _ hz7
              have zc5 : w7.cell? ⟨wr.heap.size, 5, none⟩ = some (.int .u32 0) := by rw [cell_of_row w7 _ 5 _ _ _ hz7]; rfl
              have zf5 : w7.frozen? ⟨wr.heap.size, 5, none⟩ = false := frozen_of_row w7 _ 5 _ _ hz7
              have zc6 : w7.cell? ⟨wr.heap.size, 6, none⟩ = some (.int .u32 0) := by rw [cell_of_row w7 _ 6 _ _ _ hz7]; rfl
              have zf6 : w7.frozen? ⟨wr.heap.size, 6, none⟩ = false := frozen_of_row w7 _ 6 _ _ hz7
              have zc7 : w7.cell? ⟨wr.heap.size, 7, none⟩ = some (.int .u32 0) := by rw [cell_of_row w7 _ 7 _ _ _ hz7]; rfl
              have zf7 : w7.frozen? ⟨wr.heap.size, 7, none⟩ = false := frozen_of_row w7 _ 7 _ _ hz7
              have HZ7 : Hid (w7.heap[wr.heap.size]? = some (.cells (u32v [0, 0, 0, 0, 0, 0, 0, 0]) 26 (0, 0))) := hz7
              clear hz7
              refine wpAnyH_take (i := 4) (v := ?vgB_4) rfl (by kernel_rfl) (by kernel_rfl) (by kernel_rfl) (fun _ _ _ h => h) (Or.inl ⟨by kernel_rfl, ?ygB_4⟩) hHeld ?rgB_4
              case ygB_4 => (intro W hSW; (try dsimp only at hSW); go_simp; (try with_reducible rfl))
              change wpAnyH _ _ _ _ _ _ _ (Act.put _ (some 35) _) _
              simp only [Act.put, List.setIfInBounds_toArray, List.set_cons_zero, List.set_cons_succ]
              refine wpAnyH_take (i := 5) (v := ?vgB_5) rfl (by kernel_rfl) (by kernel_rfl) (by kernel_rfl) (fun _ _ _ h => h) (Or.inl ⟨by kernel_rfl, ?ygB_5⟩) hHeld ?rgB_5
              case ygB_5 => (intro W hSW; (try dsimp only at hSW); go_simp; (try with_reducible rfl))
              change wpAnyH _ _ _ _ _ _ _ (Act.put _ (some 40) _) _
              simp only [Act.put, List.setIfInBounds_toArray, List.set_cons_zero, List.set_cons_succ]
              refine wpAnyH_take (i := 6) (v := ?vgB_6) rfl (by kernel_rfl) (by kernel_rfl) (by kernel_rfl) (fun _ _ _ h => h) (Or.inl ⟨by kernel_rfl, ?ygB_6⟩) hHeld ?rgB_6
              case ygB_6 => (intro W hSW; (try dsimp only at hSW); go_simp; (try with_reducible rfl))
              change wpAnyH _ _ _ _ _ _ _ (Act.put _ (some 41) _) _
              simp only [Act.put, List.setIfInBounds_toArray, List.set_cons_zero, List.set_cons_succ]
              refine wpAnyH_ready (rs := [8]) (by kernel_rfl) (by simp) ?_
              refine AllReadyH.cons rfl (fun K hK => ?_) AllReadyH.nil
              go_simp
              refine hK.out _ _ (HSC.out _ ((((((((HB7.out.setCell (Nat.le_refl _) _).setCell (Nat.le_refl _) _).setCell (Nat.le_refl _) _).setCell (Nat.le_refl _) _).setCell (Nat.le_refl _) _).setCell (Nat.le_refl _) _).setCell (Nat.le_refl _) _).setCell (Nat.le_refl _) _)) (fun hHeld => ?_)
              clear hK K
              refine wpAnyH_take (i := 9) (v := ?vgB_9) rfl (by kernel_rfl) (by kernel_rfl) (by kernel_rfl) (fun _ _ _ h => h) (Or.inl ⟨by kernel_rfl, ?ygB_9⟩) hHeld ?rgB_9
              case ygB_9 => (intro W hSW; (try dsimp only at hSW); go_simp; (try with_reducible rfl))
              change wpAnyH _ _ _ _ _ _ _ (Act.put _ (some 7) _) _
              simp only [Act.put, List.setIfInBounds_toArray, List.set_cons_zero, List.set_cons_succ]
              refine wpAnyH_done (by kernel_rfl) ?_ _
              obtain ⟨W5, hW5⟩ : ∃ W, W = ((((((((w7.setCell ⟨wr.heap.size, 0, none⟩ (.int .u32 (n0 : Int))).setCell ⟨wr.heap.size, 1, none⟩ (.int .u32 (n1 : Int))).setCell ⟨wr.heap.size, 2, none⟩ (.int .u32 (n2 : Int))).setCell ⟨wr.heap.size, 3, none⟩ (.int .u32 (n3 : Int))).setCell ⟨wr.heap.size, 4, none⟩ (.int .u32 (n4 : Int))).setCell ⟨wr.heap.size, 5, none⟩ (.int .u32 (n5 : Int))).setCell ⟨wr.heap.size, 6, none⟩ (.int .u32 (n6 : Int))).setCell ⟨wr.heap.size, 7, none⟩ (.int .u32 (n7 : Int))) := ⟨_, rfl⟩
              rw [← hW5]
              have hB5 : Below wr.heap.size wr W5 := by rw [hW5]; exact ((((((((HB7.out.setCell (Nat.le_refl _) _).setCell (Nat.le_refl _) _).setCell (Nat.le_refl _) _).setCell (Nat.le_refl _) _).setCell (Nat.le_refl _) _).setCell (Nat.le_refl _) _).setCell (Nat.le_refl _) _).setCell (Nat.le_refl _) _)
              have hr6 : W5.heap[wr.heap.size]? = some (.cells (u32v [n0, n1, n2, n3, n4, n5, n6, n7]) 26 (0, 0)) := by rw [hW5]; exact row_put8 w7 wr.heap.size n0 n1 n2 n3 n4 n5 n6 n7 HZ7.out
              clear hW5 zc0 zc1 zc2 zc3 zc4 zc5 zc6 zc7 zf0 zf1 zf2 zf3 zf4 zf5 zf6 zf7
              have hc0 : W5.cell? ⟨wr.heap.size, 0, none⟩ = some (.int .u32 (n0 : Int)) := by rw [cell_of_row W5 _ 0 _ _ _ hr6]; rfl
              have hc1 : W5.cell? ⟨wr.heap.size, 1, none⟩ = some (.int .u32 (n1 : Int)) := by rw [cell_of_row W5 _ 1 _ _ _ hr6]; rfl
              have hc2 : W5.cell? ⟨wr.heap.size, 2, none⟩ = some (.int .u32 (n2 : Int)) := by rw [cell_of_row W5 _ 2 _ _ _ hr6]; rfl
              have hc3 : W5.cell? ⟨wr.heap.size, 3, none⟩ = some (.int .u32 (n3 : Int)) := by rw [cell_of_row W5 _ 3 _ _ _ hr6]; rfl
              have hc4 : W5.cell? ⟨wr.heap.size, 4, none⟩ = some (.int .u32 (n4 : Int)) := by rw [cell_of_row W5 _ 4 _ _ _ hr6]; rfl
              have hc5 : W5.cell? ⟨wr.heap.size, 5, none⟩ = some (.int .u32 (n5 : Int)) := by rw [cell_of_row W5 _ 5 _ _ _ hr6]; rfl
              have hc6 : W5.cell? ⟨wr.heap.size, 6, none⟩ = some (.int .u32 (n6 : Int)) := by rw [cell_of_row W5 _ 6 _ _ _ hr6]; rfl
              have hc7 : W5.cell? ⟨wr.heap.size, 7, none⟩ = some (.int .u32 (n7 : Int)) := by rw [cell_of_row W5 _ 7 _ _ _ hr6]; rfl
              have sW : WhW w gs g2 c2 A [s0, s1, s2, s3, s4, s5, s6, s7] W5 := HST.out.on hB5
              have hs0 : W5.cell? ⟨gs, 0, none⟩ = some (.int .u32 (s0 : Int)) := sW.cell 0 (by simp)
              have hf0 : W5.frozen? ⟨gs, 0, none⟩ = false := sW.fro 0
              have hs1 : W5.cell? ⟨gs, 1, none⟩ = some (.int .u32 (s1 : Int)) := sW.cell 1 (by simp)
              have hf1 : W5.frozen? ⟨gs, 1, none⟩ = false := sW.fro 1
              have hs2 : W5.cell? ⟨gs, 2, none⟩ = some (.int .u32 (s2 : Int)) := sW.cell 2 (by simp)
              have hf2 : W5.frozen? ⟨gs, 2, none⟩ = false := sW.fro 2
              have hs3 : W5.cell? ⟨gs, 3, none⟩ = some (.int .u32 (s3 : Int)) := sW.cell 3 (by simp)
              have hf3 : W5.frozen? ⟨gs, 3, none⟩ = false := sW.fro 3
              have hs4 : W5.cell? ⟨gs, 4, none⟩ = some (.int .u32 (s4 : Int)) := sW.cell 4 (by simp)
              have hf4 : W5.frozen? ⟨gs, 4, none⟩ = false := sW.fro 4
              have hs5 : W5.cell? ⟨gs, 5, none⟩ = some (.int .u32 (s5 : Int)) := sW.cell 5 (by simp)
              have hf5 : W5.frozen? ⟨gs, 5, none⟩ = false := sW.fro 5
              have hs6 : W5.cell? ⟨gs, 6, none⟩ = some (.int .u32 (s6 : Int)) := sW.cell 6 (by simp)
              have hf6 : W5.frozen? ⟨gs, 6, none⟩ = false := sW.fro 6
              have hs7 : W5.cell? ⟨gs, 7, none⟩ = some (.int .u32 (s7 : Int)) := sW.cell 7 (by simp)
              have hf7 : W5.frozen? ⟨gs, 7, none⟩ = false := sW.fro 7
              have HS5 : Hid (WhW w gs g2 c2 A [s0, s1, s2, s3, s4, s5, s6, s7] W5) := sW
              have hsn := HSN.out
              clear sW hr6 hB5 hHeld hslo
              go_wp2
              refine ⟨?_, ?measure⟩
              refine ⟨_, _, _, _, _, _, _, _, _, _, _, _, _, _, _, _, _, _, _, ?rel, rfl⟩
              case measure => (show n - 64 < n; omega)
              case rel =>
                refine ⟨j + 1, q + 64, _, n - 64, c' - 64, by have := HQ.out; omega, by omega, rfl, by omega, by omega, ⟨ad', rfl, HAD.out⟩, ?_⟩
                rw [HNX.out]
                exact ((((((((HS5.out.put hgs (by omega) 0 n0).put hgs (by omega) 1 n1).put hgs (by omega) 2 n2).put hgs (by omega) 3 n3).put hgs (by omega) 4 n4).put hgs (by omega) 5 n5).put hgs (by omega) 6 n6).put hgs (by omega) 7 n7)
          · have hA64 : (len0 + Lp) % 64 = 0 := by
              have := allL_len bs
              rw [HA.out, HAL.out] at this
              exact this
            obtain rfl : n = 0 := by omega
            obtain ⟨Z, hZ⟩ : ∃ Z, mixTo A j = Z := ⟨_, rfl⟩
            rw [hZ] at hst
            have HZ8 : Hid (Z.length = 8) := by show Z.length = 8; rw [← hZ]; exact mixTo_len A j
            have HZw : Hid (Wd Z) := by
              obtain ⟨_, _, _, _, _, _, _, _, e, hw⟩ := mixTo_eight A j
              show Wd Z
              rw [← hZ, e]; exact hw
            have hdg : digest bs = Z.flatMap (beN 4) := by
              unfold digest
              rw [HA.out, HAL.out, show (len0 + Lp) / 64 = j by omega, hZ]
            obtain ⟨D, hD⟩ : ∃ D, strOf (digest bs) = D := ⟨_, rfl⟩
            have HDL : Hid (D.data.toList = Z.flatMap (beN 4)) := by
              show D.data.toList = _
              rw [← hD, strOf_list, hdg]
            have hDs : D.size = 32 := by rw [← hD, strOf_size, digest_len]
            have HSB : Hid (∀ W, WhW w gs g2 c2 A Z W → Calls Tryd.prog 10 #[.slice a0 len0 cap0] W fun e w' => e = .returned (.string D) ∧ WhW w gs g2 c2 A Z w') := by
              intro W s
              refine (sum_is _ _ _ bs W (HB.out.below s.b) (by omega) (HL.out.below s.b)).mono ?_
              rintro e w' ⟨rfl, hb⟩
              exact ⟨by rw [hD], s.on hb⟩
            have HST : Hid (WhW w gs g2 c2 A Z wr) := hst
            clear hst hZ hdg hD hA64 hap hq hqn hnc
            go_wp2_with (go_at_call 10; refine (HSB.out _ HST.out).mono ?_; rintro e w8 ⟨rfl, hst8⟩; have HS8 : Hid (WhW w gs g2 c2 A Z w8) := hst8; clear hst8)
            go_loopw [9] (fun i wr => ∃ t : Nat, t ≤ 8 ∧ i = .int .i64 t ∧ WhW w gs g2 c2 A Z wr) (fun i _ => 8 - (intOf i).toNat)
            case atStart => exact ⟨0, by omega, rfl, HS8.out⟩
            case round =>
              clear HS8 HST
              obtain ⟨t, ht, rfl, hst⟩ := hrel
              by_cases hlt : t < 8
              · obtain ⟨y, hy⟩ : ∃ y, Z.getD t 0 = y := ⟨_, rfl⟩
                have wy : y < 4294967296 := hy ▸ HZw.out.getD t
                have cy : wr.cell? ⟨gs, t, none⟩ = some (.int .u32 (y : Int)) := hy ▸ hst.cell t (by rw [HZ8.out]; exact hlt)
                obtain ⟨p0, q0⟩ : ∃ p, p = 4 * t + 0 := ⟨_, rfl⟩
                have hb0 : p0 < D.size := by omega
                have k0 : (p0 : Int) < 32 := by omega
                obtain ⟨X0, hX0⟩ : ∃ X, (D[p0]'hb0).toNat = X := ⟨_, rfl⟩
                have x0 : X0 = y / 256 ^ (3 - 0) % 256 := by
                  have e1 : (D.data.toList.getD p0 0).toNat = X0 := by rw [← hX0]; simp [hb0]; rfl
                  rw [HDL.out, q0, bytes_at Z t 0 (by rw [HZ8.out]; exact hlt) (by omega), hy, UInt8.toNat_ofNat'] at e1
                  omega
                have xc0 : IntKind.u32.wrap (X0 : Int) = (X0 : Int) := by rw [IntKind.wrap_u32']; omega
                obtain ⟨p1, q1⟩ : ∃ p, p = 4 * t + 1 := ⟨_, rfl⟩
                have hb1 : p1 < D.size := by omega
                have k1 : (p1 : Int) < 32 := by omega
                obtain ⟨X1, hX1⟩ : ∃ X, (D[p1]'hb1).toNat = X := ⟨_, rfl⟩
                have x1 : X1 = y / 256 ^ (3 - 1) % 256 := by
                  have e1 : (D.data.toList.getD p1 0).toNat = X1 := by rw [← hX1]; simp [hb1]; rfl
                  rw [HDL.out, q1, bytes_at Z t 1 (by rw [HZ8.out]; exact hlt) (by omega), hy, UInt8.toNat_ofNat'] at e1
                  omega
                have xc1 : IntKind.u32.wrap (X1 : Int) = (X1 : Int) := by rw [IntKind.wrap_u32']; omega
                obtain ⟨p2, q2⟩ : ∃ p, p = 4 * t + 2 := ⟨_, rfl⟩
                have hb2 : p2 < D.size := by omega
                have k2 : (p2 : Int) < 32 := by omega
                obtain ⟨X2, hX2⟩ : ∃ X, (D[p2]'hb2).toNat = X := ⟨_, rfl⟩
                have x2 : X2 = y / 256 ^ (3 - 2) % 256 := by
                  have e1 : (D.data.toList.getD p2 0).toNat = X2 := by rw [← hX2]; simp [hb2]; rfl
                  rw [HDL.out, q2, bytes_at Z t 2 (by rw [HZ8.out]; exact hlt) (by omega), hy, UInt8.toNat_ofNat'] at e1
                  omega
                have xc2 : IntKind.u32.wrap (X2 : Int) = (X2 : Int) := by rw [IntKind.wrap_u32']; omega
                obtain ⟨p3, q3⟩ : ∃ p, p = 4 * t + 3 := ⟨_, rfl⟩
                have hb3 : p3 < D.size := by omega
                have k3 : (p3 : Int) < 32 := by omega
                obtain ⟨X3, hX3⟩ : ∃ X, (D[p3]'hb3).toNat = X := ⟨_, rfl⟩
                have x3 : X3 = y / 256 ^ (3 - 3) % 256 := by
                  have e1 : (D.data.toList.getD p3 0).toNat = X3 := by rw [← hX3]; simp [hb3]; rfl
                  rw [HDL.out, q3, bytes_at Z t 3 (by rw [HZ8.out]; exact hlt) (by omega), hy, UInt8.toNat_ofNat'] at e1
                  omega
                have xc3 : IntKind.u32.wrap (X3 : Int) = (X3 : Int) := by rw [IntKind.wrap_u32']; omega
                have i0 : IntKind.i64.wrap ((4 : Int) * (t : Int)) = (p0 : Int) := by rw [IntKind.wrap_i64]; omega
                have i1 : IntKind.i64.wrap ((p0 : Int) + 1) = (p1 : Int) := by rw [IntKind.wrap_i64]; omega
                have i2 : IntKind.i64.wrap ((p0 : Int) + 2) = (p2 : Int) := by rw [IntKind.wrap_i64]; omega
                have i3 : IntKind.i64.wrap ((p0 : Int) + 3) = (p3 : Int) := by rw [IntKind.wrap_i64]; omega
                obtain ⟨Y0, y0⟩ : ∃ Y, Y = X0 * 16777216 := ⟨_, rfl⟩
                obtain ⟨Y1, y1⟩ : ∃ Y, Y = X1 * 65536 := ⟨_, rfl⟩
                obtain ⟨Y2, y2⟩ : ∃ Y, Y = X2 * 256 := ⟨_, rfl⟩
                obtain ⟨T1, t1⟩ : ∃ Y, Y = Y0 + Y1 := ⟨_, rfl⟩
                obtain ⟨T2, t2⟩ : ∃ Y, Y = T1 + Y2 := ⟨_, rfl⟩
                have m0 : IntKind.u32.wrap ((X0 : Int) * 16777216) = (Y0 : Int) := by rw [IntKind.wrap_u32']; omega
                have m1 : IntKind.u32.wrap ((X1 : Int) * 65536) = (Y1 : Int) := by rw [IntKind.wrap_u32']; omega
                have m2 : IntKind.u32.wrap ((X2 : Int) * 256) = (Y2 : Int) := by rw [IntKind.wrap_u32']; omega
                have s1 : IntKind.u32.wrap ((Y0 : Int) + (Y1 : Int)) = (T1 : Int) := by rw [IntKind.wrap_u32']; omega
                have s2 : IntKind.u32.wrap ((T1 : Int) + (Y2 : Int)) = (T2 : Int) := by rw [IntKind.wrap_u32']; omega
                have s3 : IntKind.u32.wrap ((T2 : Int) + (X3 : Int)) = (y : Int) := by rw [IntKind.wrap_u32']; omega
                have kt : (t : Int) < 8 := by omega
                have HST : Hid (WhW w gs g2 c2 A Z wr) := hst
                clear hst hy wy x0 x1 x2 x3 q0 q1 q2 q3 y0 y1 y2 t1 t2
                go_wp2
                refine wp_region_held_drew (S := fun W => W.cell? ⟨gs, t, none⟩ = some (.int .u32 (y : Int))) (by kernel_rfl) (cy) (fun hHeld => ?_)
                refine wpAnyH_take (i := 0) (v := ?vg23_0) rfl (by kernel_rfl) (by kernel_rfl) (by kernel_rfl) (fun _ _ _ h => h) (Or.inl ⟨by kernel_rfl, ?yg23_0⟩) hHeld ?rg23_0
                case yg23_0 => (intro W hSW; (try dsimp only at hSW); go_simp; (try with_reducible rfl))
                change wpAnyH _ _ _ _ _ _ _ (Act.put _ (some 61) _) _
                simp only [Act.put, List.setIfInBounds_toArray, List.set_cons_zero, List.set_cons_succ]
                refine wpAnyH_take (i := 1) (v := ?vg23_1) rfl (by kernel_rfl) (by kernel_rfl) (by kernel_rfl) (fun _ _ _ h => h) (Or.inl ⟨by kernel_rfl, ?yg23_1⟩) hHeld ?rg23_1
                case yg23_1 => (intro W hSW; (try dsimp only at hSW); go_simp; (try with_reducible rfl))
                change wpAnyH _ _ _ _ _ _ _ (Act.put _ (some 62) _) _
                simp only [Act.put, List.setIfInBounds_toArray, List.set_cons_zero, List.set_cons_succ]
                refine wpAnyH_take (i := 2) (v := ?vg23_2) rfl (by kernel_rfl) (by kernel_rfl) (by kernel_rfl) (fun _ _ _ h => h) (Or.inl ⟨by kernel_rfl, ?yg23_2⟩) hHeld ?rg23_2
                case yg23_2 => (intro W hSW; (try dsimp only at hSW); go_simp; (try with_reducible rfl))
                change wpAnyH _ _ _ _ _ _ _ (Act.put _ (some 63) _) _
                simp only [Act.put, List.setIfInBounds_toArray, List.set_cons_zero, List.set_cons_succ]
                refine wpAnyH_take (i := 3) (v := ?vg23_3) rfl (by kernel_rfl) (by kernel_rfl) (by kernel_rfl) (fun _ _ _ h => h) (Or.inl ⟨by kernel_rfl, ?yg23_3⟩) hHeld ?rg23_3
                case yg23_3 => (intro W hSW; (try dsimp only at hSW); go_simp; (try with_reducible rfl))
                change wpAnyH _ _ _ _ _ _ _ (Act.put _ (some 64) _) _
                simp only [Act.put, List.setIfInBounds_toArray, List.set_cons_zero, List.set_cons_succ]
                refine wpAnyH_take (i := 4) (v := ?vg23_4) rfl (by kernel_rfl) (by kernel_rfl) (by kernel_rfl) (fun _ _ _ h => h) (Or.inl ⟨by kernel_rfl, ?yg23_4⟩) hHeld ?rg23_4
                case yg23_4 => (intro W hSW; (try dsimp only at hSW); go_simp; (try with_reducible rfl))
                change wpAnyH _ _ _ _ _ _ _ (Act.put _ (some 65) _) _
                simp only [Act.put, List.setIfInBounds_toArray, List.set_cons_zero, List.set_cons_succ]
                refine wpAnyH_take (i := 5) (v := ?vg23_5) rfl (by kernel_rfl) (by kernel_rfl) (by kernel_rfl) (fun _ _ _ h => h) (Or.inl ⟨by kernel_rfl, ?yg23_5⟩) hHeld ?rg23_5
                case yg23_5 => (intro W hSW; (try dsimp only at hSW); go_simp; (try with_reducible rfl))
                change wpAnyH _ _ _ _ _ _ _ (Act.put _ (some 66) _) _
                simp only [Act.put, List.setIfInBounds_toArray, List.set_cons_zero, List.set_cons_succ]
                refine wpAnyH_take (i := 6) (v := ?vg23_6) rfl (by kernel_rfl) (by kernel_rfl) (by kernel_rfl) (fun _ _ _ h => h) (Or.inl ⟨by kernel_rfl, ?yg23_6⟩) hHeld ?rg23_6
                case yg23_6 => (intro W hSW; (try dsimp only at hSW); go_simp; (try with_reducible rfl))
                change wpAnyH _ _ _ _ _ _ _ (Act.put _ (some 67) _) _
                simp only [Act.put, List.setIfInBounds_toArray, List.set_cons_zero, List.set_cons_succ]
                refine wpAnyH_take (i := 7) (v := ?vg23_7) rfl (by kernel_rfl) (by kernel_rfl) (by kernel_rfl) (fun _ _ _ h => h) (Or.inl ⟨by kernel_rfl, ?yg23_7⟩) hHeld ?rg23_7
                case yg23_7 => (intro W hSW; (try dsimp only at hSW); go_simp; (try with_reducible rfl))
                change wpAnyH _ _ _ _ _ _ _ (Act.put _ (some 68) _) _
                simp only [Act.put, List.setIfInBounds_toArray, List.set_cons_zero, List.set_cons_succ]
                refine wpAnyH_take (i := 8) (v := ?vg23_8) rfl (by kernel_rfl) (by kernel_rfl) (by kernel_rfl) (fun _ _ _ h => h) (Or.inl ⟨by kernel_rfl, ?yg23_8⟩) hHeld ?rg23_8
                case yg23_8 => (intro W hSW; (try dsimp only at hSW); go_simp; (try with_reducible rfl))
                change wpAnyH _ _ _ _ _ _ _ (Act.put _ (some 69) _) _
                simp only [Act.put, List.setIfInBounds_toArray, List.set_cons_zero, List.set_cons_succ]
                refine wpAnyH_take (i := 9) (v := ?vg23_9) rfl (by kernel_rfl) (by kernel_rfl) (by kernel_rfl) (fun _ _ _ h => h) (Or.inl ⟨by kernel_rfl, ?yg23_9⟩) hHeld ?rg23_9
                case yg23_9 => (intro W hSW; (try dsimp only at hSW); go_simp; (try with_reducible rfl))
                change wpAnyH _ _ _ _ _ _ _ (Act.put _ (some 70) _) _
                simp only [Act.put, List.setIfInBounds_toArray, List.set_cons_zero, List.set_cons_succ]
                refine wpAnyH_take (i := 10) (v := ?vg23_10) rfl (by kernel_rfl) (by kernel_rfl) (by kernel_rfl) (fun _ _ _ h => h) (Or.inl ⟨by kernel_rfl, ?yg23_10⟩) hHeld ?rg23_10
                case yg23_10 => (intro W hSW; (try dsimp only at hSW); go_simp; (try with_reducible rfl))
                change wpAnyH _ _ _ _ _ _ _ (Act.put _ (some 71) _) _
                simp only [Act.put, List.setIfInBounds_toArray, List.set_cons_zero, List.set_cons_succ]
                refine wpAnyH_take (i := 11) (v := ?vg23_11) rfl (by kernel_rfl) (by kernel_rfl) (by kernel_rfl) (fun _ _ _ h => h) (Or.inl ⟨by kernel_rfl, ?yg23_11⟩) hHeld ?rg23_11
                case yg23_11 => (intro W hSW; (try dsimp only at hSW); go_simp; (try with_reducible rfl))
                change wpAnyH _ _ _ _ _ _ _ (Act.put _ (some 72) _) _
                simp only [Act.put, List.setIfInBounds_toArray, List.set_cons_zero, List.set_cons_succ]
                refine wpAnyH_take (i := 12) (v := ?vg23_12) rfl (by kernel_rfl) (by kernel_rfl) (by kernel_rfl) (fun _ _ _ h => h) (Or.inl ⟨by kernel_rfl, ?yg23_12⟩) hHeld ?rg23_12
                case yg23_12 => (intro W hSW; (try dsimp only at hSW); go_simp; (try with_reducible rfl))
                change wpAnyH _ _ _ _ _ _ _ (Act.put _ (some 73) _) _
                simp only [Act.put, List.setIfInBounds_toArray, List.set_cons_zero, List.set_cons_succ]
                refine wpAnyH_take (i := 13) (v := ?vg23_13) rfl (by kernel_rfl) (by kernel_rfl) (by kernel_rfl) (fun _ _ _ h => h) (Or.inl ⟨by kernel_rfl, ?yg23_13⟩) hHeld ?rg23_13
                case yg23_13 => (intro W hSW; (try dsimp only at hSW); go_simp; (try with_reducible rfl))
                change wpAnyH _ _ _ _ _ _ _ (Act.put _ (some 74) _) _
                simp only [Act.put, List.setIfInBounds_toArray, List.set_cons_zero, List.set_cons_succ]
                refine wpAnyH_take (i := 14) (v := ?vg23_14) rfl (by kernel_rfl) (by kernel_rfl) (by kernel_rfl) (fun _ _ _ h => h) (Or.inl ⟨by kernel_rfl, ?yg23_14⟩) hHeld ?rg23_14
                case yg23_14 => (intro W hSW; (try dsimp only at hSW); go_simp; (try with_reducible rfl))
                change wpAnyH _ _ _ _ _ _ _ (Act.put _ (some 75) _) _
                simp only [Act.put, List.setIfInBounds_toArray, List.set_cons_zero, List.set_cons_succ]
                refine wpAnyH_take (i := 15) (v := ?vg23_15) rfl (by kernel_rfl) (by kernel_rfl) (by kernel_rfl) (fun _ _ _ h => h) (Or.inl ⟨by kernel_rfl, ?yg23_15⟩) hHeld ?rg23_15
                case yg23_15 => (intro W hSW; (try dsimp only at hSW); go_simp; (try with_reducible rfl))
                change wpAnyH _ _ _ _ _ _ _ (Act.put _ (some 76) _) _
                simp only [Act.put, List.setIfInBounds_toArray, List.set_cons_zero, List.set_cons_succ]
                refine wpAnyH_take (i := 16) (v := ?vg23_16) rfl (by kernel_rfl) (by kernel_rfl) (by kernel_rfl) (fun _ _ _ h => h) (Or.inl ⟨by kernel_rfl, ?yg23_16⟩) hHeld ?rg23_16
                case yg23_16 => (intro W hSW; (try dsimp only at hSW); go_simp; (try with_reducible rfl))
                change wpAnyH _ _ _ _ _ _ _ (Act.put _ (some 77) _) _
                simp only [Act.put, List.setIfInBounds_toArray, List.set_cons_zero, List.set_cons_succ]
                refine wpAnyH_take (i := 17) (v := ?vg23_17) rfl (by kernel_rfl) (by kernel_rfl) (by kernel_rfl) (fun _ _ _ h => h) (Or.inl ⟨by kernel_rfl, ?yg23_17⟩) hHeld ?rg23_17
                case yg23_17 => (intro W hSW; (try dsimp only at hSW); go_simp; (try with_reducible rfl))
                change wpAnyH _ _ _ _ _ _ _ (Act.put _ (some 78) _) _
                simp only [Act.put, List.setIfInBounds_toArray, List.set_cons_zero, List.set_cons_succ]
                refine wpAnyH_take (i := 18) (v := ?vg23_18) rfl (by kernel_rfl) (by kernel_rfl) (by kernel_rfl) (fun _ _ _ h => h) (Or.inl ⟨by kernel_rfl, ?yg23_18⟩) hHeld ?rg23_18
                case yg23_18 => (intro W hSW; (try dsimp only at hSW); go_simp; (try with_reducible rfl))
                change wpAnyH _ _ _ _ _ _ _ (Act.put _ (some 79) _) _
                simp only [Act.put, List.setIfInBounds_toArray, List.set_cons_zero, List.set_cons_succ]
                refine wpAnyH_take (i := 19) (v := ?vg23_19) rfl (by kernel_rfl) (by kernel_rfl) (by kernel_rfl) (fun _ _ _ h => h) (Or.inl ⟨by kernel_rfl, ?yg23_19⟩) hHeld ?rg23_19
                case yg23_19 => (intro W hSW; (try dsimp only at hSW); go_simp; (try with_reducible rfl))
                change wpAnyH _ _ _ _ _ _ _ (Act.put _ (some 80) _) _
                simp only [Act.put, List.setIfInBounds_toArray, List.set_cons_zero, List.set_cons_succ]
                refine wpAnyH_take (i := 20) (v := ?vg23_20) rfl (by kernel_rfl) (by kernel_rfl) (by kernel_rfl) (fun _ _ _ h => h) (Or.inl ⟨by kernel_rfl, ?yg23_20⟩) hHeld ?rg23_20
                case yg23_20 => (intro W hSW; (try dsimp only at hSW); go_simp; (try with_reducible rfl))
                change wpAnyH _ _ _ _ _ _ _ (Act.put _ (some 81) _) _
                simp only [Act.put, List.setIfInBounds_toArray, List.set_cons_zero, List.set_cons_succ]
                refine wpAnyH_take (i := 21) (v := ?vg23_21) rfl (by kernel_rfl) (by kernel_rfl) (by kernel_rfl) (fun _ _ _ h => h) (Or.inl ⟨by kernel_rfl, ?yg23_21⟩) hHeld ?rg23_21
                case yg23_21 => (intro W hSW; (try dsimp only at hSW); go_simp; (try with_reducible rfl))
                change wpAnyH _ _ _ _ _ _ _ (Act.put _ (some 82) _) _
                simp only [Act.put, List.setIfInBounds_toArray, List.set_cons_zero, List.set_cons_succ]
                refine wpAnyH_take (i := 22) (v := ?vg23_22) rfl (by kernel_rfl) (by kernel_rfl) (by kernel_rfl) (fun _ _ _ h => h) (Or.inl ⟨by kernel_rfl, ?yg23_22⟩) hHeld ?rg23_22
                case yg23_22 => (intro W hSW; (try dsimp only at hSW); go_simp; (try with_reducible rfl))
                change wpAnyH _ _ _ _ _ _ _ (Act.put _ (some 83) _) _
                simp only [Act.put, List.setIfInBounds_toArray, List.set_cons_zero, List.set_cons_succ]
                refine wpAnyH_take (i := 23) (v := ?vg23_23) rfl (by kernel_rfl) (by kernel_rfl) (by kernel_rfl) (fun _ _ _ h => h) (Or.inl ⟨by kernel_rfl, ?yg23_23⟩) hHeld ?rg23_23
                case yg23_23 => (intro W hSW; (try dsimp only at hSW); go_simp; (try with_reducible rfl))
                change wpAnyH _ _ _ _ _ _ _ (Act.put _ (some 84) _) _
                simp only [Act.put, List.setIfInBounds_toArray, List.set_cons_zero, List.set_cons_succ]
                refine wpAnyH_take (i := 24) (v := ?vg23_24) rfl (by kernel_rfl) (by kernel_rfl) (by kernel_rfl) (fun _ _ _ h => h) (Or.inl ⟨by kernel_rfl, ?yg23_24⟩) hHeld ?rg23_24
                case yg23_24 => (intro W hSW; (try dsimp only at hSW); go_simp; (try with_reducible rfl))
                change wpAnyH _ _ _ _ _ _ _ (Act.put _ (some 85) _) _
                simp only [Act.put, List.setIfInBounds_toArray, List.set_cons_zero, List.set_cons_succ]
                refine wpAnyH_take (i := 25) (v := ?vg23_25) rfl (by kernel_rfl) (by kernel_rfl) (by kernel_rfl) (fun _ _ _ h => h) (Or.inl ⟨by kernel_rfl, ?yg23_25⟩) hHeld ?rg23_25
                case yg23_25 => (intro W hSW; (try dsimp only at hSW); go_simp; (try with_reducible rfl))
                change wpAnyH _ _ _ _ _ _ _ (Act.put _ (some 86) _) _
                simp only [Act.put, List.setIfInBounds_toArray, List.set_cons_zero, List.set_cons_succ]
                refine wpAnyH_take (i := 26) (v := ?vg23_26) rfl (by kernel_rfl) (by kernel_rfl) (by kernel_rfl) (fun _ _ _ h => h) (Or.inl ⟨by kernel_rfl, ?yg23_26⟩) hHeld ?rg23_26
                case yg23_26 => (intro W hSW; (try dsimp only at hSW); go_simp; (try with_reducible rfl))
                change wpAnyH _ _ _ _ _ _ _ (Act.put _ (some 87) _) _
                simp only [Act.put, List.setIfInBounds_toArray, List.set_cons_zero, List.set_cons_succ]
                refine wpAnyH_take (i := 27) (v := ?vg23_27) rfl (by kernel_rfl) (by kernel_rfl) (by kernel_rfl) (fun _ _ _ h => h) (Or.inl ⟨by kernel_rfl, ?yg23_27⟩) hHeld ?rg23_27
                case yg23_27 => (intro W hSW; (try dsimp only at hSW); go_simp; (try with_reducible rfl))
                change wpAnyH _ _ _ _ _ _ _ (Act.put _ (some 88) _) _
                simp only [Act.put, List.setIfInBounds_toArray, List.set_cons_zero, List.set_cons_succ]
                refine wpAnyH_take (i := 28) (v := ?vg23_28) rfl (by kernel_rfl) (by kernel_rfl) (by kernel_rfl) (fun _ _ _ h => h) (Or.inl ⟨by kernel_rfl, ?yg23_28⟩) hHeld ?rg23_28
                case yg23_28 => (intro W hSW; (try dsimp only at hSW); go_simp; (try with_reducible rfl))
                change wpAnyH _ _ _ _ _ _ _ (Act.put _ (some 89) _) _
                simp only [Act.put, List.setIfInBounds_toArray, List.set_cons_zero, List.set_cons_succ]
                refine wpAnyH_take (i := 29) (v := ?vg23_29) rfl (by kernel_rfl) (by kernel_rfl) (by kernel_rfl) (fun _ _ _ h => h) (Or.inl ⟨by kernel_rfl, ?yg23_29⟩) hHeld ?rg23_29
                case yg23_29 => (intro W hSW; (try dsimp only at hSW); go_simp; (try with_reducible rfl))
                change wpAnyH _ _ _ _ _ _ _ (Act.put _ (some 90) _) _
                simp only [Act.put, List.setIfInBounds_toArray, List.set_cons_zero, List.set_cons_succ]
                refine wpAnyH_take (i := 30) (v := ?vg23_30) rfl (by kernel_rfl) (by kernel_rfl) (by kernel_rfl) (fun _ _ _ h => h) (Or.inl ⟨by kernel_rfl, ?yg23_30⟩) hHeld ?rg23_30
                case yg23_30 => (intro W hSW; (try dsimp only at hSW); go_simp; (try with_reducible rfl))
                change wpAnyH _ _ _ _ _ _ _ (Act.put _ (some 91) _) _
                simp only [Act.put, List.setIfInBounds_toArray, List.set_cons_zero, List.set_cons_succ]
                refine wpAnyH_take (i := 31) (v := ?vg23_31) rfl (by kernel_rfl) (by kernel_rfl) (by kernel_rfl) (fun _ _ _ h => h) (Or.inl ⟨by kernel_rfl, ?yg23_31⟩) hHeld ?rg23_31
                case yg23_31 => (intro W hSW; (try dsimp only at hSW); go_simp; (try with_reducible rfl))
                change wpAnyH _ _ _ _ _ _ _ (Act.put _ (some 92) _) _
                simp only [Act.put, List.setIfInBounds_toArray, List.set_cons_zero, List.set_cons_succ]
                refine wpAnyH_take (i := 32) (v := ?vg23_32) rfl (by kernel_rfl) (by kernel_rfl) (by kernel_rfl) (fun _ _ _ h => h) (Or.inl ⟨by kernel_rfl, ?yg23_32⟩) hHeld ?rg23_32
                case yg23_32 => (intro W hSW; (try dsimp only at hSW); go_simp; (try with_reducible rfl))
                change wpAnyH _ _ _ _ _ _ _ (Act.put _ (some 93) _) _
                simp only [Act.put, List.setIfInBounds_toArray, List.set_cons_zero, List.set_cons_succ]
                refine wpAnyH_done (by kernel_rfl) ?_ _
                go_wp2
                exact ⟨⟨t + 1, by omega, by go_num, HST.out.on ((Below.refl _ _).drew)⟩, by simp [intOf]; omega⟩
              · obtain rfl : t = 8 := by omega
                have HSB' : Hid (Below w.heap.size w wr) := hst.b
                clear hst
                go_wp2_with (go_at_call 5; refine (HLV.out _ HSB'.out).mono ?_; rintro e w9 ⟨rfl, hb9⟩)
                go_ret
                exact ⟨rfl, hb9⟩

set_option maxRecDepth 100000 in
theorem lifted (os : Os) (started : os.Started) (H : Type) (enc : TypeId × Value → H) :
    ReturnsInHanded {} Tryd.checked os 3 .any (fun w args => (Rows.shaWholeSpec.pre enc Tryd.prog Tryd.f3 [] false w args ∧ laidMetH Tryd.prog laid2 w) ∧ sizedMet enc Tryd.prog Tryd.f3 (OpenSpec.ofChange Rows.shaWholeSpec) false w args) (Rows.shaWholeSpec.post enc Tryd.prog Tryd.f3 false true false false) := by
  refine returnsInHanded_of_change_and (C := Tryd.checked) (X := fun w _ => laidMetH Tryd.prog laid2 w) (fun _ _ _ hh h => h.of_heap hh) own started (by kernel_rfl) Tryd.func3
    (ChangeSpec.witness_shaped (enc := enc) (C := Tryd.checked) (os := os) (X := fun w _ => laidMetH Tryd.prog laid2 w) false (World.doorLaid Tryd.prog 19 os) #[.slice none 0 0] 8 rfl (World.shaped_of_RefB (by kernel_rfl) (by kernel_rfl)) (by kernel_rfl) (by kernel_rfl) (by kernel_rfl) (door_met os _)) ?_
  intro W base args ds gs before hval0 hW _ _ hL _
  have hval : ∀ (j : Nat) t v, Tryd.f3.params[j]? = some t → args[j]? = some v → Value.okWide Tryd.prog W .any base t v := hval0
  have hW' := hW
  obtain ⟨p, q, hA0, hV, rfl, hfz, hnd⟩ := hW
  have hA : DataW.TrodAll enc Tryd.prog W 0 (fun _ => true) true Tryd.f3.params.toList args.toList ds p := hA0
  rw [Tryd.params3] at hA hval
  obtain ⟨v0, vs0, d0, ds0, p0, q0, hargs, rfl, rfl, h0, r0⟩ := trodAll_cons hA
  obtain ⟨rfl, rfl, rfl⟩ := trodAll_nil r0
  obtain rfl : args = #[v0] := by cases args; simp_all
  obtain ⟨rfl, rfl⟩ := trodVars_none hV
  obtain ⟨a0, len0, cap0, rfl⟩ := okWide_slice Tryd.underlying22 (hval 0 22 v0 rfl rfl)
  have k0 := h0
  have lt0 : ∀ x ∈ p0, x.block < W.heap.size := by obtain ⟨m, hm⟩ := k0; exact DataW.trod_lt m _ _ _ hm
  obtain ⟨z0, w0⟩ : ∃ zs, IsRow .u8 W a0 len0 cap0 zs := by
    obtain ⟨fuel, hf⟩ := h0
    rcases open_ints Tryd.underlying22 Tryd.underlying5 (by kernel_rfl) hf with ⟨hcs, _⟩ | ⟨x, l, c, zs, hcs, _, hl, hm, hz, _, hcell, hwz⟩
    · simp [Value.cells] at hcs
      obtain ⟨rfl, rfl, rfl⟩ := hcs
      exact ⟨[], .inl ⟨rfl, rfl, rfl, rfl⟩⟩
    · simp [Value.cells] at hcs
      obtain ⟨rfl, rfl, rfl⟩ := hcs
      exact ⟨zs, .inr ⟨_, rfl, hl, hm, by simpa using hz, hcell, hwz⟩⟩
  clear hA0 hval0
  refine (walk a0 len0 cap0 z0 W w0 (of_laid hL)).mono fun e W' ⟨he, bel⟩ => ?_
  subst he
  exact ⟨_, rfl, _, _, _, [], _, [], hW', trodAll_mk1 (shut_bool Tryd.underlying4 _), (trodAll_cons_mk (Below.trod laidOut (by kernel_rfl) (of_decide_eq_true (by kernel_rfl)) k0 bel lt0) trodAll_mk0), rfl, bel.frame _, fun h => by cases h⟩

theorem over : Rows.shaWholeRow.holds Tryd.pinned (OpenSpec.ofChange Rows.shaWholeSpec) :=
  OpenClaim.holds_of_wide 3 Tryd.f3 rfl rfl rfl rfl rfl rfl rfl ⟨rfl, rfl, rfl, rfl, rfl⟩ rfl rfl rfl rfl rfl (by kernel_rfl) Tryd.func3 (by kernel_rfl)
    (of_decide_eq_true (by kernel_rfl)) (by unfold Func.isWrapper; first | (rw [if_pos (by decide +kernel)]; kernel_rfl) | (rw [if_neg (by decide +kernel)]; exact ⟨rfl, rfl⟩))
    (fun os started H enc _ => lifted os started H enc)

end Go.Proofs.YtmachfapcgjljabDoor.shaWhole
namespace Go.Proofs.YtmachfapcgjljabDoor
/-- The given statement. -/
theorem shaWhole_holds : Rows.ShaWholeCardSaid :=
  Claim7.holds_tied_plain_at .later [] [.data, .data] true (true, "adb6a9076cc1d2ab92eedaf856e69b74267a0de8ca1c6f6ef31984fb13b26d13") false
    shaWhole.over (fun _ h => by cases h) (by kernel_rfl) (fun _ h => by cases h) shaWhole_row_tie rfl ⟨rfl, rfl⟩ (by kernel_rfl) rfl
    (fun f fn hf hfn => by
      obtain rfl : f = 3 := Option.some.inj ((show Tryd.prog.funcNamed "strongroom/strongroomlaw02.ShaWhole" = some 3 by kernel_rfl).symm.trans hf) |>.symm
      obtain rfl : fn = Tryd.f3 := (Option.some.inj (Tryd.func3.symm.trans hfn)).symm
      exact ⟨by kernel_rfl, fun j t ht => by
        rw [Tryd.params3] at ht
        rcases j with _ | j
        · obtain rfl : t = 22 := by simpa using ht.symm
          exact (show Tryd.prog.wantsStandIn 22 = false by kernel_rfl)
        · simp at ht
      ⟩)
    (by kernel_rfl)
#print axioms shaWhole_holds
end Go.Proofs.YtmachfapcgjljabDoor
