/- Proved: for every b, the law ShaNil returns true, b as it was; where the package's two tables begin as the program's text lays them. -/
import Derived.Test.YtmachfapcgjljabDoorBD
import Derived.Test.YtmachfapcgjljabDoorCards
import Derived.Test.YtmachfapcgjljabDoorTie
import Derived.WalkKit
import Derived.ProofKit
import Derived.OpenShut
import Derived.ShutString
import Derived.ChangeOld
import Derived.Below
import Derived.LaidMore
import Derived.Stop.Joined
import Derived.SevenTiedAt
namespace Go.Proofs.YtmachfapcgjljabDoor.shaNil
open Go.ChangeShapes Go.WideShapes Go.ChangeAt Go.WideMaps Go.WideElems Go.RowKit
open Go.ChangeMaps (open_string shut_string)
theorem laidOut : laidOutB Tryd.prog = true := by kernel_rfl


/-- What stays from call to call: the one Hash has the bytes, the other none, and all that was there is as it was. -/
structure St (w : World) (gh gg : Nat) (bs : List UInt8) (W : World) : Prop where
  h : HashIs W gh bs
  g : HashIs W gg []
  b : Below w.heap.size w W
theorem St.on {w W W' : World} {gh gg : Nat} {bs : List UInt8} (s : St w gh gg bs W) (hb : Below W.heap.size W W') : St w gh gg bs W' :=
  ⟨s.h.keep (hb.block _ s.h.lt), s.g.keep (hb.block _ s.g.lt), s.b.trans (hb.mono s.b.size)⟩
theorem St.set {w W : World} {gh gg gm : Nat} {bs : List UInt8} (s : St w gh gg bs W) (h1 : gm ≠ gh) (h2 : gm ≠ gg) (h3 : w.heap.size ≤ gm) (i : Nat) (v : Value) : St w gh gg bs (W.setCell ⟨gm, i, none⟩ v) :=
  ⟨s.h.keep (heap_setCell_other _ _ _ _ (by show gh ≠ gm; omega)), s.g.keep (heap_setCell_other _ _ _ _ (by show gg ≠ gm; omega)), s.b.setCell h3 _⟩
/-- The own bytes: n cells of bytes at block gm. -/
def Own (gm n : Nat) (W : World) : Prop := ∃ cur : Array Value, W.heap[gm]? = some (.cells cur 5 (0, 0)) ∧ ∀ i, i < n → ∃ k : Nat, k < 256 ∧ cur[i]? = some (.int .u8 (k : Int))
theorem Own.put {gm n : Nat} {W : World} (h : Own gm n W) (i k : Nat) (hk : k < 256) : Own gm n (W.setCell ⟨gm, i, none⟩ (.int .u8 (k : Int))) := by
  obtain ⟨cur, hr, hc⟩ := h
  refine ⟨cur.setIfInBounds i (.int .u8 (k : Int)), heap_setCell_same W gm i _ _ _ hr, fun j hj => ?_⟩
  obtain ⟨m, hm, e⟩ := hc j hj
  by_cases hij : i = j
  · subst hij
    have : i < cur.size := by
      rcases Nat.lt_or_ge i cur.size with h | h
      · exact h
      · rw [Array.getElem?_eq_none h] at e; cases e
    exact ⟨k, hk, by simp [this]⟩
  · exact ⟨m, hm, by rw [Array.getElem?_setIfInBounds_ne hij]; exact e⟩
set_option maxRecDepth 100000 in
set_option maxHeartbeats 2000000 in
theorem walk (a0 : Option Addr) (len0 cap0 : Nat) (z0 : List Int) (w : World) (w0 : IsRow .u8 w a0 len0 cap0 z0) (hL : Laid w) :
    Calls Tryd.prog 4 #[.slice a0 len0 cap0] w fun e w' => e = .returned (.bool true) ∧ Below w.heap.size w w' := by
  have hnil := w0.nocap
  obtain ⟨bs, hb⟩ := w0.bsI
  by_cases h3 : 1000 < len0
  · have hi : (1000 : Int) < (len0 : Int) := by omega
    have HLV : Hid (Calls Tryd.prog 5 #[] w fun e w' => e = .returned (.bool true) ∧ Below w.heap.size w w') := lives_any w hL
    clear w0 hb hL hnil
    go_enter Tryd.func4, Tryd.ntmps4
    go_wp2_with (go_at_call 5; refine HLV.out.mono ?_; rintro e w' ⟨rfl, hb⟩)
    go_ret
    exact ⟨rfl, hb⟩
  · have hi : ¬ (1000 : Int) < (len0 : Int) := by omega
    have h2 : 2 ≤ w.heap.size := hL.lt
    have HL : Hid (Laid w) := hL
    have HB : Hid (BsI w a0 len0 cap0 bs) := hb
    have HNIL : Hid (a0 = none → cap0 = 0) := hnil
    have HLEN : Hid (bs.length = len0) := hb.1
    have HW0 : Hid (∀ W, Calls Tryd.prog 11 #[.pointer none, .slice a0 len0 cap0] W fun e w' => e = .returned (.tuple #[]) ∧ w' = W) := fun W => write_nil _ W
    have HN1 : Hid (Calls Tryd.prog 12 #[] w fun e w' => e = .returned (.pointer (some ⟨w.heap.size, 0, none⟩)) ∧ HashIs w' w.heap.size [] ∧ Below w.heap.size w w') := new_any w hL
    have HN2 : Hid (∀ W, Below w.heap.size w W → Calls Tryd.prog 12 #[] W fun e w' => e = .returned (.pointer (some ⟨W.heap.size, 0, none⟩)) ∧ HashIs w' W.heap.size [] ∧ Below W.heap.size W w') := fun W hW => new_any W (hL.below hW)
    have HS0 : Hid (∀ W, Calls Tryd.prog 13 #[.pointer none] W fun e w' => e = .returned (.string ⟨#[]⟩) ∧ w' = W) := fun W => hsum_nil W
    clear w0 hb hL hnil
    go_enter Tryd.func4, Tryd.ntmps4
    go_wp2_with (first | (go_at_call 11; refine (HW0.out _).mono ?_; rintro e w' ⟨rfl, hw⟩; subst w'))
    refine HN1.out.mono ?_
    rintro e w1 ⟨rfl, hh1, hb1⟩
    go_wp2_with fail
    refine (HN2.out w1 hb1).mono ?_
    rintro e w2 ⟨rfl, hh2, hb2⟩
    have HG2 : Hid (HashIs w2 w1.heap.size []) := hh2
    have HH2 : Hid (HashIs w2 w.heap.size []) := hh1.keep (hb2.block _ hh1.lt)
    have HB2 : Hid (Below w.heap.size w w2) := hb1.trans (hb2.mono hb1.size)
    have hs1 : w.heap.size < w1.heap.size := hh1.lt
    have hs2 : w1.heap.size < w2.heap.size := hh2.lt
    clear hh1 hh2 hb1 hb2 HN1 HN2 HW0
    have HWR : Hid (∀ gm capm w3, w3.ownsRow w2.heap.size 5 1 (.slice (some ⟨gm, 0, none⟩) (0 + len0) capm) (0 + len0) (bytesV ([] ++ bs)) → (w2.alloc (.cells #[] 5)).grownBy w3 (some w2.heap.size) → w2.heap.size ≤ gm ∧ Calls Tryd.prog 11 #[.pointer (some ⟨w.heap.size, 0, none⟩), .slice (some ⟨gm, 0, none⟩) len0 capm] w3 fun e w4 => e = .returned (.tuple #[]) ∧ St w w.heap.size w1.heap.size bs w4 ∧ Own gm len0 w4) := by
      intro gm capm w3 hown3 hgrow3
      rw [Nat.zero_add, List.nil_append] at hown3
      have hbm : Below w2.heap.size w2 w3 := ((Below.refl _ w2).alloc (Nat.le_refl _) _).grown hgrow3 (by simp) (by intro k hk; cases hk; exact Nat.le_refl _)
      have hms := BsI.owned hown3
      have hl := hown3.1
      rcases hown3.2 with ⟨e, _⟩ | ⟨g', cap', cur, e, hg', hrow, hn', hc', hsz, htk⟩
      · cases e
      · cases e
        have hB3 : Below w.heap.size w w3 := HB2.out.trans (hbm.mono HB2.out.size)
        have hH3 : HashIs w3 w.heap.size [] := HH2.out.keep (hbm.block _ (by omega))
        have hG3 : HashIs w3 w1.heap.size [] := HG2.out.keep (hbm.block _ (by omega))
        have hO3 : Own gm len0 w3 := by
          refine ⟨cur, hrow, fun i hi => ⟨(bs.getD i 0).toNat, (bs.getD i 0).toNat_lt, ?_⟩⟩
          have e1 : (cur.toList.take (len0 * 1))[i]? = (bytesV bs)[i]? := by rw [htk]
          rw [List.getElem?_take_of_lt (by omega), Array.getElem?_toList] at e1
          rw [e1]
          have hib : i < bs.length := by rw [HLEN.out]; exact hi
          simp [bytesV, hib]
        refine ⟨hg', (write_any w.heap.size [] (some ⟨gm, 0, none⟩) len0 capm bs w3 h2 hH3 ⟨hms.1, hms.2.1, hms.2.2.1, fun h0 => ?_⟩ (by rw [HLEN.out]; simp; omega) (HL.out.below hB3)).mono ?_⟩
        · obtain ⟨bb, bo, e, hlt, hc⟩ := hms.2.2.2 h0
          cases e
          exact ⟨gm, 0, rfl, by omega, hlt, hc⟩
        · rintro e w4 ⟨rfl, hH4, hO4⟩
          have hlt := lt_of_some hrow
          obtain ⟨cur, hr, hk⟩ := hO3
          exact ⟨rfl, ⟨hH4, hG3.keep (hO4.block _ (by have := hbm.size; omega) (by omega)), Below.only hB3 hB3.size (Nat.le_refl _) hO4⟩, cur, (hO4.block _ hlt (by omega)).trans hr, hk⟩
    go_wp2_with (first | (go_at_call 13; refine (HS0.out _).mono ?_; rintro e w' ⟨rfl, hw⟩; subst w') | (at_builtin; refine append_bs _ rfl (.tmp 29) (.tmp 30) rfl w2.heap.size w2.heap.size 0 0 [] rfl (World.ownsRow_made w2 #[] 0 (Nat.le_refl _) (by decide) rfl) a0 len0 cap0 bs rfl (HB.out.below (HB2.out.alloc HB2.out.size _)) HNIL.out (by omega) (by simp) ?_; intro gm capm w3 hown3 hgrow3; have HW3 : Hid (w2.heap.size ≤ gm ∧ Calls Tryd.prog 11 #[.pointer (some ⟨w.heap.size, 0, none⟩), .slice (some ⟨gm, 0, none⟩) len0 capm] w3 fun e w4 => e = .returned (.tuple #[]) ∧ St w w.heap.size w1.heap.size bs w4 ∧ Own gm len0 w4) := HWR.out gm capm w3 hown3 hgrow3; clear hown3 hgrow3) | (go_at_call 11; refine HW3.out.2.mono ?_; rintro e w4 ⟨rfl, hst4, hown4⟩; have HST : Hid (St w w.heap.size w1.heap.size bs w4) := hst4; have HOWN : Hid (Own gm len0 w4) := hown4; clear hst4 hown4))
    have hgm : w2.heap.size ≤ gm := HW3.out.1
    clear HW3 HWR HH2 HG2 HB2 HS0 HNIL
    go_loopw [7] (fun i wr => ∃ t : Nat, t ≤ len0 ∧ i = .int .i64 t ∧ St w w.heap.size w1.heap.size bs wr ∧ Own gm len0 wr) (fun i _ => len0 - (intOf i).toNat)
    case atStart => exact ⟨0, by omega, rfl, HST.out, HOWN.out⟩
    case round =>
      clear HST HOWN
      obtain ⟨t, ht, rfl, hst, hown⟩ := hrel
      by_cases hlt : t < len0
      · obtain ⟨cur, hr, hc⟩ := hown
        obtain ⟨k, hk, ek⟩ := hc t hlt
        have ck : wr.cell? ⟨gm, t, none⟩ = some (.int .u8 (k : Int)) := by rw [cell_of_row wr gm t _ _ _ hr]; exact ek
        have fk : wr.frozen? ⟨gm, t, none⟩ = false := frozen_of_row wr gm t _ _ hr
        obtain ⟨m, hm⟩ : ∃ m, m = k ^^^ 255 := ⟨_, rfl⟩
        have hm256 : m < 256 := by rw [hm]; exact Nat.xor_lt_two_pow (n := 8) hk (by omega)
        have hx : bits BinOp.xor IntKind.u8 (k : Int) 255 = (m : Int) := by rw [hm]; exact u8_xor_nat k 255 hk (by omega)
        have HST : Hid (St w w.heap.size w1.heap.size bs (wr.setCell ⟨gm, t, none⟩ (.int .u8 (m : Int)))) := hst.set (by omega) (by omega) (by omega) _ _
        have HOWN : Hid (Own gm len0 (wr.setCell ⟨gm, t, none⟩ (.int .u8 (m : Int)))) := Own.put ⟨cur, hr, hc⟩ t m hm256
        have kt : (t : Int) < (len0 : Int) := by omega
        clear hst hr hc ek hm
        go_wp2
        refine ⟨⟨t + 1, by omega, by go_num, HST.out, HOWN.out⟩, by simp [intOf]; omega⟩
      · obtain rfl : t = len0 := by omega
        have HST : Hid (St w w.heap.size w1.heap.size bs wr) := hst
        obtain ⟨D, hD⟩ : ∃ D, strOf (digest bs) = D := ⟨_, rfl⟩
        obtain ⟨D0, hD0⟩ : ∃ D, strOf (digest []) = D := ⟨_, rfl⟩
        have HSH : Hid (∀ W, St w w.heap.size w1.heap.size bs W → Calls Tryd.prog 13 #[.pointer (some ⟨w.heap.size, 0, none⟩)] W fun e w' => e = .returned (.string D) ∧ St w w.heap.size w1.heap.size bs w') := by
          intro W s
          refine (hsum_any _ _ W s.h (by rw [HLEN.out]; omega) (HL.out.below s.b)).mono ?_
          rintro e w' ⟨rfl, hb⟩
          exact ⟨by rw [hD], s.on hb⟩
        have HSG : Hid (∀ W, St w w.heap.size w1.heap.size bs W → Calls Tryd.prog 13 #[.pointer (some ⟨w1.heap.size, 0, none⟩)] W fun e w' => e = .returned (.string D0) ∧ St w w.heap.size w1.heap.size bs w') := by
          intro W s
          refine (hsum_any _ _ W s.g (by simp) (HL.out.below s.b)).mono ?_
          rintro e w' ⟨rfl, hb⟩
          exact ⟨by rw [hD0], s.on hb⟩
        have HSB : Hid (∀ W, St w w.heap.size w1.heap.size bs W → Calls Tryd.prog 10 #[.slice a0 t cap0] W fun e w' => e = .returned (.string D) ∧ St w w.heap.size w1.heap.size bs w') := by
          intro W s
          refine (sum_is _ _ _ bs W (HB.out.below s.b) (by omega) (HL.out.below s.b)).mono ?_
          rintro e w' ⟨rfl, hb⟩
          exact ⟨by rw [hD], s.on hb⟩
        have HSN : Hid (∀ W, St w w.heap.size w1.heap.size bs W → Calls Tryd.prog 10 #[.slice none 0 0] W fun e w' => e = .returned (.string D0) ∧ St w w.heap.size w1.heap.size bs w') := by
          intro W s
          refine (sum_is _ _ _ [] W (BsI.nil W) (by omega) (HL.out.below s.b)).mono ?_
          rintro e w' ⟨rfl, hb⟩
          exact ⟨by rw [hD0], s.on hb⟩
        have HLV : Hid (∀ W, St w w.heap.size w1.heap.size bs W → Calls Tryd.prog 5 #[] W fun e w' => e = .returned (.bool true) ∧ St w w.heap.size w1.heap.size bs w') := by
          intro W s
          refine (lives_any W (HL.out.below s.b)).mono ?_
          rintro e w' ⟨rfl, hb⟩
          exact ⟨rfl, s.on hb⟩
        clear hst hown hD hD0
        go_wp2_with (first | (go_at_call 13; (first | with_reducible refine (HSH.out _ HST.out).mono ?_ | with_reducible refine (HSG.out _ HST.out).mono ?_); rintro e w7 ⟨rfl, hst7⟩; have HST : Hid (St w w.heap.size w1.heap.size bs w7) := hst7; clear hst7) | (go_at_call 10; (first | with_reducible refine (HSB.out _ HST.out).mono ?_ | with_reducible refine (HSN.out _ HST.out).mono ?_); rintro e w7 ⟨rfl, hst7⟩; have HST : Hid (St w w.heap.size w1.heap.size bs w7) := hst7; clear hst7) | (go_at_call 5; refine (HLV.out _ HST.out).mono ?_; rintro e w7 ⟨rfl, hst7⟩; have HST : Hid (St w w.heap.size w1.heap.size bs w7) := hst7; clear hst7))
        go_ret
        exact ⟨rfl, HST.out.b⟩

set_option maxRecDepth 100000 in
theorem lifted (os : Os) (started : os.Started) (H : Type) (enc : TypeId × Value → H) :
    ReturnsInHanded {} Tryd.checked os 4 .any (fun w args => (Rows.shaNilSpec.pre enc Tryd.prog Tryd.f4 [] false w args ∧ laidMetH Tryd.prog laid2 w) ∧ sizedMet enc Tryd.prog Tryd.f4 (OpenSpec.ofChange Rows.shaNilSpec) false w args) (Rows.shaNilSpec.post enc Tryd.prog Tryd.f4 false true false false) := by
  refine returnsInHanded_of_change_and (C := Tryd.checked) (X := fun w _ => laidMetH Tryd.prog laid2 w) (fun _ _ _ hh h => h.of_heap hh) own started (by kernel_rfl) Tryd.func4
    (ChangeSpec.witness_shaped (enc := enc) (C := Tryd.checked) (os := os) (X := fun w _ => laidMetH Tryd.prog laid2 w) false (World.doorLaid Tryd.prog 19 os) #[.slice none 0 0] 8 rfl (World.shaped_of_RefB (by kernel_rfl) (by kernel_rfl)) (by kernel_rfl) (by kernel_rfl) (by kernel_rfl) (door_met os _)) ?_
  intro W base args ds gs before hval0 hW _ _ hL _
  have hval : ∀ (j : Nat) t v, Tryd.f4.params[j]? = some t → args[j]? = some v → Value.okWide Tryd.prog W .any base t v := hval0
  have hW' := hW
  obtain ⟨p, q, hA0, hV, rfl, hfz, hnd⟩ := hW
  have hA : DataW.TrodAll enc Tryd.prog W 0 (fun _ => true) true Tryd.f4.params.toList args.toList ds p := hA0
  rw [Tryd.params4] at hA hval
  obtain ⟨v0, vs0, d0, ds0, p0, q0, hargs, rfl, rfl, h0, r0⟩ := trodAll_cons hA
  obtain ⟨rfl, rfl, rfl⟩ := trodAll_nil r0
  obtain rfl : args = #[v0] := by cases args; simp_all
  obtain ⟨rfl, rfl⟩ := trodVars_none hV
  obtain ⟨a0, len0, cap0, rfl⟩ := okWide_slice Tryd.underlying22 (hval 0 22 v0 rfl rfl)
  have k0 := h0
  have lt0 : ∀ x ∈ p0, x.block < W.heap.size := by obtain ⟨m, hm⟩ := k0; exact DataW.trod_lt m _ _ _ hm
  obtain ⟨z0, w0⟩ : ∃ zs, IsRow .u8 W a0 len0 cap0 zs := by
    obtain ⟨fuel, hf⟩ := h0
    rcases open_ints Tryd.underlying22 Tryd.underlying5 (by kernel_rfl) hf with ⟨hcs, _⟩ | ⟨x, l, c, zs, hcs, _, hl, hm, hz, _, hcell, hwz⟩
    · simp [Value.cells] at hcs
      obtain ⟨rfl, rfl, rfl⟩ := hcs
      exact ⟨[], .inl ⟨rfl, rfl, rfl, rfl⟩⟩
    · simp [Value.cells] at hcs
      obtain ⟨rfl, rfl, rfl⟩ := hcs
      exact ⟨zs, .inr ⟨_, rfl, hl, hm, by simpa using hz, hcell, hwz⟩⟩
  clear hA0 hval0
  refine (walk a0 len0 cap0 z0 W w0 (of_laid hL)).mono fun e W' ⟨he, bel⟩ => ?_
  subst he
  exact ⟨_, rfl, _, _, _, [], _, [], hW', trodAll_mk1 (shut_bool Tryd.underlying4 _), (trodAll_cons_mk (Below.trod laidOut (by kernel_rfl) (of_decide_eq_true (by kernel_rfl)) k0 bel lt0) trodAll_mk0), rfl, bel.frame _, fun h => by cases h⟩

theorem over : Rows.shaNilRow.holds Tryd.pinned (OpenSpec.ofChange Rows.shaNilSpec) :=
  OpenClaim.holds_of_wide 4 Tryd.f4 rfl rfl rfl rfl rfl rfl rfl ⟨rfl, rfl, rfl, rfl, rfl⟩ rfl rfl rfl rfl rfl (by kernel_rfl) Tryd.func4 (by kernel_rfl)
    (of_decide_eq_true (by kernel_rfl)) (by unfold Func.isWrapper; first | (rw [if_pos (by decide +kernel)]; kernel_rfl) | (rw [if_neg (by decide +kernel)]; exact ⟨rfl, rfl⟩))
    (fun os started H enc _ => lifted os started H enc)

end Go.Proofs.YtmachfapcgjljabDoor.shaNil
namespace Go.Proofs.YtmachfapcgjljabDoor
/-- The given statement. -/
theorem shaNil_holds : Rows.ShaNilCardSaid :=
  Claim7.holds_tied_plain_at .later [] [.data, .data] true (true, "adb6a9076cc1d2ab92eedaf856e69b74267a0de8ca1c6f6ef31984fb13b26d13") false
    shaNil.over (fun _ h => by cases h) (by kernel_rfl) (fun _ h => by cases h) shaNil_row_tie rfl ⟨rfl, rfl⟩ (by kernel_rfl) rfl
    (fun f fn hf hfn => by
      obtain rfl : f = 4 := Option.some.inj ((show Tryd.prog.funcNamed "strongroom/strongroomlaw02.ShaNil" = some 4 by kernel_rfl).symm.trans hf) |>.symm
      obtain rfl : fn = Tryd.f4 := (Option.some.inj (Tryd.func4.symm.trans hfn)).symm
      exact ⟨by kernel_rfl, fun j t ht => by
        rw [Tryd.params4] at ht
        rcases j with _ | j
        · obtain rfl : t = 22 := by simpa using ht.symm
          exact (show Tryd.prog.wantsStandIn 22 = false by kernel_rfl)
        · simp at ht
      ⟩)
    (by kernel_rfl)
#print axioms shaNil_holds
end Go.Proofs.YtmachfapcgjljabDoor
