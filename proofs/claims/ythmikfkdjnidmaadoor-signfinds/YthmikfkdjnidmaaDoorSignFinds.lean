/- The law of finding. -/
import Derived.Test.YthmikfkdjnidmaaDoorGJ
import Derived.Test.YthmikfkdjnidmaaDoorCards
import Derived.Test.YthmikfkdjnidmaaDoorTie
import Derived.WalkKit
import Derived.ProofKit
import Derived.OpenShut
import Derived.ShutString
import Derived.ChangeOld
import Derived.Below
import Derived.LaidMore
import Derived.Stop.Joined
import Derived.SevenTiedAt
namespace Go.Proofs.YthmikfkdjnidmaaDoor.signFinds
open Go.ChangeShapes Go.WideShapes Go.ChangeAt Go.WideMaps Go.WideElems Go.RowKit
open Go.ChangeMaps (open_string shut_string)
def Wkb (b : Bool) (l : List Sg) (n : Nat) : Prop := b = true ↔ ∃ s ∈ l, s.1 = n

set_option maxRecDepth 100000 in
set_option maxHeartbeats 2000000 in
theorem walk (a0 : Option Addr) (len0 cap0 : Nat) (ss0 : List Sg) (z0 : ∀ s ∈ ss0, s.1 < 4294967296 ∧ s.2.size ≤ 140737488351232) (n1 : Nat) (s1 : ByteArray) (_z1 : s1.size ≤ 140737488351232) (u1 : n1 < 4294967296) (w : World) (w0 : Gs w a0 len0 cap0 ss0) (hL : Laid w) :
    Calls Tryd.prog 6 #[.slice a0 len0 cap0, .agg #[.int .u32 (n1 : Int), .string s1]] w fun e w' => e = .returned (.bool true) ∧ Below w.heap.size w w' := by
  have HLV : Hid (∀ V, Below w.heap.size w V → Calls Tryd.prog 9 #[] V fun e w' => e = .returned (.bool true) ∧ Below w.heap.size w w') := fun V hV => (lives_any V (hL.below hV)).mono fun e w' h => ⟨h.1, hV.trans (h.2.mono hV.size)⟩
  have HG : Hid (Gs w a0 len0 cap0 ss0) := w0
  have hgl := w0.len
  have hgm := w0.max
  obtain ⟨bx, hbx⟩ : ∃ bx, w.heap.size = bx := ⟨_, rfl⟩
  obtain ⟨W1, hW1, r1, hb1⟩ := box_sg (w := w) n1 s1
  rw [hbx] at r1
  have HF := few_any (w0.below hb1)
  have x1 : W1.cell? ⟨bx, 1, none⟩ = some (.string s1) := by rw [cell_of_row _ _ _ _ _ _ r1]; rfl
  have H1 : Hid (Below w.heap.size w W1 ∧ W1.heap[bx]? = some (.cells #[.int .u32 (n1 : Int), .string s1] 25 (0, 0)) ∧ w.heap.size = bx) := ⟨hb1, r1, hbx⟩
  obtain ⟨fb, hfb⟩ : ∃ fb, fewB ss0 = fb := ⟨_, rfl⟩
  rw [hfb] at HF
  clear w0 hL r1 hb1
  cases fb with
  | false =>
    go_enter Tryd.func6, Tryd.ntmps6
    go_wp2_with fail
    refine HF.mono ?_
    rintro e V ⟨rfl, hV⟩
    subst V
    clear HF
    go_wp2_with fail
    refine (HLV.out _ (H1.out.1)).mono ?_
    rintro e V ⟨rfl, hb⟩
    go_wp2
    go_ret
    exact ⟨rfl, hb⟩
  | true =>
    by_cases hz : 100 < s1.size
    · have kz : (100 : Int) < (s1.size : Int) := by omega
      go_enter Tryd.func6, Tryd.ntmps6
      go_wp2_with fail
      refine HF.mono ?_
      rintro e V ⟨rfl, hV⟩
      subst V
      clear HF
      go_wp2_with fail
      refine (HLV.out _ (H1.out.1)).mono ?_
      rintro e V ⟨rfl, hb⟩
      go_wp2
      go_ret
      exact ⟨rfl, hb⟩
    · have kz : ¬ (100 : Int) < (s1.size : Int) := by omega
      have hfew := of_decide_eq_true hfb
      have hlen : len0 ≤ 1100 := by have := hfew.1; omega
      have HNW := new_index (HG.out.below H1.out.1) (fun s hs => (z0 s hs).1)
      obtain ⟨L, hL⟩ : ∃ L, ss0.take 1024 = L := ⟨_, rfl⟩
      rw [hL] at HNW
      obtain ⟨mn, hmn⟩ : ∃ mn, min len0 1024 = mn := ⟨_, rfl⟩
      have kmn : min (len0 : Int) 1024 = (mn : Int) := by omega
      have HLL : Hid (L.length = mn) := by show _ = _; rw [← hL, List.length_take, hgl]; omega
      obtain ⟨wb, hwb⟩ : ∃ wb, wk L n1 = wb := ⟨_, rfl⟩
      have HWB : Hid (wk L n1 = wb) := hwb
      have HLE : Hid (ss0.take 1024 = L) := hL
      clear hL hwb hfb hfew
      go_enter Tryd.func6, Tryd.ntmps6
      go_wp2_with fail
      refine HF.mono ?_
      rintro e V ⟨rfl, hV⟩
      subst V
      clear HF
      go_wp2_with fail
      refine HNW.mono ?_
      rintro e V2 ⟨g, rfl, hix, hb2, hg2⟩
      have rb2 := (hb2.block bx (lt_of_some H1.out.2.1)).trans H1.out.2.1
      have x0 : V2.cell? ⟨bx, 0, none⟩ = some (.int .u32 (n1 : Int)) := by rw [cell_of_row _ _ _ _ _ _ rb2]; rfl
      have x1 : V2.cell? ⟨bx, 1, none⟩ = some (.string s1) := by rw [cell_of_row _ _ _ _ _ _ rb2]; rfl
      have H2 : Hid (Inx V2 W1.heap.size g L ∧ Below w.heap.size w V2 ∧ V2.heap[bx]? = some (.cells #[.int .u32 (n1 : Int), .string s1] 25 (0, 0))) := ⟨hix, H1.out.1.trans (hb2.mono H1.out.1.size), rb2⟩
      have HFI := find_any hix n1 s1 u1
      clear HNW hix hb2 rb2 hg2
      go_wp2_with fail
      refine HFI.mono ?_
      rintro e V3 ⟨rfl, hb3⟩
      have rb3 := (hb3.block bx (lt_of_some H2.out.2.2)).trans H2.out.2.2
      have x0 : V3.cell? ⟨bx, 0, none⟩ = some (.int .u32 (n1 : Int)) := by rw [cell_of_row _ _ _ _ _ _ rb3]; rfl
      have x1 : V3.cell? ⟨bx, 1, none⟩ = some (.string s1) := by rw [cell_of_row _ _ _ _ _ _ rb3]; rfl
      have H3 : Hid (Inx V3 W1.heap.size g L ∧ Below w.heap.size w V3 ∧ V3.heap[bx]? = some (.cells #[.int .u32 (n1 : Int), .string s1] 25 (0, 0))) := ⟨H2.out.1.below hb3, H2.out.2.1.trans (hb3.mono H2.out.2.1.size), rb3⟩
      have HRF := reffind_any (HG.out.below H3.out.2.1) n1 s1
      rw [HLE.out] at HRF
      clear HFI hb3 rb3
      go_wp2_with fail
      refine HRF.mono ?_
      rintro e V4 ⟨rfl, hb4⟩
      have rb4 := (hb4.block bx (lt_of_some H3.out.2.2)).trans H3.out.2.2
      have HX4 : Hid (Inx V4 W1.heap.size g L ∧ Below w.heap.size w V4 ∧ V4.heap[bx]? = some (.cells #[.int .u32 (n1 : Int), .string s1] 25 (0, 0))) := ⟨H3.out.1.below hb4, H3.out.2.1.trans (hb4.mono H3.out.2.1.size), rb4⟩
      clear HRF hb4 rb4
      go_wp2
      go_loopw [9, 10] (fun vb vi wr => ∃ (i : Nat) (b : Bool), i ≤ len0 ∧ i ≤ 1024 ∧ vi = .int .i64 i ∧ vb = .bool b ∧ Wkb b (ss0.take i) n1 ∧ Below V4.heap.size V4 wr) (fun _ vi _ => len0 - (intOf vi).toNat)
      case atStart => exact ⟨0, false, by omega, by omega, rfl, rfl, ⟨(fun h => by cases h), (fun ⟨s, hs, _⟩ => by simp at hs)⟩, Below.refl _ _⟩
      case round =>
        obtain ⟨i, b, hi, hi24, rfl, rfl, hbi, hbw⟩ := hrel
        by_cases hlt : i < len0 ∧ i < 1024
        · have k1 : (i : Int) < (len0 : Int) := by omega
          have k2 : (i : Int) < 1024 := by omega
          have HW : Hid (Below V4.heap.size V4 wr) := hbw
          have hbw0 : Below w.heap.size w wr := HX4.out.2.1.trans (hbw.mono HX4.out.2.1.size)
          obtain ⟨sb, so, ha, _, hc⟩ := (HG.out.below hbw0).at (by omega)
          subst ha
          obtain ⟨⟨t1, t2⟩, ht⟩ : ∃ t, ss0[i]? = some t := ⟨_, List.getElem?_eq_getElem (by omega)⟩
          obtain ⟨c0, c1⟩ := hc i (t1, t2) ht
          simp only at c0 c1
          have rb := (hbw.block bx (lt_of_some HX4.out.2.2)).trans HX4.out.2.2
          have x0 : wr.cell? ⟨bx, 0, none⟩ = some (.int .u32 (n1 : Int)) := by rw [cell_of_row _ _ _ _ _ _ rb]; rfl
          have HS : Hid ((∃ s ∈ ss0.take (i + 1), s.1 = n1) ↔ (∃ s ∈ ss0.take i, s.1 = n1) ∨ t1 = n1) := by
            show _ ↔ _
            rw [take_snoc ht]
            constructor
            · rintro ⟨s, hs, e⟩
              rcases List.mem_append.1 hs with hs | hs
              · exact .inl ⟨s, hs, e⟩
              · simp only [List.mem_cons, List.not_mem_nil, or_false] at hs
                subst hs
                exact .inr e
            · rintro (⟨s, hs, e⟩ | e)
              · exact ⟨s, List.mem_append_left _ hs, e⟩
              · exact ⟨(t1, t2), List.mem_append_right _ (by simp), e⟩
          have HBI : Hid (Wkb b (ss0.take i) n1) := hbi
          clear hbw hbw0 hc ht rb hbi
          cases b with
          | true =>
            go_wp2
            go_quiet (fail)
            go_wp2
            exact ⟨⟨i + 1, true, by omega, by omega, by go_num, rfl, ⟨fun _ => HS.out.2 (.inl (HBI.out.1 (by first | rfl | trivial))), fun _ => rfl⟩, below_drewN HW.out _⟩, by simp [intOf]; omega⟩
          | false =>
            by_cases he : t1 = n1
            · subst he
              have hbe : ((t1 : Int) == (t1 : Int)) = true := by simp
              go_wp2
              go_quiet (fail)
              go_wp2
              exact ⟨⟨i + 1, true, by omega, by omega, by go_num, rfl, ⟨fun _ => HS.out.2 (.inr (by first | rfl | trivial)), fun _ => rfl⟩, below_drewN HW.out _⟩, by simp [intOf]; omega⟩
            · have hbe : ((t1 : Int) == (n1 : Int)) = false := by simp; omega
              have HNE : Hid (¬ t1 = n1) := he
              clear he
              go_wp2
              go_quiet (fail)
              go_wp2
              refine ⟨⟨i + 1, false, by omega, by omega, by go_num, rfl, ?_, below_drewN HW.out _⟩, by simp [intOf]; omega⟩
              refine ⟨(fun h => by cases h), (fun h => ?_)⟩
              rcases HS.out.1 h with h | h
              · exact HBI.out.2 h
              · exact absurd h HNE.out
        · have hbq : b = wb := by
            have e1 : ss0.take i = L := by
              rw [← HLE.out]
              by_cases h24 : len0 ≤ 1024
              · rw [List.take_of_length_le (by omega), List.take_of_length_le (by omega)]
              · rw [show i = 1024 by omega]
            unfold Wkb at hbi
            rw [e1, ← wk_iff, HWB.out] at hbi
            cases b <;> cases wb <;> simp_all
          subst hbq
          clear hbi
          by_cases hl : i < len0
          · have k1 : (i : Int) < (len0 : Int) := by omega
            have k2 : ¬ (i : Int) < 1024 := by omega
            clear hlt
            have HX : Hid (Inx wr W1.heap.size g L ∧ Below w.heap.size w wr) := ⟨HX4.out.1.below hbw, HX4.out.2.1.trans (hbw.mono HX4.out.2.1.size)⟩
            have rb := (hbw.block bx (lt_of_some HX4.out.2.2)).trans HX4.out.2.2
            have x0 : wr.cell? ⟨bx, 0, none⟩ = some (.int .u32 (n1 : Int)) := by rw [cell_of_row _ _ _ _ _ _ rb]; rfl
            clear hbw rb
            obtain ⟨r, hr⟩ : ∃ r, fnd L (n1, s1) = r := ⟨_, rfl⟩
            rw [hr]
            clear hr
            cases r with
            | none =>
              unfold plOf
              simp only [Option.getD_none, Option.isSome_none]
              have HWK := weak_any (HX.out.1) n1 u1
              rw [HWB.out] at HWK
              go_wp2_with fail
              refine HWK.mono ?_
              rintro e V5 ⟨rfl, hb5⟩
              have HLN := len_any (HX.out.1.below hb5)
              rw [HLL.out] at HLN
              have HB5 : Hid (Below w.heap.size w V5) := HX.out.2.trans (hb5.mono HX.out.2.size)
              have hbb : (b == b) = true := by simp
              clear HWK hb5 x0
              go_wp2_with fail
              refine HLN.mono ?_
              rintro e V6 ⟨rfl, hb6⟩
              have HB : Hid (Below w.heap.size w V6) := HB5.out.trans (hb6.mono HB5.out.size)
              clear HLN hb6
              go_wp2_with fail
              refine (HLV.out _ (HB.out)).mono ?_
              rintro e V ⟨rfl, hb⟩
              go_wp2
              go_ret
              exact ⟨rfl, hb⟩
            | some k =>
              have hk0 : (0 : Int) ≤ (k : Int) := by omega
              unfold plOf
              simp only [Option.getD_some, Option.isSome_some]
              have hke : ((k : Int) == (k : Int)) = true := by simp
              have HWK := weak_any (HX.out.1) n1 u1
              rw [HWB.out] at HWK
              go_wp2_with fail
              refine HWK.mono ?_
              rintro e V5 ⟨rfl, hb5⟩
              have HLN := len_any (HX.out.1.below hb5)
              rw [HLL.out] at HLN
              have HB5 : Hid (Below w.heap.size w V5) := HX.out.2.trans (hb5.mono HX.out.2.size)
              have hbb : (b == b) = true := by simp
              clear HWK hb5 x0
              go_wp2_with fail
              refine HLN.mono ?_
              rintro e V6 ⟨rfl, hb6⟩
              have HB : Hid (Below w.heap.size w V6) := HB5.out.trans (hb6.mono HB5.out.size)
              clear HLN hb6
              go_wp2_with fail
              refine (HLV.out _ (HB.out)).mono ?_
              rintro e V ⟨rfl, hb⟩
              go_wp2
              go_ret
              exact ⟨rfl, hb⟩
          · have k1 : ¬ (i : Int) < (len0 : Int) := by omega
            clear hlt
            have HX : Hid (Inx wr W1.heap.size g L ∧ Below w.heap.size w wr) := ⟨HX4.out.1.below hbw, HX4.out.2.1.trans (hbw.mono HX4.out.2.1.size)⟩
            have rb := (hbw.block bx (lt_of_some HX4.out.2.2)).trans HX4.out.2.2
            have x0 : wr.cell? ⟨bx, 0, none⟩ = some (.int .u32 (n1 : Int)) := by rw [cell_of_row _ _ _ _ _ _ rb]; rfl
            clear hbw rb
            obtain ⟨r, hr⟩ : ∃ r, fnd L (n1, s1) = r := ⟨_, rfl⟩
            rw [hr]
            clear hr
            cases r with
            | none =>
              unfold plOf
              simp only [Option.getD_none, Option.isSome_none]
              have HWK := weak_any (HX.out.1) n1 u1
              rw [HWB.out] at HWK
              go_wp2_with fail
              refine HWK.mono ?_
              rintro e V5 ⟨rfl, hb5⟩
              have HLN := len_any (HX.out.1.below hb5)
              rw [HLL.out] at HLN
              have HB5 : Hid (Below w.heap.size w V5) := HX.out.2.trans (hb5.mono HX.out.2.size)
              have hbb : (b == b) = true := by simp
              clear HWK hb5 x0
              go_wp2_with fail
              refine HLN.mono ?_
              rintro e V6 ⟨rfl, hb6⟩
              have HB : Hid (Below w.heap.size w V6) := HB5.out.trans (hb6.mono HB5.out.size)
              clear HLN hb6
              go_wp2_with fail
              refine (HLV.out _ (HB.out)).mono ?_
              rintro e V ⟨rfl, hb⟩
              go_wp2
              go_ret
              exact ⟨rfl, hb⟩
            | some k =>
              have hk0 : (0 : Int) ≤ (k : Int) := by omega
              unfold plOf
              simp only [Option.getD_some, Option.isSome_some]
              have hke : ((k : Int) == (k : Int)) = true := by simp
              have HWK := weak_any (HX.out.1) n1 u1
              rw [HWB.out] at HWK
              go_wp2_with fail
              refine HWK.mono ?_
              rintro e V5 ⟨rfl, hb5⟩
              have HLN := len_any (HX.out.1.below hb5)
              rw [HLL.out] at HLN
              have HB5 : Hid (Below w.heap.size w V5) := HX.out.2.trans (hb5.mono HX.out.2.size)
              have hbb : (b == b) = true := by simp
              clear HWK hb5 x0
              go_wp2_with fail
              refine HLN.mono ?_
              rintro e V6 ⟨rfl, hb6⟩
              have HB : Hid (Below w.heap.size w V6) := HB5.out.trans (hb6.mono HB5.out.size)
              clear HLN hb6
              go_wp2_with fail
              refine (HLV.out _ (HB.out)).mono ?_
              rintro e V ⟨rfl, hb⟩
              go_wp2
              go_ret
              exact ⟨rfl, hb⟩

set_option linter.unusedVariables false in
set_option maxRecDepth 100000 in
theorem lifted (os : Os) (started : os.Started) (H : Type) (enc : TypeId × Value → H) :
    ReturnsInHanded {} Tryd.checked os 6 .any (fun w args => (Rows.signFindsSpec.pre enc Tryd.prog Tryd.f6 [] false w args ∧ laidMetH Tryd.prog laid2 w) ∧ sizedMet enc Tryd.prog Tryd.f6 (OpenSpec.ofChange Rows.signFindsSpec) false w args) (Rows.signFindsSpec.post enc Tryd.prog Tryd.f6 false true false false) := by
  refine returnsInHanded_of_change_and (C := Tryd.checked) (X := fun w _ => laidMetH Tryd.prog laid2 w) (fun _ _ _ hh h => h.of_heap hh) own started (by kernel_rfl) Tryd.func6
    (ChangeSpec.witness_shaped (enc := enc) (C := Tryd.checked) (os := os) (X := fun w _ => laidMetH Tryd.prog laid2 w) false (World.doorLaid Tryd.prog 19 os) #[.slice none 0 0, .agg #[.int .u32 0, .string ByteArray.empty]] 8 rfl (World.shaped_of_RefB (by kernel_rfl) (by kernel_rfl)) (by kernel_rfl) (by kernel_rfl) (by kernel_rfl) (door_met os _)) ?_
  intro W base args ds gs before hval0 hW _ hsz0 hL _
  have hval : ∀ (j : Nat) t v, Tryd.f6.params[j]? = some t → args[j]? = some v → Value.okWide Tryd.prog W .any base t v := hval0
  have hsz : (DataW.weightsEach Tryd.prog (Tryd.f6.params.toList ++ Rows.signFindsSpec.plain.varTypes Tryd.prog) (ds ++ gs)).all (· ≤ reachBytes) = true := hsz0
  have hW' := hW
  obtain ⟨p, q, hA0, hV, rfl, hfz, hnd⟩ := hW
  have hA : DataW.TrodAll enc Tryd.prog W 0 (fun _ => true) true Tryd.f6.params.toList args.toList ds p := hA0
  rw [Tryd.params6] at hA hval hsz
  obtain ⟨v0, vs0, d0, ds0, p0, q0, hargs, rfl, rfl, h0, r0⟩ := trodAll_cons hA
  obtain ⟨v1, vs1, d1, ds1, p1, q1, rfl, rfl, rfl, h1, r1⟩ := trodAll_cons r0
  obtain ⟨rfl, rfl, rfl⟩ := trodAll_nil r1
  obtain rfl : args = #[v0, v1] := by cases args; simp_all
  obtain ⟨rfl, rfl⟩ := trodVars_none hV
  have k0 := h0
  have lt0 : ∀ x ∈ p0, x.block < W.heap.size := by obtain ⟨m, hm⟩ := k0; exact DataW.trod_lt m _ _ _ hm
  obtain ⟨a0, len0, cap0, rfl⟩ := okWide_slice Tryd.underlying34 (hval 0 34 v0 rfl rfl)
  obtain ⟨ss0, w0, z0⟩ : ∃ ss, Gs W a0 len0 cap0 ss ∧ ∀ s ∈ ss, s.1 < 4294967296 ∧ s.2.size ≤ 140737488351232 := by
    obtain ⟨fuel, hf⟩ := h0
    exact signs_of (j := 0) (by simpa [Value.cells] using hf) hsz rfl rfl
  have k1 := h1
  have lt1 : ∀ x ∈ p1, x.block < W.heap.size := by obtain ⟨m, hm⟩ := k1; exact DataW.trod_lt m _ _ _ hm
  obtain ⟨n1, s1, rfl, z1, u1⟩ := sign_arg (j := 1) (hval 1 25 v1 rfl rfl) h1 hsz rfl rfl
  clear hA0 hval0 hsz hsz0
  refine (walk a0 len0 cap0 ss0 z0 n1 s1 z1 u1 W w0 (of_laid hL)).mono fun e W' ⟨he, bel⟩ => ?_
  subst he
  exact ⟨_, rfl, _, _, _, [], _, [], hW', trodAll_mk1 (shut_bool Tryd.underlying4 _), (trodAll_cons_mk (Below.trod laidOut (by kernel_rfl) (of_decide_eq_true (by kernel_rfl)) k0 bel lt0) (trodAll_cons_mk (Below.trod laidOut (by kernel_rfl) (of_decide_eq_true (by kernel_rfl)) k1 bel lt1) trodAll_mk0)), rfl, bel.frame _, fun h => by cases h⟩

theorem over : Rows.signFindsRow.holds Tryd.pinned (OpenSpec.ofChange Rows.signFindsSpec) :=
  OpenClaim.holds_of_wide 6 Tryd.f6 rfl rfl rfl rfl rfl rfl rfl ⟨rfl, rfl, rfl, rfl, rfl⟩ rfl rfl rfl rfl rfl (by kernel_rfl) Tryd.func6 (by kernel_rfl)
    (of_decide_eq_true (by kernel_rfl)) (by unfold Func.isWrapper; first | (rw [if_pos (by decide +kernel)]; kernel_rfl) | (rw [if_neg (by decide +kernel)]; exact ⟨rfl, rfl⟩))
    (fun os started H enc _ => lifted os started H enc)

end Go.Proofs.YthmikfkdjnidmaaDoor.signFinds
namespace Go.Proofs.YthmikfkdjnidmaaDoor
/-- The given statement. -/
theorem signFinds_holds : Rows.SignFindsCardSaid :=
  Claim7.holds_tied_plain_at .later [] [.data, .data] true (true, "9366dbee3e6b8144bc6f035be57a0a175d8cc15111da3a5f955b6f509a08af4f") false
    signFinds.over (fun _ h => by cases h) (by kernel_rfl) (fun _ h => by cases h) signFinds_row_tie rfl ⟨rfl, rfl⟩ (by kernel_rfl) rfl
    (fun f fn hf hfn => by
      obtain rfl : f = 6 := Option.some.inj ((show Tryd.prog.funcNamed "strongroom/strongroomlaw10.SignFinds" = some 6 by kernel_rfl).symm.trans hf) |>.symm
      obtain rfl : fn = Tryd.f6 := (Option.some.inj (Tryd.func6.symm.trans hfn)).symm
      exact ⟨by kernel_rfl, fun j t ht => by
        rw [Tryd.params6] at ht
        rcases j with _ | _ | j
        · obtain rfl : t = 34 := by simpa using ht.symm
          exact (show Tryd.prog.wantsStandIn 34 = false by kernel_rfl)
        · obtain rfl : t = 25 := by simpa using ht.symm
          exact (show Tryd.prog.wantsStandIn 25 = false by kernel_rfl)
        · simp at ht
      ⟩)
    (by kernel_rfl)
#print axioms signFinds_holds
end Go.Proofs.YthmikfkdjnidmaaDoor
