/- Proved: for every list of pieces, the law ShaPieces returns true, the list as it was; where the package's two tables begin as the program's text lays them. -/
import Derived.Test.YtmachfapcgjljaaDoorBD
import Derived.Test.YtmachfapcgjljaaDoorCards
import Derived.Test.YtmachfapcgjljaaDoorTie
import Derived.WalkKit
import Derived.Deep.Slices
import Derived.ProofKit
import Derived.OpenShut
import Derived.ShutString
import Derived.ChangeOld
import Derived.Below
import Derived.LaidMore
import Derived.Stop.Joined
import Derived.SevenTiedAt
namespace Go.Proofs.YtmachfapcgjljaaDoor.shaPieces
open Go.ChangeShapes Go.WideShapes Go.ChangeAt Go.WideMaps Go.WideElems Go.RowKit
open Go.ChangeMaps (open_string shut_string)
theorem laidOut : laidOutB Tryd.prog = true := by kernel_rfl


/-- A list of slices of bytes, as it lies in memory. -/
def LsI (w : World) (a : Option Addr) (len cap : Nat) (L : List (List UInt8)) : Prop :=
  L.length = len ∧ len ≤ cap ∧ cap ≤ 9223372036854775807 ∧ (0 < len → ∃ bb bo, a = some ⟨bb, bo, none⟩ ∧ bb < w.heap.size ∧ ∀ i, i < len → ∃ ai ni ci, w.cell? ⟨bb, bo + i, none⟩ = some (.slice ai ni ci) ∧ BsI w ai ni ci (L.getD i []) ∧ (ai = none → ci = 0))
theorem bytes_of {H : Type} {enc : TypeId × Value → H} {W : World} {fuel : Nat} {v : Value} {x : DataW H × List MemPlace} (h : DataW.trod enc Tryd.prog W 0 (fun _ => true) true fuel 28 [v] = some x) :
    ∃ a n c bs, v = .slice a n c ∧ BsI W a n c bs ∧ (a = none → c = 0) := by
  rcases open_ints Tryd.underlying28 Tryd.underlying5 (by kernel_rfl) h with ⟨hcs, _⟩ | ⟨x, l, c, zs, hcs, _, hl, hm, hz, _, hcell, hwz⟩
  · cases hcs
    exact ⟨none, 0, 0, [], rfl, BsI.nil W, fun _ => rfl⟩
  · cases hcs
    have hr : IsRow .u8 W (some x) l c zs := .inr ⟨_, rfl, hl, hm, by simpa using hz, hcell, hwz⟩
    obtain ⟨bs, hb⟩ := hr.bsI
    exact ⟨_, _, _, bs, rfl, hb, fun e => by cases e⟩
theorem lists_of {H : Type} {enc : TypeId × Value → H} {W : World} {fuel : Nat} {a : Option Addr} {len cap : Nat} {x : DataW H × List MemPlace} (h : DataW.trod enc Tryd.prog W 0 (fun _ => true) true fuel 42 [.slice a len cap] = some x) :
    ∃ L, LsI W a len cap L := by
  rcases Go.Deep.open_slice1 Tryd.underlying42 (by kernel_rfl) h with ⟨hcs, _⟩ | ⟨x, l, c, m, n, V, D, Pl, hcs, _, hl, hm, hmm, _, hel⟩
  · cases hcs
    exact ⟨[], rfl, Nat.le_refl _, by omega, by omega⟩
  · cases hcs
    have hlm : len ≤ m := by rw [hmm]; split <;> omega
    have key : ∀ i, ∃ bs, i < len → ∃ ai ni ci, W.cell? (x.add i) = some (.slice ai ni ci) ∧ BsI W ai ni ci bs ∧ (ai = none → ci = 0) := by
      intro i
      by_cases hi : i < len
      · obtain ⟨h1, h2⟩ := hel i (by omega)
        obtain ⟨ai, ni, ci, bs, e, hb, hn⟩ := bytes_of h2
        exact ⟨bs, fun _ => ⟨ai, ni, ci, by rw [h1, e], hb, hn⟩⟩
      · exact ⟨[], fun h => absurd h hi⟩
    refine ⟨(List.range len).map fun i => (key i).choose, by simp, hl, by simpa [maxLen] using hm, fun h0 => ?_⟩
    obtain ⟨ai, ni, ci, e0, _, _⟩ := (key 0).choose_spec h0
    obtain ⟨b, o, rfl⟩ := spot_none e0
    refine ⟨b, o, rfl, ?_, fun i hi => ?_⟩
    · have := block_lt_of_cell e0
      rwa [add_block] at this
    · obtain ⟨ai, ni, ci, e, hb, hn⟩ := (key i).choose_spec hi
      rw [add_at] at e
      refine ⟨ai, ni, ci, e, ?_, hn⟩
      simpa [hi] using hb
/-- What stays from round to round: the Hash and the own bytes have the same bytes P. -/
structure StP (w : World) (base gh gm cp : Nat) (P : List UInt8) (W : World) : Prop where
  h : HashIs W gh P
  o : W.ownsRow base 5 1 (.slice (some ⟨gm, 0, none⟩) P.length cp) P.length (bytesV P)
  b : Below w.heap.size w W
theorem owns_keep {w w' : World} {base g n cap : Nat} {xs : List Value} (h : w.ownsRow base 5 1 (.slice (some ⟨g, 0, none⟩) n cap) n xs) (e : w'.heap[g]? = w.heap[g]?) : w'.ownsRow base 5 1 (.slice (some ⟨g, 0, none⟩) n cap) n xs := by
  refine ⟨h.1, ?_⟩
  rcases h.2 with h2 | ⟨g', cap', cur, e1, h1, h2, h3⟩
  · exact .inl h2
  · cases e1
    exact .inr ⟨g, cap, cur, rfl, h1, e.trans h2, h3⟩
theorem StP.on {w W W' : World} {base gh gm cp : Nat} {P : List UInt8} (s : StP w base gh gm cp P W) (hb : Below W.heap.size W W') : StP w base gh gm cp P W' :=
  ⟨s.h.keep (hb.block _ s.h.lt), owns_keep s.o (hb.block _ (s.o.lt gm rfl).2), s.b.trans (hb.mono s.b.size)⟩
theorem flat_snoc (L : List (List UInt8)) (t : Nat) (h : t < L.length) : (L.take (t + 1)).flatten = (L.take t).flatten ++ L.getD t [] := by
  have e : L.take (t + 1) = L.take t ++ [L.getD t []] := by
    rw [List.take_add_one, List.getElem?_eq_getElem h]
    simp [h]
  rw [e, List.flatten_append]
  simp

set_option maxRecDepth 100000 in
set_option maxHeartbeats 2000000 in
theorem walk (a0 : Option Addr) (len0 cap0 : Nat) (L : List (List UInt8)) (w : World) (w0 : LsI w a0 len0 cap0 L) (hL : Laid w) :
    Calls Tryd.prog 8 #[.slice a0 len0 cap0] w fun e w' => e = .returned (.bool true) ∧ Below w.heap.size w w' := by
  have h2 : 2 ≤ w.heap.size := hL.lt
  have HL : Hid (Laid w) := hL
  have HB : Hid (LsI w a0 len0 cap0 L) := w0
  have HN1 : Hid (Calls Tryd.prog 21 #[] w fun e w' => e = .returned (.pointer (some ⟨w.heap.size, 0, none⟩)) ∧ HashIs w' w.heap.size [] ∧ Below w.heap.size w w') := new_any w hL
  have hlen63 : len0 ≤ 9223372036854775807 := Nat.le_trans w0.2.1 w0.2.2.1
  clear w0 hL
  go_enter Tryd.func8, Tryd.ntmps8
  go_wp2_with (go_at_call 21; refine HN1.out.mono ?_; rintro e w1 ⟨rfl, hh1, hb1⟩; have HH1 : Hid (HashIs w1 w.heap.size []) := hh1; have HB1 : Hid (Below w.heap.size w w1) := hb1; clear hh1 hb1)
  have hs1 : w.heap.size < w1.heap.size := HH1.out.lt
  have HLV : Hid (∀ W, Below w.heap.size w W → Calls Tryd.prog 11 #[] W fun e w' => e = .returned (.bool true) ∧ Below w.heap.size w w') := by
    intro W hW
    refine (lives_any W (HL.out.below hW)).mono ?_
    rintro e w' ⟨rfl, hb⟩
    exact ⟨rfl, hW.trans (hb.mono hW.size)⟩
  have HST0 : Hid (StP w w1.heap.size w.heap.size w1.heap.size 0 [] (w1.alloc (.cells #[] 5))) :=
    ⟨HH1.out.keep (Go.heap_alloc_old _ _ (by omega)), World.ownsRow_made w1 #[] 0 (Nat.le_refl _) (by decide) rfl, HB1.out.alloc HB1.out.size _⟩
  clear HN1
  go_loopw [4, 5] (fun al i wr => ∃ (t gm cp N : Nat), t ≤ len0 ∧ t ≤ 30 ∧ N ≤ 300 * t ∧ N = ((L.take t).flatten).length ∧ i = .int .i64 t ∧ al = .slice (some ⟨gm, 0, none⟩) N cp ∧ StP w w1.heap.size w.heap.size gm cp ((L.take t).flatten) wr) (fun _ i _ => 31 - (intOf i).toNat)
  case atStart => exact ⟨0, w1.heap.size, 0, 0, by omega, by omega, by omega, rfl, rfl, rfl, HST0.out⟩
  case round =>
    clear HST0
    obtain ⟨t, gm, cp, N, ht, ht30, hN300, hN, rfl, rfl, hst⟩ := hrel
    have hgm : w1.heap.size ≤ gm := (hst.o.lt gm rfl).1
    obtain ⟨P, hP⟩ : ∃ P, (L.take t).flatten = P := ⟨_, rfl⟩
    rw [hP] at hst hN
    have HP : Hid ((L.take t).flatten = P) := hP
    obtain ⟨D, hD⟩ : ∃ D, strOf (digest P) = D := ⟨_, rfl⟩
    by_cases hgo : t < len0 ∧ t < 30
    · obtain ⟨bb, bo, rfl, hlt, hel⟩ := HB.out.2.2.2 (by omega)
      obtain ⟨ai, ni, ci, hci, hbi, hni⟩ := hel t hgo.1
      have hct : wr.cell? ⟨bb, bo + t, none⟩ = some (.slice ai ni ci) := by rw [hst.b.cell hlt]; exact hci
      have d1 : decide ((t : Int) < (len0 : Int)) = true := by simp; omega
      have d2 : decide ((t : Int) < 30) = true := by simp; omega
      have d3 : (t : Int) < (len0 : Int) := by omega
      have hni63 : ni ≤ 9223372036854775807 := Nat.le_trans hbi.2.1 hbi.2.2.1
      by_cases h300 : 300 < ni
      · have d4 : (300 : Int) < (ni : Int) := by omega
        have HSB : Hid (Below w.heap.size w wr) := hst.b
        clear hst hN hP hD hel hci hbi hni hgo HP
        go_wp2_with (go_at_call 11; refine (HLV.out _ HSB.out).mono ?_; rintro e w' ⟨rfl, hb⟩)
        go_ret
        exact ⟨rfl, hb⟩
      · have d4 : ¬ (300 : Int) < (ni : Int) := by omega
        obtain ⟨bs, hbs⟩ : ∃ bs, L.getD t [] = bs := ⟨_, rfl⟩
        rw [hbs] at hbi
        obtain ⟨Q, hQ⟩ : ∃ Q, P ++ bs = Q := ⟨_, rfl⟩
        have hbl := hbi.1
        have hQl : Q.length = N + ni := by rw [← hQ, List.length_append, hN, hbl]
        obtain ⟨E, hE⟩ : ∃ E, strOf (digest Q) = E := ⟨_, rfl⟩
        have HWR : Hid (Calls Tryd.prog 22 #[.pointer (some ⟨w.heap.size, 0, none⟩), .slice ai ni ci] wr fun e w2 => e = .returned (.tuple #[]) ∧ HashIs w2 w.heap.size Q ∧ w2.ownsRow w1.heap.size 5 1 (.slice (some ⟨gm, 0, none⟩) N cp) N (bytesV P) ∧ Below w.heap.size w w2 ∧ w1.heap.size ≤ w2.heap.size ∧ w2.cell? ⟨bb, bo + t, none⟩ = some (.slice ai ni ci)) := by
          have hgl := (hst.o.lt gm rfl).2
          refine (write_any w.heap.size P ai ni ci bs wr h2 hst.h (hbi.at hst.b _ (Nat.le_refl _)) (by omega) (HL.out.below hst.b)).mono ?_
          rintro e w2 ⟨rfl, hH2, hO2⟩
          have hB2 : Below w.heap.size w w2 := Below.only hst.b hst.b.size (Nat.le_refl _) hO2
          have ho := hst.o
          rw [← hN] at ho
          exact ⟨rfl, hQ ▸ hH2, owns_keep ho (hO2.block _ hgl (by omega)), hB2, by have := hO2.size; omega, by rw [hB2.cell hlt]; exact hci⟩
        have HAP : Hid (∀ w2 g' cap' w3, HashIs w2 w.heap.size Q → Below w.heap.size w w2 → w1.heap.size ≤ w2.heap.size → w3.ownsRow w1.heap.size 5 1 (.slice (some ⟨g', 0, none⟩) (N + ni) cap') (N + ni) (bytesV (P ++ bs)) → w2.grownBy w3 (some gm) → StP w w1.heap.size w.heap.size g' cap' Q w3) := by
          intro w2 g' cap' w3 hH2 hB2 hs2 hown3 hgrow3
          have hb3 : Below w1.heap.size w2 w3 := (Below.refl _ w2).grown hgrow3 hs2 (by intro k hk; cases hk; exact hgm)
          rw [← hQl, hQ] at hown3
          exact ⟨hH2.keep (hb3.block _ hs1), hown3, hB2.trans (hb3.mono (by omega))⟩
        have HBI : Hid (BsI w ai ni ci bs) := hbi
        have HNI : Hid (ai = none → ci = 0) := hni
        have HSH : Hid (∀ g' c' W, StP w w1.heap.size w.heap.size g' c' Q W → Calls Tryd.prog 23 #[.pointer (some ⟨w.heap.size, 0, none⟩)] W fun e w' => e = .returned (.string E) ∧ StP w w1.heap.size w.heap.size g' c' Q w') := by
          intro g' c' W s
          refine (hsum_any _ _ W s.h (by omega) (HL.out.below s.b)).mono ?_
          rintro e w' ⟨rfl, hb⟩
          exact ⟨by rw [hE], s.on hb⟩
        have HSA : Hid (∀ g' c' W, StP w w1.heap.size w.heap.size g' c' Q W → Calls Tryd.prog 19 #[.slice (some ⟨g', 0, none⟩) (N + ni) c'] W fun e w' => e = .returned (.string E) ∧ StP w w1.heap.size w.heap.size g' c' Q w') := by
          intro g' c' W s
          have hbo := BsI.owned s.o
          rw [hQl] at hbo
          refine (sum_is _ _ _ Q W hbo (by omega) (HL.out.below s.b)).mono ?_
          rintro e w' ⟨rfl, hb⟩
          exact ⟨by rw [hE], s.on hb⟩
        have HNX : Hid ((L.take (t + 1)).flatten = Q) := by
          have hll := HB.out.1
          show _ = Q
          rw [flat_snoc L t (by omega), HP.out, hbs, hQ]
        have HQL : Hid (Q.length = N + ni) := hQl
        have htl := hgo.1
        have ht3 := hgo.2
        by_cases h3 : t % 3 = 0
        · have d5 : (t : Int) % 3 = 0 := by omega
          clear hst hN hP hD hel hci hbi hni hgo HP hbs hQ hQl hE hbl
          go_wp2_with (first | (go_at_call 22; refine HWR.out.mono ?_; rintro e w2 ⟨rfl, hH2, hown2, hB2, hs2, hct2⟩; have HH2 : Hid (HashIs w2 w.heap.size Q) := hH2; have HO2 : Hid (w2.ownsRow w1.heap.size 5 1 (.slice (some ⟨gm, 0, none⟩) N cp) N (bytesV P)) := hown2; have HB2 : Hid (Below w.heap.size w w2) := hB2; clear hH2 hown2 hB2) | (at_builtin; refine append_bs _ rfl (.tmp 33) (.tmp 37) rfl w1.heap.size gm N cp P rfl HO2.out ai ni ci bs rfl (HBI.out.below HB2.out) HNI.out (by omega) hs2 ?_; intro g' cap' w3 hown3 hgrow3; have HST : Hid (StP w w1.heap.size w.heap.size g' cap' Q w3) := HAP.out w2 g' cap' w3 HH2.out HB2.out hs2 hown3 hgrow3; clear hown3 hgrow3) | (go_at_call 23; refine (HSH.out _ _ _ HST.out).mono ?_; rintro e w7 ⟨rfl, hst7⟩; have HST : Hid (StP w w1.heap.size w.heap.size g' cap' Q w7) := hst7; clear hst7) | (go_at_call 19; refine (HSA.out _ _ _ HST.out).mono ?_; rintro e w7 ⟨rfl, hst7⟩; have HST : Hid (StP w w1.heap.size w.heap.size g' cap' Q w7) := hst7; clear hst7))
          exact ⟨⟨t + 1, g', cap', N + ni, by omega, by omega, by omega, by rw [HNX.out]; exact HQL.out.symm, by go_num, rfl, by rw [HNX.out]; exact HST.out⟩, by simp [intOf]; omega⟩
        · have d5 : ¬ (t : Int) % 3 = 0 := by omega
          have d6 : (((t : Int) % 3) == 0) = false := by simp; omega
          clear hst hN hP hD hel hci hbi hni hgo HP hbs hQ hQl hE hbl
          go_wp2_with (first | (go_at_call 22; refine HWR.out.mono ?_; rintro e w2 ⟨rfl, hH2, hown2, hB2, hs2, hct2⟩; have HH2 : Hid (HashIs w2 w.heap.size Q) := hH2; have HO2 : Hid (w2.ownsRow w1.heap.size 5 1 (.slice (some ⟨gm, 0, none⟩) N cp) N (bytesV P)) := hown2; have HB2 : Hid (Below w.heap.size w w2) := hB2; clear hH2 hown2 hB2) | (at_builtin; refine append_bs _ rfl (.tmp 33) (.tmp 37) rfl w1.heap.size gm N cp P rfl HO2.out ai ni ci bs rfl (HBI.out.below HB2.out) HNI.out (by omega) hs2 ?_; intro g' cap' w3 hown3 hgrow3; have HST : Hid (StP w w1.heap.size w.heap.size g' cap' Q w3) := HAP.out w2 g' cap' w3 HH2.out HB2.out hs2 hown3 hgrow3; clear hown3 hgrow3))
          exact ⟨⟨t + 1, g', cap', N + ni, by omega, by omega, by omega, by rw [HNX.out]; exact HQL.out.symm, by go_num, rfl, by rw [HNX.out]; exact HST.out⟩, by simp [intOf]; omega⟩
    · have HSH : Hid (∀ W, StP w w1.heap.size w.heap.size gm cp P W → Calls Tryd.prog 23 #[.pointer (some ⟨w.heap.size, 0, none⟩)] W fun e w' => e = .returned (.string D) ∧ StP w w1.heap.size w.heap.size gm cp P w') := by
        intro W s
        refine (hsum_any _ _ W s.h (by omega) (HL.out.below s.b)).mono ?_
        rintro e w' ⟨rfl, hb⟩
        exact ⟨by rw [hD], s.on hb⟩
      have HSA : Hid (∀ W, StP w w1.heap.size w.heap.size gm cp P W → Calls Tryd.prog 19 #[.slice (some ⟨gm, 0, none⟩) N cp] W fun e w' => e = .returned (.string D) ∧ StP w w1.heap.size w.heap.size gm cp P w') := by
        intro W s
        have hbo := BsI.owned s.o
        rw [← hN] at hbo
        refine (sum_is _ _ _ P W hbo (by omega) (HL.out.below s.b)).mono ?_
        rintro e w' ⟨rfl, hb⟩
        exact ⟨by rw [hD], s.on hb⟩
      have HLP : Hid (∀ W, StP w w1.heap.size w.heap.size gm cp P W → Calls Tryd.prog 11 #[] W fun e w' => e = .returned (.bool true) ∧ Below w.heap.size w w') := fun W s => HLV.out W s.b
      have hDs : D.size = 32 := by rw [← hD, strOf_size, digest_len]
      have HST : Hid (StP w w1.heap.size w.heap.size gm cp P wr) := hst
      by_cases hlt : t < len0
      · have d1 : decide ((t : Int) < (len0 : Int)) = true := by simp; omega
        have d2 : decide ((t : Int) < 30) = false := by simp; omega
        have d3 : ¬ (t : Int) < 30 := by omega
        clear hst hN hP hD HP hgo
        go_wp2_with (first | (go_at_call 23; refine (HSH.out _ HST.out).mono ?_; rintro e w7 ⟨rfl, hst7⟩; have HST : Hid (StP w w1.heap.size w.heap.size gm cp P w7) := hst7; clear hst7) | (go_at_call 19; refine (HSA.out _ HST.out).mono ?_; rintro e w7 ⟨rfl, hst7⟩; have HST : Hid (StP w w1.heap.size w.heap.size gm cp P w7) := hst7; clear hst7) | (go_at_call 11; refine (HLP.out _ HST.out).mono ?_; rintro e w7 ⟨rfl, hb7⟩))
        go_ret
        exact ⟨rfl, hb7⟩
      · have d1 : decide ((t : Int) < (len0 : Int)) = false := by simp; omega
        have d3 : ¬ (t : Int) < (len0 : Int) := by omega
        clear hst hN hP hD HP hgo
        go_wp2_with (first | (go_at_call 23; refine (HSH.out _ HST.out).mono ?_; rintro e w7 ⟨rfl, hst7⟩; have HST : Hid (StP w w1.heap.size w.heap.size gm cp P w7) := hst7; clear hst7) | (go_at_call 19; refine (HSA.out _ HST.out).mono ?_; rintro e w7 ⟨rfl, hst7⟩; have HST : Hid (StP w w1.heap.size w.heap.size gm cp P w7) := hst7; clear hst7) | (go_at_call 11; refine (HLP.out _ HST.out).mono ?_; rintro e w7 ⟨rfl, hb7⟩))
        go_ret
        exact ⟨rfl, hb7⟩

set_option maxRecDepth 100000 in
theorem lifted (os : Os) (started : os.Started) (H : Type) (enc : TypeId × Value → H) :
    ReturnsInHanded {} Tryd.checked os 8 .any (fun w args => (Rows.shaPiecesSpec.pre enc Tryd.prog Tryd.f8 [] false w args ∧ laidMetH Tryd.prog laid2 w) ∧ sizedMet enc Tryd.prog Tryd.f8 (OpenSpec.ofChange Rows.shaPiecesSpec) false w args) (Rows.shaPiecesSpec.post enc Tryd.prog Tryd.f8 false true false false) := by
  refine returnsInHanded_of_change_and (C := Tryd.checked) (X := fun w _ => laidMetH Tryd.prog laid2 w) (fun _ _ _ hh h => h.of_heap hh) own started (by kernel_rfl) Tryd.func8
    (ChangeSpec.witness_shaped (enc := enc) (C := Tryd.checked) (os := os) (X := fun w _ => laidMetH Tryd.prog laid2 w) false (World.doorLaid Tryd.prog 19 os) #[.slice none 0 0] 8 rfl (World.shaped_of_RefB (by kernel_rfl) (by kernel_rfl)) (by kernel_rfl) (by kernel_rfl) (by kernel_rfl) (door_met os _)) ?_
  intro W base args ds gs before hval0 hW _ _ hL _
  have hval : ∀ (j : Nat) t v, Tryd.f8.params[j]? = some t → args[j]? = some v → Value.okWide Tryd.prog W .any base t v := hval0
  have hW' := hW
  obtain ⟨p, q, hA0, hV, rfl, hfz, hnd⟩ := hW
  have hA : DataW.TrodAll enc Tryd.prog W 0 (fun _ => true) true Tryd.f8.params.toList args.toList ds p := hA0
  rw [Tryd.params8] at hA hval
  obtain ⟨v0, vs0, d0, ds0, p0, q0, hargs, rfl, rfl, h0, r0⟩ := trodAll_cons hA
  obtain ⟨rfl, rfl, rfl⟩ := trodAll_nil r0
  obtain rfl : args = #[v0] := by cases args; simp_all
  obtain ⟨rfl, rfl⟩ := trodVars_none hV
  obtain ⟨a0, len0, cap0, rfl⟩ := okWide_slice Tryd.underlying42 (hval 0 42 v0 rfl rfl)
  have k0 := h0
  have lt0 : ∀ x ∈ p0, x.block < W.heap.size := by obtain ⟨m, hm⟩ := k0; exact DataW.trod_lt m _ _ _ hm
  obtain ⟨L, w0⟩ : ∃ L, LsI W a0 len0 cap0 L := by
    obtain ⟨fuel, hf⟩ := h0
    exact lists_of (by simpa [Value.cells] using hf)
  clear hA0 hval0
  refine (walk a0 len0 cap0 L W w0 (of_laid hL)).mono fun e W' ⟨he, bel⟩ => ?_
  subst he
  exact ⟨_, rfl, _, _, _, [], _, [], hW', trodAll_mk1 (shut_bool Tryd.underlying4 _), (trodAll_cons_mk (Below.trod laidOut (by kernel_rfl) (of_decide_eq_true (by kernel_rfl)) k0 bel lt0) trodAll_mk0), rfl, bel.frame _, fun h => by cases h⟩

theorem over : Rows.shaPiecesRow.holds Tryd.pinned (OpenSpec.ofChange Rows.shaPiecesSpec) :=
  OpenClaim.holds_of_wide 8 Tryd.f8 rfl rfl rfl rfl rfl rfl rfl ⟨rfl, rfl, rfl, rfl, rfl⟩ rfl rfl rfl rfl rfl (by kernel_rfl) Tryd.func8 (by kernel_rfl)
    (of_decide_eq_true (by kernel_rfl)) (by unfold Func.isWrapper; first | (rw [if_pos (by decide +kernel)]; kernel_rfl) | (rw [if_neg (by decide +kernel)]; exact ⟨rfl, rfl⟩))
    (fun os started H enc _ => lifted os started H enc)

end Go.Proofs.YtmachfapcgjljaaDoor.shaPieces
namespace Go.Proofs.YtmachfapcgjljaaDoor
/-- The given statement. -/
theorem shaPieces_holds : Rows.ShaPiecesCardSaid :=
  Claim7.holds_tied_plain_at .later [] [.data, .data] true (true, "806b9c0e56b6e7ef9704bfdccaea22af4b386c54d4ddc55ac0028337a67e7eea") false
    shaPieces.over (fun _ h => by cases h) (by kernel_rfl) (fun _ h => by cases h) shaPieces_row_tie rfl ⟨rfl, rfl⟩ (by kernel_rfl) rfl
    (fun f fn hf hfn => by
      obtain rfl : f = 8 := Option.some.inj ((show Tryd.prog.funcNamed "strongroom/strongroomlaw02.ShaPieces" = some 8 by kernel_rfl).symm.trans hf) |>.symm
      obtain rfl : fn = Tryd.f8 := (Option.some.inj (Tryd.func8.symm.trans hfn)).symm
      exact ⟨by kernel_rfl, fun j t ht => by
        rw [Tryd.params8] at ht
        rcases j with _ | j
        · obtain rfl : t = 42 := by simpa using ht.symm
          exact (show Tryd.prog.wantsStandIn 42 = false by kernel_rfl)
        · simp at ht
      ⟩)
    (by kernel_rfl)
#print axioms shaPieces_holds
end Go.Proofs.YtmachfapcgjljaaDoor
