/- The law of tables that are full. -/
import Derived.Test.YtjpkngbjjgimjaaDoorKR
import Derived.Test.YtjpkngbjjgimjaaDoorCards
import Derived.Test.YtjpkngbjjgimjaaDoorTie
import Derived.WalkKit
import Derived.ProofKit
import Derived.OpenShut
import Derived.ShutString
import Derived.ChangeOld
import Derived.Below
import Derived.LaidMore
import Derived.Stop.Joined
import Derived.SevenTiedAt
namespace Go.Proofs.YtjpkngbjjgimjaaDoor.casFull
open Go.ChangeShapes Go.WideShapes Go.ChangeAt Go.WideMaps Go.WideElems Go.RowKit
open Go.ChangeMaps (open_string shut_string)

set_option maxRecDepth 100000 in
set_option maxHeartbeats 2000000 in
theorem walk (x0 : Int) (_z0 : -9223372036854775808 ≤ x0 ∧ x0 ≤ 9223372036854775807) (x1 : Int) (_z1 : -9223372036854775808 ≤ x1 ∧ x1 ≤ 9223372036854775807) (a2 : Option Addr) (len2 cap2 : Nat) (ss2 : List ByteArray) (_z2 : ∀ i (h : i < ss2.length), (ss2[i]).size ≤ 140737488351232) (w : World) (w2 : Ss w a2 len2 cap2 ss2) (hL : Laid w) :
    Calls Tryd.prog 6 #[.int .i64 x0, .int .i64 x1, .slice a2 len2 cap2] w fun e w' => e = .returned (.bool true) ∧ Below w.heap.size w w' := by
  obtain ⟨tb, htb⟩ : ∃ tb, w.heap.size = tb := ⟨_, rfl⟩
  obtain ⟨W1, hW1⟩ : ∃ W1, w.alloc (.cells #[.slice none 0 0, .int .i64 x1] 30) = W1 := ⟨_, rfl⟩
  have hs1 : W1.heap.size = tb + 1 := by rw [← hW1, ← htb]; simp
  have hb1 : Below w.heap.size w W1 := by rw [← hW1]; exact (Below.refl _ w).alloc (Nat.le_refl _) _
  have HS : Hid (Ss w a2 len2 cap2 ss2) := w2
  have hnn := HS.out.1
  have hcap : cap2 ≤ 9223372036854775807 := HS.out.2.2.1
  have hlc : len2 ≤ cap2 := HS.out.2.1
  by_cases hx : x0 < 1 ∨ 32 < x0
  · have HN := new_no (.iface 27 (.pointer (some ⟨tb, 0, none⟩))) x0 W1 (.inr ⟨tb, rfl⟩) (.inr hx)
    have HLV : Calls Tryd.prog 10 #[] W1 fun e w' => e = .returned (.bool true) ∧ Below W1.heap.size W1 w' := lives_any W1 (hL.below hb1)
    have HB1 : Hid (Below w.heap.size w W1) := hb1
    clear hL hb1 w2 hx hs1
    go_enter Tryd.func6, Tryd.ntmps6
    go_wp2_with fail
    refine HN.mono ?_
    rintro e V ⟨rfl, hV⟩
    subst V
    go_wp2_with fail
    refine HLV.mono ?_
    rintro e V ⟨rfl, hb⟩
    go_wp2
    go_ret
    exact ⟨rfl, HB1.out.trans (hb.mono HB1.out.size)⟩
  · obtain ⟨W, hWx, hWa, hW⟩ : ∃ W : Nat, x0 = (W : Int) ∧ 1 ≤ W ∧ W ≤ 32 := ⟨x0.toNat, by omega, by omega, by omega⟩
    subst hWx
    have HN : Calls Tryd.prog 9 #[.iface 27 (.pointer (some ⟨tb, 0, none⟩)), .int .i64 (W : Int)] W1 fun e w' => e = .returned (.tuple #[.pointer (some ⟨W1.heap.size, 0, none⟩), .int .i64 0]) ∧ w' = W1.alloc (.cells #[.iface 27 (.pointer (some ⟨tb, 0, none⟩)), .int .i64 (W : Int)] 71) := new_yes tb W W1 hWa hW
    have hcn := cs_new (w := w) (W := W) x1
    rw [hW1, htb] at hcn
    rw [hs1] at HN
    obtain ⟨W2, hW2⟩ : ∃ W2, W1.alloc (.cells #[.iface 27 (.pointer (some ⟨tb, 0, none⟩)), .int .i64 (W : Int)] 71) = W2 := ⟨_, rfl⟩
    rw [hW2] at HN hcn
    obtain ⟨st, hst⟩ : ∃ st, tb + 1 = st := ⟨_, rfl⟩
    rw [hst] at HN hcn
    have HCS : Hid (Cs tb (fun _ => False) W2 st tb W x1 [] ∧ Below w.heap.size w W2 ∧ Laid w ∧ w.heap.size = tb) := ⟨hcn.1, by rw [htb]; exact hcn.2, hL, htb⟩
    have HLV : Hid (∀ V, Below w.heap.size w V → Calls Tryd.prog 10 #[] V fun e w' => e = .returned (.bool true) ∧ Below w.heap.size w w') := fun V hV => (lives_any V (hL.below hV)).mono fun e w' h => ⟨h.1, hV.trans (h.2.mono hV.size)⟩
    clear hs1 hcn hW2 hst hL hx w2 hb1
    by_cases hf0 : x1 < 0
    · go_enter Tryd.func6, Tryd.ntmps6
      go_wp2_with fail
      refine HN.mono ?_
      rintro e V ⟨rfl, hV⟩
      subst V
      go_wp2_with fail
      refine (HLV.out _ HCS.out.2.1).mono ?_
      rintro e V ⟨rfl, hb⟩
      go_wp2
      go_ret
      exact ⟨rfl, hb⟩
    · by_cases hf1 : 40 < x1
      · go_enter Tryd.func6, Tryd.ntmps6
        go_wp2_with fail
        refine HN.mono ?_
        rintro e V ⟨rfl, hV⟩
        subst V
        go_wp2_with fail
        refine (HLV.out _ HCS.out.2.1).mono ?_
        rintro e V ⟨rfl, hb⟩
        go_wp2
        go_ret
        exact ⟨rfl, hb⟩
      · go_enter Tryd.func6, Tryd.ntmps6
        go_wp2_with fail
        refine HN.mono ?_
        rintro e V ⟨rfl, hV⟩
        subst V
        clear HN hW1 htb
        go_wp2
        go_loopw [10] (fun vi wr => ∃ (i : Nat) (F : Nat → Prop) (T : List Pr), i ≤ 40 ∧ i ≤ len2 ∧ vi = .int .i64 i ∧ Cs tb F wr st tb W x1 T ∧ Tb W i T ∧ Below w.heap.size w wr) (fun vi _ => 41 - (intOf vi).toNat)
        case atStart => exact ⟨0, _, [], by omega, by omega, rfl, HCS.out.1, Tb.nil W 0 (by omega), HCS.out.2.1⟩
        case round =>
          obtain ⟨i, F, T, hi, hil, rfl, hcs, hTb, hbw⟩ := hrel
          rename World => wo
          by_cases hlt : i < len2 ∧ i < 40
          · have k1 : (i : Int) < (len2 : Int) := by omega
            have k2 : (i : Int) < 40 := by omega
            obtain ⟨sb, so, ha2, hsc⟩ := HS.out.at (by omega)
            subst ha2
            obtain ⟨s, hs⟩ : ∃ s, ss2[i]'(by omega) = s := ⟨_, rfl⟩
            have HSC : Hid (∀ V, Below w.heap.size w V → V.cell? ⟨sb, so + i, none⟩ = some (.string s)) := fun V hV => by
              have h5 := hsc i (by omega)
              rw [hs] at h5
              rw [hV.cell (World.block_lt_of_cell? w _ h5)]
              exact h5
            have s0 := HSC.out wo hbw
            clear hsc hs
            by_cases hl : 128 < s.size
            · have kl : (128 : Int) < (s.size : Int) := by omega
              have HB : Hid (Below w.heap.size w wo) := hbw
              clear hcs hTb hbw hl
              go_wp2_with fail
              refine (HLV.out _ HB.out).mono ?_
              rintro e V ⟨rfl, hb⟩
              go_wp2
              go_ret
              exact ⟨rfl, hb⟩
            · have kl : ¬ (128 : Int) < (s.size : Int) := by omega
              obtain ⟨ta, tc, _, t0⟩ := hcs.row
              have hTl : T.length ≤ 40 := by have := hTb.few; omega
              have HDG := digest_any hcs.c1 hW (HCS.out.2.2.1.below hbw) s (by omega)
              have HX : Hid (Cs tb F wo st tb W x1 T ∧ Tb W i T ∧ Below w.heap.size w wo) := ⟨hcs, hTb, hbw⟩
              clear hcs hTb hbw
              go_wp2_with fail
              refine HDG.mono ?_
              rintro e V1 ⟨rfl, hb1⟩
              have HFI := find_any (HX.out.1.below hb1) hW (digW W s)
              obtain ⟨AL, hAL⟩ : ∃ AL, alikeL W T (digW W s) = AL := ⟨_, rfl⟩
              rw [hAL] at HFI
              have HX1 : Hid (Cs tb (mor F wo V1) V1 st tb W x1 T ∧ Below w.heap.size w V1 ∧ alikeL W T (digW W s) = AL) := ⟨HX.out.1.below hb1, HX.out.2.2.trans (hb1.mono HX.out.2.2.size), hAL⟩
              clear HDG hb1 t0 s0 hAL
              go_wp2_with fail
              refine HFI.mono ?_
              rintro e V2 ⟨ra, rn, rc, rfl, ho, hb2⟩
              have HI : Hid (Iw (fun _ => True) V2 ra rn rc (AL.map ixOf)) := Rw.own ho (fun _ _ => trivial)
              have hal := HI.out.len
              rw [List.length_map] at hal
              have hrm : rn ≤ 9223372036854775807 := by have h5 := HI.out.2.1; have h6 := HI.out.2.2.1; unfold maxLen at h6; omega
              have HX2 : Hid (Cs tb (mor (mor F wo V1) V1 V2) V2 st tb W x1 T ∧ Below w.heap.size w V2) := ⟨HX1.out.1.below hb2, HX1.out.2.1.trans (hb2.mono HX1.out.2.1.size)⟩
              clear HFI ho hb2
              go_wp2
              go_loopw [12, 14] (fun vt vj wr => ∃ (j : Nat) (th : Bool), j ≤ rn ∧ vj = .int .i64 j ∧ vt = .bool th ∧ (th = true ↔ ∃ c ∈ AL.take j, c.data = s) ∧ Below V2.heap.size V2 wr) (fun _ vj _ => rn - (intOf vj).toNat)
              case atStart => exact ⟨0, false, by omega, rfl, rfl, by simp, Below.refl _ _⟩
              case round =>
                obtain ⟨j, th, hj, rfl, rfl, hth, hb3⟩ := hrel
                have hbw3 : Below w.heap.size w wr := HX2.out.2.trans (hb3.mono HX2.out.2.size)
                have s3 := HSC.out wr hbw3
                have HX3 : Hid (Cs tb (mor (mor (mor F wo V1) V1 V2) V2 wr) wr st tb W x1 T ∧ Below w.heap.size w wr) := ⟨HX2.out.1.below hb3, hbw3⟩
                by_cases hjl : j < rn
                · have k3 : (j : Int) < (rn : Int) := by omega
                  obtain ⟨ib, io, rfl, _, _, hc⟩ := (HI.out.below hb3).at (by omega)
                  obtain ⟨⟨c1, c2, c3, c4⟩, hci⟩ : ∃ c, AL[j]? = some c := ⟨_, List.getElem?_eq_getElem (by omega)⟩
                  obtain ⟨g0, g1⟩ := hc j (c1, c2) (by rw [List.getElem?_map, hci]; rfl)
                  simp only at g0 g1
                  have hmem := (HX.out.2.1.mem (digW_size W hW s) ⟨c1, c2, c3, c4⟩).1 (by rw [HX1.out.2.2]; exact List.mem_of_getElem? hci)
                  have hlk : lookF W T c1 (c2 : Int) = some ⟨c1, c2, c3, c4⟩ := HX.out.2.1.look hmem.1 hmem.2.1
                  have HG := get_of (some ⟨st, 0, none⟩) c1 (c2 : Int) (some ⟨c1, c2, c3, c4⟩) wr (fun V hV => by
                    have h5 := look_any (HX3.out.1.below hV) hW c1 (c2 : Int)
                    rw [hlk] at h5
                    exact h5)
                  have HG : Calls Tryd.prog 21 #[.pointer (some ⟨st, 0, none⟩), .agg #[.string c1, .int .i64 (c2 : Int)]] wr fun e w' => e = .returned (.tuple #[.string c4, .bool true]) ∧ Below wr.heap.size wr w' := HG
                  have HTH : Hid ((∃ c ∈ AL.take (j + 1), c.data = s) ↔ (th = true ∨ c4 = s)) := by
                    show _ ↔ _
                    rw [take_snoc hci, hth]
                    constructor
                    · rintro ⟨c, hc, hd⟩
                      rcases List.mem_append.1 hc with hc | hc
                      · exact .inl ⟨c, hc, hd⟩
                      · simp only [List.mem_cons, List.not_mem_nil, or_false] at hc
                        subst hc
                        exact .inr hd
                    · rintro (⟨c, hc, hd⟩ | hd)
                      · exact ⟨c, List.mem_append_left _ hc, hd⟩
                      · exact ⟨_, List.mem_append_right _ (List.mem_cons_self ..), hd⟩
                  have HB3 : Hid (Below V2.heap.size V2 wr) := hb3
                  clear hb3 hbw3 hc hci hmem hlk hth
                  go_wp2_with fail
                  refine HG.mono ?_
                  rintro e V5 ⟨rfl, hb5⟩
                  have HB5 : Hid (Below V2.heap.size V2 V5) := HB3.out.trans (hb5.mono HB3.out.size)
                  have s5 := HSC.out V5 (HX3.out.2.trans (hb5.mono HX3.out.2.size))
                  clear HG hb5 s3 g0 g1
                  cases th with
                  | true =>
                    go_wp2
                    exact ⟨⟨j + 1, true, by omega, by go_num, rfl, by rw [HTH.out]; simp, HB5.out⟩, by simp [intOf]; omega⟩
                  | false =>
                    by_cases hd : c4 = s
                    · have hbe : (c4.toList == s.toList) = true := by rw [hd]; simp
                      have HD : Hid (c4 = s) := hd
                      clear hd
                      go_wp2
                      exact ⟨⟨j + 1, true, by omega, by go_num, rfl, by rw [HTH.out]; simp [HD.out], HB5.out⟩, by simp [intOf]; omega⟩
                    · have hbe : (c4.toList == s.toList) = false := str_nb hd
                      have HD : Hid (¬ c4 = s) := hd
                      clear hd
                      go_wp2
                      exact ⟨⟨j + 1, false, by omega, by go_num, rfl, by rw [HTH.out]; simp [HD.out], HB5.out⟩, by simp [intOf]; omega⟩
                · have k3 : ¬ (j : Int) < (rn : Int) := by omega
                  have HTH : Hid (th = true ↔ There W T s) := by
                    show _ ↔ _
                    rw [hth, List.take_of_length_le (by omega)]
                    unfold There
                    rw [HX1.out.2.2]
                  have HPU := putc_any HX3.out.1 hW (HCS.out.2.2.1.below hbw3) (by omega) s
                  clear hth hb3 hbw3
                  go_wp2_with fail
                  refine HPU.mono ?_
                  intro e V6 ht
                  obtain ⟨F7, T7, s7, n7, f7, h71, h72, h73, h74, rfl, hT7⟩ := HX.out.2.1.puts (by omega) hW (by omega) ht
                  have hbw6 : Below w.heap.size w V6 := HX3.out.2.trans (by rw [HCS.out.2.2.2]; exact h72)
                  have hB7 : Below V6.heap.size V6 (V6.alloc (.cells #[.string s7, .int .i64 n7] 35)) := (Below.refl _ V6).alloc (Nat.le_refl _) _
                  have hc7 := h73.below hB7
                  obtain ⟨ta, tc, _, t0⟩ := hc7.row
                  have H7 : Hid (Cs tb (mor F7 V6 (V6.alloc (.cells #[.string s7, .int .i64 n7] 35))) (V6.alloc (.cells #[.string s7, .int .i64 n7] 35)) st tb W x1 T7 ∧ Tb W (i + 1) T7 ∧ Below w.heap.size w (V6.alloc (.cells #[.string s7, .int .i64 n7] 35))) := ⟨hc7, h74, hbw6.trans (hB7.mono hbw6.size)⟩
                  clear HPU ht h71 h72 h73 h74 hbw6 hB7 hc7 s3
                  rcases hT7 with ⟨h1, rfl, h3⟩ | ⟨h1, h2, rfl⟩ | ⟨h1, h2, rfl, h3⟩
                  · obtain rfl := HTH.out.2 h1
                    rw [h3] at t0
                    clear h1 h3
                    go_wp2
                    exact ⟨⟨i + 1, _, T7, by omega, by omega, by go_num, H7.out.1, H7.out.2.1, H7.out.2.2⟩, by simp [intOf]; omega⟩
                  · obtain rfl : th = false := by cases th with | false => rfl | true => exact absurd (HTH.out.1 rfl) h1
                    have kt : (T.length : Int) < x1 := by omega
                    clear h1 h2
                    go_wp2
                    exact ⟨⟨i + 1, _, T7, by omega, by omega, by go_num, H7.out.1, H7.out.2.1, H7.out.2.2⟩, by simp [intOf]; omega⟩
                  · obtain rfl : th = false := by cases th with | false => rfl | true => exact absurd (HTH.out.1 rfl) h1
                    have kt : ¬ (T.length : Int) < x1 := by omega
                    rw [h3] at t0
                    clear h1 h2 h3
                    go_wp2
                    exact ⟨⟨i + 1, _, T7, by omega, by omega, by go_num, H7.out.1, H7.out.2.1, H7.out.2.2⟩, by simp [intOf]; omega⟩
          · have HB : Hid (Below w.heap.size w wo) := hbw
            by_cases hl : i < len2
            · have k1 : (i : Int) < (len2 : Int) := by omega
              have k2 : ¬ (i : Int) < 40 := by omega
              clear hcs hTb hbw hlt
              go_wp2_with fail
              refine (HLV.out _ HB.out).mono ?_
              rintro e V ⟨rfl, hb⟩
              go_wp2
              go_ret
              exact ⟨rfl, hb⟩
            · have k1 : ¬ (i : Int) < (len2 : Int) := by omega
              clear hcs hTb hbw hlt
              go_wp2_with fail
              refine (HLV.out _ HB.out).mono ?_
              rintro e V ⟨rfl, hb⟩
              go_wp2
              go_ret
              exact ⟨rfl, hb⟩

set_option linter.unusedVariables false in
set_option maxRecDepth 100000 in
theorem lifted (os : Os) (started : os.Started) (H : Type) (enc : TypeId × Value → H) :
    ReturnsInHanded {} Tryd.checked os 6 .any (fun w args => (Rows.casFullSpec.pre enc Tryd.prog Tryd.f6 [] false w args ∧ laidMetH Tryd.prog laid2 w) ∧ sizedMet enc Tryd.prog Tryd.f6 (OpenSpec.ofChange Rows.casFullSpec) false w args) (Rows.casFullSpec.post enc Tryd.prog Tryd.f6 false true false false) := by
  refine returnsInHanded_of_change_and (C := Tryd.checked) (X := fun w _ => laidMetH Tryd.prog laid2 w) (fun _ _ _ hh h => h.of_heap hh) own started (by kernel_rfl) Tryd.func6
    (ChangeSpec.witness_shaped (enc := enc) (C := Tryd.checked) (os := os) (X := fun w _ => laidMetH Tryd.prog laid2 w) false (World.doorLaid Tryd.prog 19 os) #[.int .i64 0, .int .i64 0, .slice none 0 0] 8 rfl (World.shaped_of_RefB (by kernel_rfl) (by kernel_rfl)) (by kernel_rfl) (by kernel_rfl) (by kernel_rfl) (door_met os _)) ?_
  intro W base args ds gs before hval0 hW _ hsz0 hL _
  have hval : ∀ (j : Nat) t v, Tryd.f6.params[j]? = some t → args[j]? = some v → Value.okWide Tryd.prog W .any base t v := hval0
  have hsz : (DataW.weightsEach Tryd.prog (Tryd.f6.params.toList ++ Rows.casFullSpec.plain.varTypes Tryd.prog) (ds ++ gs)).all (· ≤ reachBytes) = true := hsz0
  have hW' := hW
  obtain ⟨p, q, hA0, hV, rfl, hfz, hnd⟩ := hW
  have hA : DataW.TrodAll enc Tryd.prog W 0 (fun _ => true) true Tryd.f6.params.toList args.toList ds p := hA0
  rw [Tryd.params6] at hA hval hsz
  obtain ⟨v0, vs0, d0, ds0, p0, q0, hargs, rfl, rfl, h0, r0⟩ := trodAll_cons hA
  obtain ⟨v1, vs1, d1, ds1, p1, q1, rfl, rfl, rfl, h1, r1⟩ := trodAll_cons r0
  obtain ⟨v2, vs2, d2, ds2, p2, q2, rfl, rfl, rfl, h2, r2⟩ := trodAll_cons r1
  obtain ⟨rfl, rfl, rfl⟩ := trodAll_nil r2
  obtain rfl : args = #[v0, v1, v2] := by cases args; simp_all
  obtain ⟨rfl, rfl⟩ := trodVars_none hV
  obtain ⟨x0, rfl, rfl, rfl, w0⟩ := open_int Tryd.underlying3 (hval 0 3 v0 rfl rfl) h0
  obtain ⟨x1, rfl, rfl, rfl, w1⟩ := open_int Tryd.underlying3 (hval 1 3 v1 rfl rfl) h1
  have k2 := h2
  have lt2 : ∀ x ∈ p2, x.block < W.heap.size := by obtain ⟨m, hm⟩ := k2; exact DataW.trod_lt m _ _ _ hm
  obtain ⟨a2, len2, cap2, rfl⟩ := okWide_slice Tryd.underlying51 (hval 2 51 v2 rfl rfl)
  obtain ⟨ss2, w2, z2⟩ : ∃ ss, Ss W a2 len2 cap2 ss ∧ ∀ i (h : i < ss.length), (ss[i]).size ≤ 140737488351232 := by
    obtain ⟨fuel, hf⟩ := h2
    exact strs_of (j := 2) (by simpa [Value.cells] using hf) hsz rfl rfl
  clear hA0 hval0 hsz hsz0
  refine (walk x0 (wf_i64 w0) x1 (wf_i64 w1) a2 len2 cap2 ss2 z2 W w2 (of_laid hL)).mono fun e W' ⟨he, bel⟩ => ?_
  subst he
  exact ⟨_, rfl, _, _, _, [], _, [], hW', trodAll_mk1 (shut_bool Tryd.underlying4 _), (trodAll_cons_mk (shut_int Tryd.underlying3 w0) (trodAll_cons_mk (shut_int Tryd.underlying3 w1) (trodAll_cons_mk (Below.trod laidOut (by kernel_rfl) (of_decide_eq_true (by kernel_rfl)) k2 bel lt2) trodAll_mk0))), rfl, bel.frame _, fun h => by cases h⟩

theorem over : Rows.casFullRow.holds Tryd.pinned (OpenSpec.ofChange Rows.casFullSpec) :=
  OpenClaim.holds_of_wide 6 Tryd.f6 rfl rfl rfl rfl rfl rfl rfl ⟨rfl, rfl, rfl, rfl, rfl⟩ rfl rfl rfl rfl rfl (by kernel_rfl) Tryd.func6 (by kernel_rfl)
    (of_decide_eq_true (by kernel_rfl)) (by unfold Func.isWrapper; first | (rw [if_pos (by decide +kernel)]; kernel_rfl) | (rw [if_neg (by decide +kernel)]; exact ⟨rfl, rfl⟩))
    (fun os started H enc _ => lifted os started H enc)

end Go.Proofs.YtjpkngbjjgimjaaDoor.casFull
namespace Go.Proofs.YtjpkngbjjgimjaaDoor
/-- The given statement. -/
theorem casFull_holds : Rows.CasFullCardSaid :=
  Claim7.holds_tied_plain_at .later [] [.data, .data] true (true, "714266a7f20758317d11b46492cd9cd49cf98b3981d461172de498aac6b57d6c") false
    casFull.over (fun _ h => by cases h) (by kernel_rfl) (fun _ h => by cases h) casFull_row_tie rfl ⟨rfl, rfl⟩ (by kernel_rfl) rfl
    (fun f fn hf hfn => by
      obtain rfl : f = 6 := Option.some.inj ((show Tryd.prog.funcNamed "strongroom/strongroomlaw09.CasFull" = some 6 by kernel_rfl).symm.trans hf) |>.symm
      obtain rfl : fn = Tryd.f6 := (Option.some.inj (Tryd.func6.symm.trans hfn)).symm
      exact ⟨by kernel_rfl, fun j t ht => by
        rw [Tryd.params6] at ht
        rcases j with _ | _ | _ | j
        · obtain rfl : t = 3 := by simpa using ht.symm
          exact (show Tryd.prog.wantsStandIn 3 = false by kernel_rfl)
        · obtain rfl : t = 3 := by simpa using ht.symm
          exact (show Tryd.prog.wantsStandIn 3 = false by kernel_rfl)
        · obtain rfl : t = 51 := by simpa using ht.symm
          exact (show Tryd.prog.wantsStandIn 51 = false by kernel_rfl)
        · simp at ht
      ⟩)
    (by kernel_rfl)
#print axioms casFull_holds
end Go.Proofs.YtjpkngbjjgimjaaDoor
