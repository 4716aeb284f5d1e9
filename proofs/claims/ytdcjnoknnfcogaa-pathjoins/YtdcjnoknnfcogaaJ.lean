/- The document's Join; the program's Join, by what strings.Join answers. -/
import Derived.Test.YtdcjnoknnfcogaaRA
import Derived.Test.YtdcjnoknnfcogaaD
namespace Go.Proofs.Ytdcjnoknnfcogaa
open Go.RowKit
theorem lenSum_snoc (ts : List (List UInt8)) (k : Nat) (h : k < ts.length) : lenSum (ts.take (k + 1)) = lenSum (ts.take k) + (ts[k]).length := by
  unfold lenSum
  rw [List.take_succ_eq_append_getElem h, List.map_append, List.sum_append]
  simp
theorem join_bad {ts : List (List UInt8)} (h0 : ts ≠ []) (h : ts.all nameL = false) : joinL ts = ([], 1) := by
  rw [joinL, if_neg h0, if_neg (by simp [h])]
theorem join_good {ts : List (List UInt8)} (h0 : ts ≠ []) (h : ts.all nameL = true) (hl : (glueL ts).length ≤ 32) : joinL ts = (glueL ts, 0) := by
  rw [joinL, if_neg h0, if_pos h, if_pos hl]
theorem join_long {ts : List (List UInt8)} (h0 : ts ≠ []) (h : ts.all nameL = true) (hl : ¬ (glueL ts).length ≤ 32) : joinL ts = ([], 2) := by
  rw [joinL, if_neg h0, if_pos h, if_neg hl]
theorem glue_le_names {ts : List (List UInt8)} (h : ts.all nameL = true) (hl : ts.length ≤ 100) : (glueL ts).length ≤ 300000 := by
  by_cases h0 : ts = []
  · subst h0; simp [glueL]
  · have h1 := glue_len ts h0
    have h2 : lenSum ts ≤ 12 * ts.length := by
      rw [List.all_eq_true] at h
      clear h1 h0 hl
      induction ts with
      | nil => simp [lenSum]
      | cons x ts ih =>
        have := name_le (h x (by simp))
        have := ih (fun y hy => h y (by simp [hy]))
        simp only [lenSum, List.map_cons, List.sum_cons, List.length_cons] at *
        omega
    omega
set_option maxRecDepth 100000 in
set_option maxHeartbeats 1000000 in
theorem rjoin_in (b off len cap : Nat) (ts : List (List UInt8)) (w : World) (h0 : 0 < len) (hl : ts.length = len) (hlm : len ≤ 100) (hss : Ss w (some ⟨b, off, none⟩) len cap (ts.map strOf)) (hs : ∀ x ∈ ts, x.length ≤ 2000) :
    Calls Try.prog 23 #[.slice (some ⟨b, off, none⟩) len cap] w fun e w' => e = .returned (.tuple #[.string (strOf (joinL ts).1), .int .i64 ((joinL ts).2 : Int)]) ∧ w' = w := by
  have hne : ts ≠ [] := fun e => by rw [e] at hl; simp at hl; omega
  have HL : Hid (ts.length = len) := hl
  have HS : Hid (∀ x ∈ ts, x.length ≤ 2000) := hs
  have HSS : Hid (Ss w (some ⟨b, off, none⟩) len cap (ts.map strOf)) := hss
  have HNE : Hid (ts ≠ []) := hne
  have HC : Hid (∀ i (h : i < ts.length), w.cell? ⟨b, off + i, none⟩ = some (.string (strOf ts[i]))) := by
    intro i hi
    have := hss.2.2.2.2 _ rfl i (by simpa using hi)
    rw [add_at] at this
    simpa using this
  clear hl hs hss hne
  go_enter Try.func23, Try.ntmps23
  go_wp2
  go_loop [4] (fun i => ∃ k : Nat, i = .int .i64 (k : Int) ∧ k ≤ len ∧ (ts.take k).all nameL = true) (fun i => len - (intOf i).toNat)
  case atStart => exact ⟨0, rfl, by omega, rfl⟩
  case round =>
    obtain ⟨k, rfl, hk, hall⟩ := hrel
    have HA : Hid ((ts.take k).all nameL = true) := hall
    clear hall
    by_cases hlt : k < len
    · have hlt' : k < ts.length := by rw [HL.out]; exact hlt
      have hcr := HC.out k hlt'
      have HNA := rname_any (strOf ts[k]) w (by rw [strOf_size]; have := HS.out _ (List.getElem_mem hlt'); omega)
      rw [strOf_list] at HNA
      have HSN : Hid _ := all_snoc ts k hlt'
      have HNO : Hid (nameL ts[k] = false → ts.all nameL = false) := all_no ts k hlt'
      have hki : (k : Int) < (len : Int) := by omega
      generalize nameL ts[k] = nb at HNA HSN HNO
      generalize strOf ts[k] = x at HNA hcr
      cases nb with
      | true =>
        go_wp2_with (go_at_call 12; refine HNA.mono ?_; rintro e w3 ⟨rfl, hb3⟩; subst w3)
        go_round
        case rel => exact ⟨k + 1, by go_num, by omega, by rw [HSN.out, HA.out]; rfl⟩
        case measure => simp [intOf]; omega
      | false =>
        have HF : Hid (joinL ts = ([], 1)) := join_bad HNE.out (HNO.out rfl)
        clear HNO
        go_wp2_with (go_at_call 12; refine HNA.mono ?_; rintro e w3 ⟨rfl, hb3⟩; subst w3)
        go_ret2
        exact ⟨by rw [HF.out]; rfl, rfl⟩
    · have hki : ¬ (k : Int) < (len : Int) := by omega
      have hall : ts.all nameL = true := by
        have := HA.out
        rw [List.take_of_length_le (by rw [HL.out]; omega)] at this
        exact this
      have hl0 : ((len : Int) == 0) = false := by simp; omega
      have hl0' : ¬ (len : Int) = 0 := by omega
      by_cases h32 : (glueL ts).length ≤ 32
      · have HGF := glue_full (some ⟨b, off, none⟩) len cap ts w HSS.out HS.out (by omega)
        have hsz : (strOf (glueL ts)).size ≤ 32 := by rw [strOf_size]; exact h32
        have HF : Hid (joinL ts = (glueL ts, 0)) := join_good HNE.out hall h32
        obtain ⟨R, hR⟩ : ∃ R, strOf (glueL ts) = R := ⟨_, rfl⟩
        rw [hR] at HGF hsz
        have HR : Hid (strOf (glueL ts) = R) := hR
        have hri : ¬ (32 : Int) < (R.size : Int) := by omega
        clear hall h32 hR
        go_wp2_with fail
        refine HGF.mono ?_
        rintro e w12 ⟨rfl, hw12⟩
        subst w12
        go_wp2_with fail
        refine HGF.mono ?_
        rintro e w12 ⟨rfl, hw12⟩
        subst w12
        go_wp2
        go_ret2
        exact ⟨by rw [HF.out, HR.out]; rfl, rfl⟩
      · have HGF := glue_long (some ⟨b, off, none⟩) len cap ts w HSS.out HS.out (by omega) (glue_le_names hall (by rw [HL.out]; exact hlm))
        have HF : Hid (joinL ts = ([], 2)) := join_long HNE.out hall h32
        clear hall h32
        go_wp2_with fail
        refine HGF.mono ?_
        rintro e w12 ⟨⟨R, rfl, hR, hRm⟩, hw12⟩
        subst w12
        have hri : (32 : Int) < (R.size : Int) := by omega
        go_wp2
        go_ret2
        exact ⟨by rw [HF.out]; rfl, rfl⟩
set_option maxHeartbeats 400000 in
theorem rjoin_zero (cap : Nat) (a : Option Addr) (w : World) :
    Calls Try.prog 23 #[.slice a 0 cap] w fun e w' => e = .returned (.tuple #[.string ⟨#[]⟩, .int .i64 1]) ∧ w' = w := by
  go_enter Try.func23, Try.ntmps23
  go_wp2
  refine wp_loop_rounds 1 ?_
  rw [rounds_succ]
  go_wp2
  go_ret2
  exact ⟨rfl, rfl⟩
theorem rjoin_any (a : Option Addr) (len cap : Nat) (ts : List (List UInt8)) (w : World) (h : Ss w a len cap (ts.map strOf)) (hs : ∀ x ∈ ts, x.length ≤ 2000) (hl : len ≤ 100) :
    Calls Try.prog 23 #[.slice a len cap] w fun e w' => e = .returned (.tuple #[.string (strOf (joinL ts).1), .int .i64 ((joinL ts).2 : Int)]) ∧ w' = w := by
  have hlen : ts.length = len := by have := h.1; simpa using this
  by_cases h0 : 0 < len
  · obtain ⟨b, off, rfl, hc⟩ := h.at h0
    exact rjoin_in b off len cap ts w h0 hlen hl h hs
  · obtain rfl : len = 0 := by omega
    have e : ts = [] := List.eq_nil_of_length_eq_zero hlen
    subst e
    exact rjoin_zero cap a w
/-- What strings.Join answers, of some names that are not too long. -/
def SJoin : Prop := ∀ (b off len cap : Nat) (ts : List (List UInt8)) (W : World), 0 < len → Ss W (some ⟨b, off, none⟩) len cap (ts.map strOf) → (glueL ts).length ≤ 32 →
  Calls Try.prog 34 #[.slice (some ⟨b, off, none⟩) len cap, .string ⟨#[47]⟩] W fun e w' => e = .returned (.string (strOf (glueL ts))) ∧ Below W.heap.size W w'
set_option maxRecDepth 100000 in
set_option maxHeartbeats 1000000 in
theorem join_in (SJ : SJoin) (b off len cap : Nat) (ts : List (List UInt8)) (w : World) (h0 : 0 < len) (hl : ts.length = len) (hlm : len ≤ 100) (hss : Ss w (some ⟨b, off, none⟩) len cap (ts.map strOf)) (hs : ∀ x ∈ ts, x.length ≤ 2000) :
    Calls Try.prog 22 #[.slice (some ⟨b, off, none⟩) len cap] w fun e w' => e = .returned (.tuple #[.string (strOf (joinL ts).1), .int .i64 ((joinL ts).2 : Int)]) ∧ Below w.heap.size w w' := by
  have hne : ts ≠ [] := fun e => by rw [e] at hl; simp at hl; omega
  have HGL : Hid ((glueL ts).length + 1 = len + lenSum ts) := by show _ = _; rw [glue_len ts hne, hl]
  have HL : Hid (ts.length = len) := hl
  have HS : Hid (∀ x ∈ ts, x.length ≤ 2000) := hs
  have HSS : Hid (Ss w (some ⟨b, off, none⟩) len cap (ts.map strOf)) := hss
  have HNE : Hid (ts ≠ []) := hne
  have HSJ : Hid SJoin := SJ
  have HC : Hid (∀ i (h : i < ts.length), w.cell? ⟨b, off + i, none⟩ = some (.string (strOf ts[i]))) := by
    intro i hi
    have := hss.2.2.2.2 _ rfl i (by simpa using hi)
    rw [add_at] at this
    simpa using this
  have hl0 : ((len : Int) == 0) = false := by simp; omega
  have hl0' : ¬ (len : Int) = 0 := by omega
  obtain ⟨lm, hlmm⟩ : ∃ lm, len - 1 = lm := ⟨_, rfl⟩
  have hl1 : (len : Int) - 1 = (lm : Int) := by omega
  have hlm1 : lm + 1 = len := by omega
  clear hl hs hss hne SJ hlmm
  go_enter Try.func22, Try.ntmps22
  go_wp2
  go_loopw [4, 15] (fun z i wr => ∃ k T : Nat, i = .int .i64 (k : Int) ∧ z = .int .i64 (T : Int) ∧ k ≤ len ∧ T ≤ lm + 12 * k ∧ (ts.take k).all nameL = true ∧ T = lm + lenSum (ts.take k) ∧ Below w.heap.size w wr) (fun _ i _ => len - (intOf i).toNat)
  case atStart => exact ⟨0, lm, rfl, rfl, by omega, by omega, rfl, by simp [lenSum], Below.refl _ _⟩
  case round =>
    obtain ⟨k, T, rfl, rfl, hk, hT, hall, hTe, hbr⟩ := hrel
    have HA : Hid ((ts.take k).all nameL = true) := hall
    have HT : Hid (T = lm + lenSum (ts.take k)) := hTe
    clear hall hTe
    by_cases hlt : k < len
    · have hlt' : k < ts.length := by rw [HL.out]; exact hlt
      have hc := HC.out k hlt'
      have hcr : wr.cell? ⟨b, off + k, none⟩ = some (.string (strOf ts[k])) := by rw [hbr.cell (World.block_lt_of_cell? w _ hc)]; exact hc
      have hxl := HS.out _ (List.getElem_mem hlt')
      have HNA := name_any (strOf ts[k]) wr (by rw [strOf_size]; omega)
      rw [strOf_list] at HNA
      have HSN : Hid _ := all_snoc ts k hlt'
      have HLS : Hid _ := lenSum_snoc ts k hlt'
      have HNO : Hid (nameL ts[k] = false → ts.all nameL = false) := all_no ts k hlt'
      have HNY : Hid (nameL ts[k] = true → (ts[k]).length ≤ 12) := fun h => name_le h
      have hxs : (strOf ts[k]).size = (ts[k]).length := strOf_size _
      have hki : (k : Int) < (len : Int) := by omega
      generalize nameL ts[k] = nb at HNA HSN HNO HNY
      generalize strOf ts[k] = x at HNA hcr hxs
      generalize (ts[k]).length = xl at HLS HNY hxs hxl
      clear hc
      cases nb with
      | true =>
        have hx12 : xl ≤ 12 := HNY.out rfl
        clear HNO HNY
        go_wp2_with (go_at_call 11; refine HNA.mono ?_; rintro e w3 ⟨rfl, hb3⟩)
        go_roundw
        case rel => exact ⟨k + 1, T + xl, by go_num, by go_num, by omega, by omega, by rw [HSN.out, HA.out]; rfl, by rw [HLS.out, HT.out]; omega, hbr.trans (hb3.mono hbr.size)⟩
        case measure => simp [intOf]; omega
      | false =>
        have HF : Hid (joinL ts = ([], 1)) := join_bad HNE.out (HNO.out rfl)
        clear HNO HNY
        go_wp2_with (go_at_call 11; refine HNA.mono ?_; rintro e w3 ⟨rfl, hb3⟩)
        go_ret2
        exact ⟨by rw [HF.out]; rfl, hbr.trans (hb3.mono hbr.size)⟩
    · have hki : ¬ (k : Int) < (len : Int) := by omega
      have hall : ts.all nameL = true := by
        have := HA.out
        rw [List.take_of_length_le (by rw [HL.out]; omega)] at this
        exact this
      have hTg : T = (glueL ts).length := by
        have h1 := HT.out
        rw [List.take_of_length_le (by rw [HL.out]; omega)] at h1
        have h2 := HGL.out
        omega
      by_cases h32 : (glueL ts).length ≤ 32
      · have HSJ2 := HSJ.out b off len cap ts wr h0 (HSS.out.on hbr) h32
        have HF : Hid (joinL ts = (glueL ts, 0)) := join_good HNE.out hall h32
        have hti : ¬ (32 : Int) < (T : Int) := by omega
        obtain ⟨R, hR⟩ : ∃ R, strOf (glueL ts) = R := ⟨_, rfl⟩
        rw [hR] at HSJ2
        have HR : Hid (strOf (glueL ts) = R) := hR
        clear hall h32 hTg hR
        go_wp2_with fail
        refine HSJ2.mono ?_
        rintro e w3 ⟨rfl, hb3⟩
        go_wp2
        go_ret2
        exact ⟨by rw [HF.out, HR.out]; rfl, hbr.trans (hb3.mono hbr.size)⟩
      · have HF : Hid (joinL ts = ([], 2)) := join_long HNE.out hall h32
        have hti : (32 : Int) < (T : Int) := by omega
        clear hall h32 hTg
        go_wp2
        go_ret2
        exact ⟨by rw [HF.out]; rfl, hbr⟩
set_option maxHeartbeats 400000 in
theorem join_zero (cap : Nat) (a : Option Addr) (w : World) :
    Calls Try.prog 22 #[.slice a 0 cap] w fun e w' => e = .returned (.tuple #[.string ⟨#[]⟩, .int .i64 1]) ∧ w' = w := by
  go_enter Try.func22, Try.ntmps22
  go_wp2
  go_ret2
  exact ⟨rfl, rfl⟩
theorem join_any (SJ : SJoin) (a : Option Addr) (len cap : Nat) (ts : List (List UInt8)) (w : World) (h : Ss w a len cap (ts.map strOf)) (hs : ∀ x ∈ ts, x.length ≤ 2000) (hl : len ≤ 100) :
    Calls Try.prog 22 #[.slice a len cap] w fun e w' => e = .returned (.tuple #[.string (strOf (joinL ts).1), .int .i64 ((joinL ts).2 : Int)]) ∧ Below w.heap.size w w' := by
  have hlen : ts.length = len := by have := h.1; simpa using this
  by_cases h0 : 0 < len
  · obtain ⟨b, off, rfl, hc⟩ := h.at h0
    exact join_in SJ b off len cap ts w h0 hlen hl h hs
  · obtain rfl : len = 0 := by omega
    have e : ts = [] := List.eq_nil_of_length_eq_zero hlen
    subst e
    refine (join_zero cap a w).mono ?_
    rintro e w' ⟨rfl, rfl⟩
    exact ⟨rfl, Below.refl _ _⟩
end Go.Proofs.Ytdcjnoknnfcogaa
