/- Rows of strings that are added to; walks over sealOf, sameSeals, Check, and over the document's Seal. -/
import Derived.Test.YtcmdcmbiilfngabDoorKD
import Derived.Test.YtcmdcmbiilfngabDoorEC
import Derived.BigQuiet
namespace Go.Proofs.YtcmdcmbiilfngabDoor
open Go.RowKit
/-- Strings as cells. -/
def srR (l : List ByteArray) : List Value := l.map Value.string
theorem srR_len (l : List ByteArray) : (srR l).length = l.length := by simp [srR]
theorem info9K : (Tryd.prog.info? 9).map (fun i => (i.zero, i.size, i.bytes)) = some (some (.string ByteArray.empty), 1, 16) := by kernel_rfl
theorem one_sr {w : World} {g : Nat} {s : ByteArray} (hg : w.heap[g]? = some (.cells #[.string s] 9 (0, 0))) : Rw (fun _ => True) w 9 1 (some ⟨g, 0, none⟩) 1 1 (srR [s]) := by
  refine ⟨rfl, Nat.le_refl _, by unfold maxLen; omega, fun _ => ⟨g, 0, rfl, lt_of_some hg, trivial, fun j u hu => ?_⟩⟩
  rw [Nat.zero_add, cell_of_row _ g _ _ _ _ hg]
  simpa [srR] using hu
theorem own_sr {w : World} {base g : Nat} {s : ByteArray} (hb : base ≤ g) (hg : w.heap[g]? = some (.cells #[.string s] 9 (0, 0))) : w.ownsRow base 9 1 (.slice (some ⟨g, 0, none⟩) 1 1) 1 (srR [s]) := ⟨rfl, .inr ⟨g, 1, _, rfl, hb, hg, by omega, by unfold maxLen; omega, rfl, rfl⟩⟩
theorem addT_own (w : World) {base : Nat} {a : Option Addr} {n c : Nat} {l : List ByteArray} (h : w.ownsRow base 9 1 (.slice a n c) n (srR l)) {g : Nat} {s : ByteArray} (hg : w.heap[g]? = some (.cells #[.string s] 9 (0, 0))) (hN : n + 1 ≤ 1000000) (hb : base ≤ w.heap.size) :
    ∃ a' c' w', (∀ ty, (Builtin.append_ #[79, 79] ty #[.slice a n c, .slice (some ⟨g, 0, none⟩) 1 1]).run Tryd.prog w = .ok (.slice a' (n + 1) c') w') ∧ w'.ownsRow base 9 1 (.slice a' (n + 1) c') (n + 1) (srR (l ++ [s])) ∧ w.grownBy w' (ob a) := by
  obtain ⟨i, hi, hz, hs, hbb⟩ := info_of info9K
  have e : srR (l ++ [s]) = srR l ++ srR [s] := by simp [srR]
  rw [e]
  obtain ⟨a', c', w', h1, h2, h3, _⟩ := app_own w 79 9 i _ 1 16 Tryd.underlying79 hi hz hs hbb rfl (by omega) h (one_sr hg) (by simp [srR, Value.oneCell']) hN (by omega) hb
  exact ⟨a', c', w', h1, h2, h3⟩
theorem Ss.own {w : World} {base : Nat} {a : Option Addr} {n c : Nat} {l : List ByteArray} (h : w.ownsRow base 9 1 (.slice a n c) n (srR l)) : Ss w a n c l := by
  have hl : l.length = n := by have := h.1; rw [srR_len] at this; omega
  rcases h.2 with ⟨e, h0⟩ | ⟨g, cap, cur, e, hb, hg, h1, h2, h3, h4⟩
  · cases e
    exact ⟨hl, by omega, by omega, fun _ => rfl, fun ad h => by cases h⟩
  · cases e
    refine ⟨hl, h1, by simpa [maxLen] using h2, (by intro e; cases e), fun ad had i hi => ?_⟩
    cases had
    rw [h.cells (g := g) rfl i (.string l[i]) (by simp [srR, hi])]
/-- A token's seal. -/
def partsT (t n : Int) (l : List Cv) : List ByteArray := strOf (headB t n) :: l.map fun c => strOf c.bytes
def sealT (k : List UInt8) (t n : Int) (l : List Cv) : List UInt8 := chainS k (partsT t n l)
theorem parts_snoc (t n : Int) {l : List Cv} {i : Nat} {c : Cv} (h : l[i]? = some c) : partsT t n (l.take (i + 1)) = partsT t n (l.take i) ++ [strOf c.bytes] := by
  unfold partsT
  rw [take_snocK h, List.map_append]
  rfl
theorem parts_len (t n : Int) (l : List Cv) : (partsT t n l).length = l.length + 1 := by simp [partsT]
theorem seal_snoc (k : List UInt8) (t n : Int) (l : List Cv) (c : Cv) : sealT k t n (l ++ [c]) = sealL (sealT k t n l) c.bytes := by
  unfold sealT partsT chainS
  rw [List.map_append, ← List.cons_append, List.foldl_append]
  rfl
theorem place_le {l : List UInt8} (h : Pt.placeL l = true) : l.length ≤ 32 := by
  rcases Pt.place_iff.1 h with h | h
  · rw [h]; simp
  · exact (Pt.good_iff.1 h).1
theorem ok_path {c : Cv} (h : c.ok = true) : c.path.size ≤ 32 := by
  have := place_le (Cv.ok_iff.1 h).1
  unfold Cv.pl at this
  rwa [Array.length_toList] at this
theorem cvbytes_len {c : Cv} (h : c.ok = true) : c.bytes.length ≤ 100 := by
  have h1 := ok_path h
  have h2 := Cv.ok_iff.1 h
  have h3 := putN_le10 c.rights.toNat (by omega)
  have h4 := putN_le10 c.til.toNat (by omega)
  have hpl : c.pl.length = c.path.size := by unfold Cv.pl; exact Array.length_toList
  have h5 := textN_len (l := c.pl) (by omega)
  unfold Cv.bytes
  rw [List.length_append, List.length_append]
  omega
theorem head_len {t n : Int} (ht : t ≤ 9223372036854775807) (hn : n ≤ 9223372036854775807) : (headB t n).length ≤ 20 := by
  have h3 := putN_le10 t.toNat (by omega)
  have h4 := putN_le10 n.toNat (by omega)
  unfold headB
  rw [List.length_append]
  omega
theorem parts_size {t n : Int} {l : List Cv} (ht : t ≤ 9223372036854775807) (hn : n ≤ 9223372036854775807) (hok : ∀ c ∈ l, c.ok = true) : ∀ i (h : i < (partsT t n l).length), ((partsT t n l)[i]).size ≤ 100 := by
  intro i h
  have hm := List.getElem_mem h
  obtain ⟨s, hs⟩ : ∃ s, (partsT t n l)[i] = s := ⟨_, rfl⟩
  rw [hs] at hm ⊢
  unfold partsT at hm
  rcases List.mem_cons.1 hm with rfl | hm
  · rw [strOf_size]; have := head_len ht hn; omega
  · obtain ⟨c, hc, rfl⟩ := List.mem_map.1 hm
    rw [strOf_size]
    exact cvbytes_len (hok c hc)
theorem seal_len (k : List UInt8) (t n : Int) (l : List Cv) : (sealT k t n l).length = 32 := by
  have key : ∀ (ps : List ByteArray) (k : List UInt8), ps ≠ [] → (chainS k ps).length = 32 := by
    intro ps
    induction ps with
    | nil => intro k h; exact absurd rfl h
    | cons p ps ih =>
      intro k _
      cases ps with
      | nil => exact sealL_len _ _
      | cons q ps => exact ih _ (by simp)
  exact key _ _ (by simp [partsT])
set_option maxRecDepth 100000 in
set_option maxHeartbeats 2000000 in
theorem sealof_any (k s : ByteArray) (t n : Nat) {a : Option Addr} {ln cp : Nat} {l : List Cv} (w : World) (h : Kw w a ln cp l) (hl8 : ln ≤ 8) (hk : k.size ≤ 1000000) (hok : ∀ c ∈ l, c.ok = true) (ht : t ≤ 9223372036854775807) (hn : n ≤ 9223372036854775807) (hL : Laid w) : Calls Tryd.prog 33 #[.string k, .agg #[.int .i64 (t : Int), .int .i64 (n : Int), .slice a ln cp, .string s]] w fun e w' => StTo w (sealT k.data.toList t n l) e w' := by
  have hl := h.len
  obtain ⟨pb, hpb⟩ : ∃ pb, w.heap.size = pb := ⟨_, rfl⟩
  obtain ⟨V1, hV1, r1, hb1⟩ := box_tk (w := w) (t : Int) (n : Int) a ln cp s
  rw [hpb] at r1
  have HK : Hid (∀ W, Below V1.heap.size V1 W → W.cell? ⟨pb, 0, none⟩ = some (.int .i64 (t : Int)) ∧ W.cell? ⟨pb, 1, none⟩ = some (.int .i64 (n : Int)) ∧ W.cell? ⟨pb, 2, none⟩ = some (.slice a ln cp) ∧ W.cell? ⟨pb, 3, none⟩ = some (.string s)) := fun W hW => by
    have r2 := (hW.block pb (lt_of_some r1)).trans r1
    exact ⟨by rw [cell_of_row _ _ _ _ _ _ r2]; rfl, by rw [cell_of_row _ _ _ _ _ _ r2]; rfl, by rw [cell_of_row _ _ _ _ _ _ r2]; rfl, by rw [cell_of_row _ _ _ _ _ _ r2]; rfl⟩
  obtain ⟨y0, y1, y2, y3⟩ := HK.out V1 (Below.refl _ _)
  have HB : Hid (Below w.heap.size w V1) := hb1
  have HR : Hid ((∀ W, Below V1.heap.size V1 W → Kw W a ln cp l) ∧ (∀ W, Below V1.heap.size V1 W → Laid W) ∧ l.length = ln ∧ (∀ c ∈ l, c.ok = true)) := ⟨fun W hW => h.below (hb1.trans (hW.mono hb1.size)), fun W hW => hL.below (hb1.trans (hW.mono hb1.size)), hl, hok⟩
  have HN := nbytes_any t n a ln cp s V1 ht hn
  obtain ⟨B, hBs⟩ : ∃ B, V1.heap.size = B := ⟨_, rfl⟩
  have HB0 : Hid (V1.heap.size = B) := hBs
  have HTN : Hid ((t : Int) ≤ 9223372036854775807 ∧ (n : Int) ≤ 9223372036854775807) := ⟨by omega, by omega⟩
  clear r1 hb1 h hl hok hL hBs
  go_enter Tryd.func33, Tryd.ntmps33
  go_wp2_with fail
  refine HN.mono ?_
  rintro e V2 ⟨a2, n2, c2, rfl, hbs2, hb2⟩
  obtain ⟨S, hS⟩ : ∃ S, strOf (headB (t : Int) (n : Int)) = S := ⟨_, rfl⟩
  have hcv : (convert 25 9 (.slice a2 n2 c2)).run Tryd.prog V2 = .ok (.string S) V2 := by rw [← hS]; exact hbs2.conv
  obtain ⟨V3, hV3⟩ : ∃ V3, V2.alloc (.cells #[.string S] 9) = V3 := ⟨_, rfl⟩
  obtain ⟨g, hg⟩ : ∃ g, V2.heap.size = g := ⟨_, rfl⟩
  have r3 : V3.heap[g]? = some (.cells #[.string S] 9 (0, 0)) := by rw [← hV3, ← hg]; exact heap_alloc_new V2 _
  have hb3 : Below V1.heap.size V1 V3 := hb2.trans (by rw [← hV3]; exact ((Below.refl _ V2).alloc (Nat.le_refl _) _).mono hb2.size)
  clear y0 y1 y2 y3
  obtain ⟨y0, y1, y2, y3⟩ := HK.out V3 hb3
  have H3 : Hid (V3.ownsRow B 9 1 (.slice (some ⟨g, 0, none⟩) 1 1) 1 (srR (partsT t n (l.take 0))) ∧ Below V1.heap.size V1 V3) := ⟨by
    have := own_sr (base := B) (by rw [← hg, ← HB0.out]; exact hb2.size) r3
    rw [← hS] at this
    exact this, hb3⟩
  clear HN hbs2 hb2 hb3 r3 hS
  go_wp2
  clear hcv
  go_loopw [5, 15] (fun vp vi wr => ∃ (i m c' : Nat) (a' : Option Addr), i ≤ ln ∧ m = i + 1 ∧ vi = .int .i64 i ∧ vp = .slice a' m c' ∧ wr.ownsRow B 9 1 (.slice a' m c') m (srR (partsT t n (l.take i))) ∧ Below V1.heap.size V1 wr) (fun _ vi _ => ln - (intOf vi).toNat)
  case atStart => exact ⟨0, 1, 1, some ⟨g, 0, none⟩, by omega, rfl, rfl, rfl, H3.out⟩
  case round =>
    clear H3 y0 y1 y2 y3
    obtain ⟨i, m, c', a', hi, hm, rfl, rfl, hown, hbw⟩ := hrel
    have HM : Hid (m = i + 1) := hm
    have hmb : m ≤ 9 := by omega
    clear hm
    by_cases hlt : i < ln
    · have kk : (i : Int) < (ln : Int) := by omega
      obtain ⟨ab, ao, rfl, _, hc⟩ := (HR.out.1 wr hbw).at (by omega)
      obtain ⟨⟨c1, c2, c3⟩, hci⟩ : ∃ c, l[i]? = some c := ⟨_, List.getElem?_eq_getElem (by have := HR.out.2.2.1; omega)⟩
      obtain ⟨d0, d1, d2⟩ := hc i _ hci
      have hcok := HR.out.2.2.2 _ (List.mem_of_getElem? hci)
      have hcp := ok_path hcok
      have hco := Cv.ok_iff.1 hcok
      simp only at d0 d1 d2 hcp hco
      obtain ⟨V4, hV4, r4, hb4⟩ := box_cv (w := wr) c1 c2 c3
      obtain ⟨qb, hqb⟩ : ∃ qb, wr.heap.size = qb := ⟨_, rfl⟩
      rw [hqb] at r4
      have x0 : V4.cell? ⟨qb, 0, none⟩ = some (.string c1) := by rw [cell_of_row _ _ _ _ _ _ r4]; rfl
      have x1 : V4.cell? ⟨qb, 1, none⟩ = some (.int .i64 c2) := by rw [cell_of_row _ _ _ _ _ _ r4]; rfl
      have x2 : V4.cell? ⟨qb, 2, none⟩ = some (.int .i64 c3) := by rw [cell_of_row _ _ _ _ _ _ r4]; rfl
      have HC := cbytes_any ⟨c1, c2, c3⟩ V4 (by simp only; omega) (by simp only; omega) (by simp only; omega)
      simp only at HC
      have H4 : Hid (wr.ownsRow B 9 1 (.slice a' m c') m (srR (partsT t n (l.take i))) ∧ Below V1.heap.size V1 wr ∧ Below wr.heap.size wr V4 ∧ l[i]? = some ⟨c1, c2, c3⟩) := ⟨hown, hbw, hb4, hci⟩
      clear hown hbw hb4 r4 hc hci hcok hco
      go_wp2_with fail
      refine HC.mono ?_
      rintro e V5 ⟨a5, n5, c5, rfl, hbs5, hb5⟩
      obtain ⟨S5, hS5⟩ : ∃ S5, strOf (⟨c1, c2, c3⟩ : Cv).bytes = S5 := ⟨_, rfl⟩
      have hcv5 : (convert 25 9 (.slice a5 n5 c5)).run Tryd.prog V5 = .ok (.string S5) V5 := by rw [← hS5]; exact hbs5.conv
      obtain ⟨V6, hV6⟩ : ∃ V6, V5.alloc (.cells #[.string S5] 9) = V6 := ⟨_, rfl⟩
      obtain ⟨g6, hg6⟩ : ∃ g6, V5.heap.size = g6 := ⟨_, rfl⟩
      have r6 : V6.heap[g6]? = some (.cells #[.string S5] 9 (0, 0)) := by rw [← hV6, ← hg6]; exact heap_alloc_new V5 _
      have hB6 : Below wr.heap.size wr V6 := (H4.out.2.2.1.trans (hb5.mono H4.out.2.2.1.size)).trans (by rw [← hV6]; exact ((Below.refl _ V5).alloc (Nat.le_refl _) _).mono (Nat.le_trans H4.out.2.2.1.size hb5.size))
      have ho6 := own_keep H4.out.1 (W' := V6) (fun j hj => hB6.block j (H4.out.1.lt j hj).2)
      have hB1 : Below V1.heap.size V1 V6 := H4.out.2.1.trans (hB6.mono H4.out.2.1.size)
      obtain ⟨aA, cA, VA, hrA, hoA, hgA⟩ := addT_own V6 ho6 r6 (by omega) (by rw [← HB0.out]; exact hB1.size)
      have HE : Hid (VA.ownsRow B 9 1 (.slice aA (m + 1) cA) (m + 1) (srR (partsT t n (l.take (i + 1)))) ∧ Below V1.heap.size V1 VA) := by
        refine ⟨?_, hB1.grown hgA hB1.size (fun j hj => by have := (ho6.lt j (by rw [ob_slice]; exact hj)).1; have := HB0.out; omega)⟩
        rw [parts_snoc _ _ H4.out.2.2.2, hS5]
        exact hoA
      clear HC hbs5 hb5 hS5 r6 hB6 ho6 hB1 hoA hgA x0 x1 x2 d0 d1 d2
      go_wp2_with (at_builtin; refine wpList_app V6 rfl _ _ _ _ rfl rfl rfl (hrA _) ?_)
      exact ⟨⟨i + 1, m + 1, cA, aA, by omega, by have := HM.out; omega, by go_num, by first | rfl | go_num, HE.out⟩, by simp [intOf]; omega⟩
    · obtain rfl : i = ln := by omega
      have kk : ¬ (i : Int) < (i : Int) := by omega
      have hss := Ss.own hown
      rw [List.take_of_length_le (by have := HR.out.2.2.1; omega)] at hss
      have HC := chain_any k a' m c' _ wr (by omega) hss (fun j hj => by have := parts_size HTN.out.1 HTN.out.2 HR.out.2.2.2 j hj; omega) (HR.out.2.1 wr hbw)
      obtain ⟨Z, hZ⟩ : ∃ Z, strOf (chainS k.data.toList (partsT (t : Int) (n : Int) l)) = Z := ⟨_, rfl⟩
      rw [hZ] at HC
      have H5 : Hid (Below w.heap.size w wr ∧ strOf (chainS k.data.toList (partsT (t : Int) (n : Int) l)) = Z) := ⟨HB.out.trans (hbw.mono HB.out.size), hZ⟩
      clear hss hown hbw hZ
      go_wp2_with fail
      refine HC.mono ?_
      rintro e V7 ⟨rfl, hb7⟩
      have HE : Hid (StTo w (sealT k.data.toList t n l) (.returned (.string Z)) V7) := ⟨by unfold sealT; rw [H5.out.2], H5.out.1.trans (hb7.mono H5.out.1.size)⟩
      clear HC hb7
      go_wp2
      go_ret
      exact HE.out
theorem below_drewK {B : Nat} {w V : World} (h : Below B w V) : ∀ n, Below B w (V.drewN n)
  | 0 => h
  | n + 1 => (below_drewK h n).drew
set_option maxRecDepth 100000 in
set_option maxHeartbeats 1000000 in
theorem samesl_any (a b : ByteArray) (w : World) (ha : a.size = 32) (hb : b.size = 32) : Calls Tryd.prog 40 #[.string a, .string b] w fun e w' => YeTo w (decide (a = b)) e w' := by
  have HAL : Hid (a.data.toList.length = 32 ∧ b.data.toList.length = 32) := ⟨by rw [Array.length_toList]; exact ha, by rw [Array.length_toList]; exact hb⟩
  have ka : (a.size : Int) = 32 := by omega
  have kb : (b.size : Int) = 32 := by omega
  go_enter Tryd.func40, Tryd.ntmps40
  go_wp2
  go_loopw [5, 7] (fun d i wr => ∃ n D : Nat, n ≤ 32 ∧ D < 256 ∧ d = .int .u8 (D : Int) ∧ i = .int .i64 (n : Int) ∧ (D = 0 ↔ a.data.toList.take n = b.data.toList.take n) ∧ Below w.heap.size w wr) (fun _ i _ => 32 - (intOf i).toNat)
  case atStart => exact ⟨0, 0, by omega, by omega, rfl, rfl, by simp, Below.refl _ _⟩
  case round =>
    obtain ⟨n, D, hn, hD, rfl, rfl, hiff, hB⟩ := hrel
    by_cases hlt : n < 32
    · obtain ⟨x, hx⟩ : ∃ x, (a.data.toList.getD n 0).toNat = x := ⟨_, rfl⟩
      obtain ⟨y, hy⟩ : ∃ y, (b.data.toList.getD n 0).toNat = y := ⟨_, rfl⟩
      have hx8 : x < 256 := by rw [← hx]; exact UInt8.toNat_lt _
      have hy8 : y < 256 := by rw [← hy]; exact UInt8.toNat_lt _
      have i1 : ∀ W, (Instr.index 9 (.string a) (.int .i64 (n : Int))).run Tryd.prog W = .ok (.int .u8 (x : Int)) W := str_at a n x (by omega) hx
      have i2 : ∀ W, (Instr.index 9 (.string b) (.int .i64 (n : Int))).run Tryd.prog W = .ok (.int .u8 (y : Int)) W := str_at b n y (by omega) hy
      obtain ⟨u, hu⟩ : ∃ u, x ^^^ y = u := ⟨_, rfl⟩
      have hu8 : u < 256 := by rw [← hu]; exact Nat.xor_lt_two_pow (n := 8) hx8 hy8
      obtain ⟨v, hv⟩ : ∃ v, D ||| u = v := ⟨_, rfl⟩
      have hv8 : v < 256 := by rw [← hv]; exact Nat.or_lt_two_pow (n := 8) hD hu8
      have b1 : bits BinOp.xor IntKind.u8 (x : Int) (y : Int) = (u : Int) := by rw [u8_xor_nat x y hx8 hy8, hu]
      have b2 : bits BinOp.or IntKind.u8 (D : Int) (u : Int) = (v : Int) := by rw [u8_or_nat D u hD hu8, hv]
      have HF : Hid (v = 0 ↔ a.data.toList.take (n + 1) = b.data.toList.take (n + 1)) := by
        show _ ↔ _
        rw [take_next _ _ _ (by rw [HAL.out.1]; exact hlt) (by rw [HAL.out.2]; exact hlt), ← hv, ← hu, or_xor_zero, hiff, hx, hy]
      have HB : Hid (Below w.heap.size w wr) := hB
      have kn : (n : Int) < 32 := by omega
      clear hiff hB hx hy hu hv
      go_wp2
      go_quiet (fail)
      go_wp2
      exact ⟨⟨n + 1, v, by omega, hv8, rfl, by go_num, HF.out, below_drewK HB.out _⟩, by simp [intOf]; omega⟩
    · obtain rfl : n = 32 := by omega
      have hf : D = 0 ↔ a = b := by
        rw [hiff, List.take_of_length_le (by rw [HAL.out.1]; omega), List.take_of_length_le (by rw [HAL.out.2]; omega)]
        exact ⟨fun e => ByteArray.ext (Array.toList_inj.1 e), fun e => by rw [e]⟩
      have HD : Hid (YeTo w (decide (a = b)) (.returned (.bool (decide ((D : Int) = 0)))) wr) := ⟨by
        have : decide ((D : Int) = 0) = decide (a = b) := by rw [decide_eq_decide, ← hf]; omega
        rw [this], hB⟩
      have kn : ¬ ((32 : Nat) : Int) < 32 := by omega
      obtain ⟨q, hq⟩ : ∃ q, decide ((D : Int) = 0) = q := ⟨_, rfl⟩
      have hq2 : ((D : Int) == 0) = q := by rw [← hq, Bool.eq_iff_iff]; simp
      rw [hq] at HD
      clear hiff hf hB
      go_wp2
      go_ret
      exact HD.out
/-- Is it sealed right? -/
def checkT (k : List UInt8) (t : Tk) : Bool := mayT t && decide (t.sig = strOf (sealT k t.tenant t.number t.cavs))
set_option maxRecDepth 100000 in
set_option maxHeartbeats 2000000 in
theorem check_tk (k s : ByteArray) (t n : Int) {a : Option Addr} {ln cp : Nat} {l : List Cv} (w : World) (h : Kw w a ln cp l) (hp : ∀ c ∈ l, c.path.size ≤ 9223372036854775807) (hk : k.size ≤ 1000000) (hL : Laid w) : Calls Tryd.prog 15 #[.string k, .agg #[.int .i64 t, .int .i64 n, .slice a ln cp, .string s]] w fun e w' => YeTo w (checkT k.data.toList ⟨t, n, l, s⟩) e w' := by
  have hl := h.len
  obtain ⟨pb, hpb⟩ : ∃ pb, w.heap.size = pb := ⟨_, rfl⟩
  obtain ⟨V1, hV1, r1, hb1⟩ := box_tk (w := w) t n a ln cp s
  rw [hpb] at r1
  have HK : Hid (∀ W, Below V1.heap.size V1 W → W.cell? ⟨pb, 0, none⟩ = some (.int .i64 t) ∧ W.cell? ⟨pb, 1, none⟩ = some (.int .i64 n) ∧ W.cell? ⟨pb, 2, none⟩ = some (.slice a ln cp) ∧ W.cell? ⟨pb, 3, none⟩ = some (.string s)) := fun W hW => by
    have r2 := (hW.block pb (lt_of_some r1)).trans r1
    exact ⟨by rw [cell_of_row _ _ _ _ _ _ r2]; rfl, by rw [cell_of_row _ _ _ _ _ _ r2]; rfl, by rw [cell_of_row _ _ _ _ _ _ r2]; rfl, by rw [cell_of_row _ _ _ _ _ _ r2]; rfl⟩
  have HB : Hid (Below w.heap.size w V1) := hb1
  have HM : Hid (∀ W, Below V1.heap.size V1 W → Calls Tryd.prog 19 #[.agg #[.int .i64 t, .int .i64 n, .slice a ln cp, .string s]] W fun e w' => e = .returned (.bool (mayT ⟨t, n, l, s⟩)) ∧ Below W.heap.size W w') := fun W hW => cmay_any t n s (h.below (hb1.trans (hW.mono hb1.size))) hp
  cases hm : mayT ⟨t, n, l, s⟩ with
  | false =>
    rw [hm] at HM
    have HX : Hid (checkT k.data.toList ⟨t, n, l, s⟩ = false) := by show _ = _; unfold checkT; rw [hm]; rfl
    clear hm r1 hb1 h
    go_enter Tryd.func15, Tryd.ntmps15
    go_wp2
    refine wp_region_held_drew (S := fun W => W.cell? ⟨pb, 0, none⟩ = some (.int .i64 t) ∧ W.cell? ⟨pb, 1, none⟩ = some (.int .i64 n) ∧ W.cell? ⟨pb, 2, none⟩ = some (.slice a ln cp) ∧ W.cell? ⟨pb, 3, none⟩ = some (.string s)) (by kernel_rfl) (HK.out V1.drew (Below.refl _ V1).drew) (fun hHeld => ?_)
    refine wpAnyH_take (i := 0) (v := ?va_0) rfl (by kernel_rfl) (by kernel_rfl) (by kernel_rfl) (fun _ _ _ h => h) (Or.inl ⟨by first | kernel_rfl | rfl, ?ya_0⟩) hHeld ?ra_0
    case ya_0 => (intro W hSW; (try dsimp only at hSW); go_simp; (try with_reducible rfl))
    change wpAnyH _ _ _ _ _ _ _ (Act.put _ (some 5) _) _
    simp only [Act.put, List.setIfInBounds_toArray, List.set_cons_zero, List.set_cons_succ]
    refine wpAnyH_ready (rs := [1]) (by kernel_rfl) (by simp) ?_
    refine AllReadyH.cons rfl (fun K hK => ?_) AllReadyH.nil
    go_simp
    refine (HM.out V1.drew ((Below.refl _ V1).drew)).mono ?_
    rintro e V2 ⟨rfl, hb2⟩
    refine hK.out _ _ (HK.out V2 ((Below.refl _ V1).drew.trans hb2)) (fun hHeld => ?_)
    clear hK K
    try simp only [Act.put, List.setIfInBounds_toArray, List.set_cons_zero, List.set_cons_succ]
    have H2 : Hid (Below V1.heap.size V1 V2) := (Below.refl _ V1).drew.trans hb2
    clear hb2
    refine wpAnyH_take (i := 2) (v := ?va_2) rfl (by kernel_rfl) (by kernel_rfl) (by kernel_rfl) (fun _ _ _ h => h) (Or.inl ⟨by first | kernel_rfl | rfl, ?ya_2⟩) hHeld ?ra_2
    case ya_2 => (intro W hSW; (try dsimp only at hSW); go_simp; (try with_reducible rfl))
    change wpAnyH _ _ _ _ _ _ _ (Act.put _ (some 7) _) _
    simp only [Act.put, List.setIfInBounds_toArray, List.set_cons_zero, List.set_cons_succ]
    refine wpAnyH_take (i := 3) (v := undef) rfl (by kernel_rfl) (by kernel_rfl) (by kernel_rfl) (fun _ _ _ h => h) (Or.inr ⟨by first | kernel_rfl | rfl, rfl⟩) hHeld ?_
    change wpAnyH _ _ _ _ _ _ _ (Act.put _ (some 8) _) _
    simp only [Act.put, List.setIfInBounds_toArray, List.set_cons_zero, List.set_cons_succ]
    refine wpAnyH_take (i := 4) (v := undef) rfl (by kernel_rfl) (by kernel_rfl) (by kernel_rfl) (fun _ _ _ h => h) (Or.inr ⟨by first | kernel_rfl | rfl, rfl⟩) hHeld ?_
    change wpAnyH _ _ _ _ _ _ _ (Act.put _ (some 9) _) _
    simp only [Act.put, List.setIfInBounds_toArray, List.set_cons_zero, List.set_cons_succ]
    refine wpAnyH_take (i := 5) (v := undef) rfl (by kernel_rfl) (by kernel_rfl) (by kernel_rfl) (fun _ _ _ h => h) (Or.inr ⟨by first | kernel_rfl | rfl, rfl⟩) hHeld ?_
    change wpAnyH _ _ _ _ _ _ _ (Act.put _ (some 10) _) _
    simp only [Act.put, List.setIfInBounds_toArray, List.set_cons_zero, List.set_cons_succ]
    refine wpAnyH_take (i := 6) (v := undef) rfl (by kernel_rfl) (by kernel_rfl) (by kernel_rfl) (fun _ _ _ h => h) (Or.inr ⟨by first | kernel_rfl | rfl, rfl⟩) hHeld ?_
    change wpAnyH _ _ _ _ _ _ _ (Act.put _ (some 11) _) _
    simp only [Act.put, List.setIfInBounds_toArray, List.set_cons_zero, List.set_cons_succ]
    refine wpAnyH_take (i := 7) (v := undef) rfl (by kernel_rfl) (by kernel_rfl) (by kernel_rfl) (fun _ _ _ h => h) (Or.inr ⟨by first | kernel_rfl | rfl, rfl⟩) hHeld ?_
    change wpAnyH _ _ _ _ _ _ _ (Act.put _ (some 12) _) _
    simp only [Act.put, List.setIfInBounds_toArray, List.set_cons_zero, List.set_cons_succ]
    refine wpAnyH_take (i := 8) (v := undef) rfl (by kernel_rfl) (by kernel_rfl) (by kernel_rfl) (fun _ _ _ h => h) (Or.inr ⟨by first | kernel_rfl | rfl, rfl⟩) hHeld ?_
    change wpAnyH _ _ _ _ _ _ _ (Act.put _ (some 13) _) _
    simp only [Act.put, List.setIfInBounds_toArray, List.set_cons_zero, List.set_cons_succ]
    have HE : Hid (YeTo w (checkT k.data.toList ⟨t, n, l, s⟩) (.returned (.bool false)) V2) := ⟨by rw [HX.out], HB.out.trans (H2.out.mono HB.out.size)⟩
    refine wpAnyH_take (i := 9) (v := ?va_9) rfl (by kernel_rfl) (by kernel_rfl) (by kernel_rfl) (fun _ _ _ h => h) (Or.inl ⟨by first | kernel_rfl | rfl, ?ya_9⟩) hHeld ?ra_9
    case ya_9 => (intro W hSW; (try dsimp only at hSW); go_simp; (try with_reducible rfl))
    change wpAnyH _ _ _ _ _ _ _ (Act.put _ (some 14) _) _
    simp only [Act.put, List.setIfInBounds_toArray, List.set_cons_zero, List.set_cons_succ]
    refine wpAnyH_take (i := 10) (v := ?va_10) rfl (by kernel_rfl) (by kernel_rfl) (by kernel_rfl) (fun _ _ _ h => h) (Or.inl ⟨by first | kernel_rfl | rfl, ?ya_10⟩) hHeld ?ra_10
    case ya_10 => (intro W hSW; (try dsimp only at hSW); go_simp; (try with_reducible rfl))
    change wpAnyH _ _ _ _ _ _ _ (Act.put _ (some 4) _) _
    simp only [Act.put, List.setIfInBounds_toArray, List.set_cons_zero, List.set_cons_succ]
    refine wpAnyH_done (by kernel_rfl) ?_ _
    go_wp2
    go_ret
    exact HE.out
  | true =>
    rw [hm] at HM
    have hmi := may_iff.1 hm
    have hkn := known_iff.1 hmi.1
    simp only at hmi hkn
    obtain ⟨Z, hZ⟩ : ∃ Z, strOf (sealT k.data.toList t n l) = Z := ⟨_, rfl⟩
    have hz : Z.size = 32 := by rw [← hZ, strOf_size, seal_len]
    have HX : Hid (checkT k.data.toList ⟨t, n, l, s⟩ = decide (s = Z)) := by show _ = _; unfold checkT; rw [hm, ← hZ]; rfl
    have HS : Hid (∀ W, Below V1.heap.size V1 W → Calls Tryd.prog 33 #[.string k, .agg #[.int .i64 t, .int .i64 n, .slice a ln cp, .string s]] W fun e w' => e = .returned (.string Z) ∧ Below W.heap.size W w') := fun W hW => by
      obtain ⟨tn, rfl⟩ : ∃ m : Nat, t = (m : Int) := ⟨t.toNat, by omega⟩
      obtain ⟨nn, rfl⟩ : ∃ m : Nat, n = (m : Int) := ⟨n.toNat, by omega⟩
      have hW2 := hb1.trans (hW.mono hb1.size)
      have h5 := sealof_any k s tn nn W (h.below hW2) (by omega) hk hmi.2.2.2 (by omega) (by omega) (hL.below hW2)
      unfold StTo at h5
      rw [hZ] at h5
      exact h5
    have HQ : Hid (∀ W, Calls Tryd.prog 40 #[.string s, .string Z] W fun e w' => e = .returned (.bool (decide (s = Z))) ∧ Below W.heap.size W w') := fun W => samesl_any s Z W hmi.2.2.1 hz
    obtain ⟨q, hq⟩ : ∃ q, decide (s = Z) = q := ⟨_, rfl⟩
    rw [hq] at HQ HX
    clear hm r1 hb1 h hL hZ hz hmi hkn
    go_enter Tryd.func15, Tryd.ntmps15
    go_wp2
    refine wp_region_held_drew (S := fun W => W.cell? ⟨pb, 0, none⟩ = some (.int .i64 t) ∧ W.cell? ⟨pb, 1, none⟩ = some (.int .i64 n) ∧ W.cell? ⟨pb, 2, none⟩ = some (.slice a ln cp) ∧ W.cell? ⟨pb, 3, none⟩ = some (.string s)) (by kernel_rfl) (HK.out V1.drew (Below.refl _ V1).drew) (fun hHeld => ?_)
    refine wpAnyH_take (i := 0) (v := ?vb_0) rfl (by kernel_rfl) (by kernel_rfl) (by kernel_rfl) (fun _ _ _ h => h) (Or.inl ⟨by first | kernel_rfl | rfl, ?yb_0⟩) hHeld ?rb_0
    case yb_0 => (intro W hSW; (try dsimp only at hSW); go_simp; (try with_reducible rfl))
    change wpAnyH _ _ _ _ _ _ _ (Act.put _ (some 5) _) _
    simp only [Act.put, List.setIfInBounds_toArray, List.set_cons_zero, List.set_cons_succ]
    refine wpAnyH_ready (rs := [1]) (by kernel_rfl) (by simp) ?_
    refine AllReadyH.cons rfl (fun K hK => ?_) AllReadyH.nil
    go_simp
    refine (HM.out V1.drew ((Below.refl _ V1).drew)).mono ?_
    rintro e V2 ⟨rfl, hb2⟩
    refine hK.out _ _ (HK.out V2 ((Below.refl _ V1).drew.trans hb2)) (fun hHeld => ?_)
    clear hK K
    try simp only [Act.put, List.setIfInBounds_toArray, List.set_cons_zero, List.set_cons_succ]
    have H2 : Hid (Below V1.heap.size V1 V2) := (Below.refl _ V1).drew.trans hb2
    clear hb2
    refine wpAnyH_take (i := 2) (v := ?vb_2) rfl (by kernel_rfl) (by kernel_rfl) (by kernel_rfl) (fun _ _ _ h => h) (Or.inl ⟨by first | kernel_rfl | rfl, ?yb_2⟩) hHeld ?rb_2
    case yb_2 => (intro W hSW; (try dsimp only at hSW); go_simp; (try with_reducible rfl))
    change wpAnyH _ _ _ _ _ _ _ (Act.put _ (some 7) _) _
    simp only [Act.put, List.setIfInBounds_toArray, List.set_cons_zero, List.set_cons_succ]
    refine wpAnyH_take (i := 3) (v := ?vb_3) rfl (by kernel_rfl) (by kernel_rfl) (by kernel_rfl) (fun _ _ _ h => h) (Or.inl ⟨by first | kernel_rfl | rfl, ?yb_3⟩) hHeld ?rb_3
    case yb_3 => (intro W hSW; (try dsimp only at hSW); go_simp; (try with_reducible rfl))
    change wpAnyH _ _ _ _ _ _ _ (Act.put _ (some 8) _) _
    simp only [Act.put, List.setIfInBounds_toArray, List.set_cons_zero, List.set_cons_succ]
    refine wpAnyH_take (i := 4) (v := ?vb_4) rfl (by kernel_rfl) (by kernel_rfl) (by kernel_rfl) (fun _ _ _ h => h) (Or.inl ⟨by first | kernel_rfl | rfl, ?yb_4⟩) hHeld ?rb_4
    case yb_4 => (intro W hSW; (try dsimp only at hSW); go_simp; (try with_reducible rfl))
    change wpAnyH _ _ _ _ _ _ _ (Act.put _ (some 9) _) _
    simp only [Act.put, List.setIfInBounds_toArray, List.set_cons_zero, List.set_cons_succ]
    refine wpAnyH_take (i := 5) (v := ?vb_5) rfl (by kernel_rfl) (by kernel_rfl) (by kernel_rfl) (fun _ _ _ h => h) (Or.inl ⟨by first | kernel_rfl | rfl, ?yb_5⟩) hHeld ?rb_5
    case yb_5 => (intro W hSW; (try dsimp only at hSW); go_simp; (try with_reducible rfl))
    change wpAnyH _ _ _ _ _ _ _ (Act.put _ (some 10) _) _
    simp only [Act.put, List.setIfInBounds_toArray, List.set_cons_zero, List.set_cons_succ]
    refine wpAnyH_take (i := 6) (v := ?vb_6) rfl (by kernel_rfl) (by kernel_rfl) (by kernel_rfl) (fun _ _ _ h => h) (Or.inl ⟨by first | kernel_rfl | rfl, ?yb_6⟩) hHeld ?rb_6
    case yb_6 => (intro W hSW; (try dsimp only at hSW); go_simp; (try with_reducible rfl))
    change wpAnyH _ _ _ _ _ _ _ (Act.put _ (some 11) _) _
    simp only [Act.put, List.setIfInBounds_toArray, List.set_cons_zero, List.set_cons_succ]
    refine wpAnyH_ready (rs := [7]) (by kernel_rfl) (by simp) ?_
    refine AllReadyH.cons rfl (fun K hK => ?_) AllReadyH.nil
    go_simp
    refine (HS.out V2 H2.out).mono ?_
    rintro e V3 ⟨rfl, hb3⟩
    refine hK.out _ _ (HK.out V3 (H2.out.trans (hb3.mono H2.out.size))) (fun hHeld => ?_)
    clear hK K
    try simp only [Act.put, List.setIfInBounds_toArray, List.set_cons_zero, List.set_cons_succ]
    have H3 : Hid (Below V1.heap.size V1 V3) := H2.out.trans (hb3.mono H2.out.size)
    clear hb3
    refine wpAnyH_ready (rs := [8]) (by kernel_rfl) (by simp) ?_
    refine AllReadyH.cons rfl (fun K hK => ?_) AllReadyH.nil
    go_simp
    refine (HQ.out V3).mono ?_
    rintro e V4 ⟨rfl, hb4⟩
    refine hK.out _ _ (HK.out V4 (H3.out.trans (hb4.mono H3.out.size))) (fun hHeld => ?_)
    clear hK K
    try simp only [Act.put, List.setIfInBounds_toArray, List.set_cons_zero, List.set_cons_succ]
    have HE : Hid (YeTo w (checkT k.data.toList ⟨t, n, l, s⟩) (.returned (.bool q)) V4) := ⟨by rw [HX.out], HB.out.trans ((H3.out.trans (hb4.mono H3.out.size)).mono HB.out.size)⟩
    clear hb4
    refine wpAnyH_take (i := 9) (v := ?vb_9) rfl (by kernel_rfl) (by kernel_rfl) (by kernel_rfl) (fun _ _ _ h => h) (Or.inl ⟨by first | kernel_rfl | rfl, ?yb_9⟩) hHeld ?rb_9
    case yb_9 => (intro W hSW; (try dsimp only at hSW); go_simp; (try with_reducible rfl))
    change wpAnyH _ _ _ _ _ _ _ (Act.put _ (some 14) _) _
    simp only [Act.put, List.setIfInBounds_toArray, List.set_cons_zero, List.set_cons_succ]
    refine wpAnyH_take (i := 10) (v := ?vb_10) rfl (by kernel_rfl) (by kernel_rfl) (by kernel_rfl) (fun _ _ _ h => h) (Or.inl ⟨by first | kernel_rfl | rfl, ?yb_10⟩) hHeld ?rb_10
    case yb_10 => (intro W hSW; (try dsimp only at hSW); go_simp; (try with_reducible rfl))
    change wpAnyH _ _ _ _ _ _ _ (Act.put _ (some 4) _) _
    simp only [Act.put, List.setIfInBounds_toArray, List.set_cons_zero, List.set_cons_succ]
    refine wpAnyH_done (by kernel_rfl) ?_ _
    go_wp2
    go_ret
    exact HE.out
end Go.Proofs.YtcmdcmbiilfngabDoor
