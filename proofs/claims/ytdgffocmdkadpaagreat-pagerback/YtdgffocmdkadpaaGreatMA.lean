/- A walk over parse. Maps of changes in memory. Steps that are done to a disk, in plain mathematics: writes and flushes, up to the first that isn't done. -/
import Derived.Test.YtdgffocmdkadpaaGreatPN
import Derived.Maps.OwnSet
import Derived.Maps.Views
import Derived.Shelf.SlMaps.Clone
import Derived.Test.YtdgffocmdkadpaaGreatA
namespace Go.Proofs.YtdgffocmdkadpaaGreat
open Go.RowKit Go.Shelf Pg
set_option maxRecDepth 100000 in
set_option maxHeartbeats 4000000 in
theorem parse_any (text : ByteArray) (n : Nat) (w : World) (hs : text.size = 1024) (hn1 : 1 ≤ n) (hn : n ≤ 128) : Calls Tryz.prog 51 #[.string text, .int .i64 (n : Int)] w fun e w' => e = .returned (parV n (parseH n text.data.toList)) ∧ Below w.heap.size w w' := by
  obtain ⟨B, hB⟩ : ∃ B, w.heap.size = B := ⟨_, rfl⟩
  obtain ⟨W1, hW1⟩ : ∃ W1, w.alloc (.cells (hdA (hd0 n)) 100) = W1 := ⟨_, rfl⟩
  have hz := zero_head n
  have hr1 : W1.heap[B]? = some (.cells (hdA (hd0 n)) 100 (0, 0)) := by rw [← hW1, ← hB]; exact heap_alloc_new w _
  have hb1 : Below B w W1 := by rw [← hW1, ← hB]; exact (Below.refl _ w).alloc (Nat.le_refl _) _
  have HNO := noughts_any W1
  have H1 : Hid (W1.heap[B]? = some (.cells (hdA (hd0 n)) 100 (0, 0)) ∧ Below B w W1) := ⟨hr1, hb1⟩
  have hsz1 := hdA_size (newHd n)
  have HL : Hid (text.data.toList.length = 1024) := hs
  clear hr1 hb1
  by_cases h0 : text = zeroS
  · have HE : Hid (parseH n text.data.toList = some (newHd n)) := by
      show _ = _
      unfold parseH
      rw [if_pos (by rw [h0]; rfl)]
    clear HL
    subst h0
    go_enter Tryz.func51, Tryz.ntmps51
    go_wp2_with fail
    refine HNO.mono ?_
    rintro e V ⟨rfl, hV⟩
    have hrV : V.heap[B]? = some (.cells (hdA (hd0 n)) 100 (0, 0)) := (hV.block B (lt_of_some H1.out.1)).trans H1.out.1
    have hbV : Below B w V := H1.out.2.trans (hV.mono (by have := lt_of_some H1.out.1; omega))
    have HNH := newHead_any n V
    have HV : Hid (V.heap[B]? = some (.cells (hdA (hd0 n)) 100 (0, 0)) ∧ Below B w V) := ⟨hrV, hbV⟩
    clear HNO hV hrV hbV H1
    go_wp2_with fail
    refine HNH.mono ?_
    rintro e V2 ⟨rfl, hV2⟩
    have hrV2 : V2.heap[B]? = some (.cells (hdA (hd0 n)) 100 (0, 0)) := (hV2.block B (lt_of_some HV.out.1)).trans HV.out.1
    have hst := store_hd V2 B (newHd n) _ _ hrV2 (hdA_size _)
    have HE2 : Hid ((V2.setRow B (hdA (newHd n))).heap[B]? = some (.cells (hdA (newHd n)) 100 (0, 0)) ∧ Below B w (V2.setRow B (hdA (newHd n)))) := ⟨setRow_heap V2 B _ _ _ _ hrV2, setRow_below (HV.out.2.trans (hV2.mono (by have := lt_of_some HV.out.1; omega))) (Nat.le_refl _) _⟩
    clear HNH hV2 hrV2 HV
    go_wp2
    exact bodyPost_ret (res_hd (p := 4) (q := 5) rfl _ _ B _ rfl HE2.out.1) rfl ⟨by rw [HE.out]; rfl, by rw [hB]; exact HE2.out.2⟩
  · have ht := str_nb h0
    have hne := str_ne h0
    obtain ⟨b, hb⟩ : ∃ b, text.data.toList = b := ⟨_, rfl⟩
    have hbz : b ≠ zeroL := fun e => h0 (by
      have : strOf b = text := (text_eq text b).2 hb.symm
      rw [← this, e]; rfl)
    have HPAR : Hid (parseH n b = if (hdOf b).text = b ∧ rightB n (hdOf b) = true then some ((hdOf b).cut n) else none) := by
      show _ = _
      unfold parseH
      rw [if_neg hbz]
    have HSER := num_ser text hs
    have HROOT : Hid (∀ k, k < 4 → numN (text.extract (18 + 2 * k) (18 + 2 * k + 2)).data.toList = rootOf b k) := fun k hk => by rw [num_root text hs k hk, hb]
    rw [hb] at HSER HL ⊢
    have HBT : Hid (strOf b = text) := (text_eq text b).2 hb.symm
    have HX : Hid ((text.extract 26 1024).data.toList.take 16 = (b.drop 26).take 16 ∧ (text.extract 26 1024).size = 998) := by
      refine ⟨?_, by rw [ByteArray.size_extract, hs]; decide⟩
      have := ext_list text 26 998
      rw [show (26 : Nat) + 998 = 1024 from rfl] at this
      rw [this, hb, List.take_take]
      rfl
    clear hb hbz h0
    have HN8 := number_any (text.extract 10 18) (by rw [ByteArray.size_extract, hs]; decide)
    rw [HSER] at HN8
    have HN8 : Hid (∀ W, Calls Tryz.prog 98 #[.string (text.extract 10 18)] W fun e w' => e = .returned (.int .u64 ((serOf b : Nat) : Int)) ∧ w' = W) := HN8
    clear HSER
    go_enter Tryz.func51, Tryz.ntmps51
    go_wp2_with fail
    refine HNO.mono ?_
    rintro e V ⟨rfl, hV⟩
    have hrV : V.heap[B]? = some (.cells (hdA (hd0 n)) 100 (0, 0)) := (hV.block B (lt_of_some H1.out.1)).trans H1.out.1
    have hbV : Below B w V := H1.out.2.trans (hV.mono (by have := lt_of_some H1.out.1; omega))
    obtain ⟨C, hC⟩ : ∃ C, V.heap.size = C := ⟨_, rfl⟩
    obtain ⟨V1, hV1⟩ : ∃ V1, V.alloc (.cells (hdA (hd0 n)) 100) = V1 := ⟨_, rfl⟩
    have hBC : B < C := by rw [← hC]; exact lt_of_some hrV
    have hrc : V1.heap[C]? = some (.cells (hdA (hd0 n)) 100 (0, 0)) := by rw [← hV1, ← hC]; exact heap_alloc_new V _
    have hrb : V1.heap[B]? = some (.cells (hdA (hd0 n)) 100 (0, 0)) := by rw [← hV1, Below.heap_alloc _ _ _ (by omega)]; exact hrV
    have hb1 : Below B w V1 := by rw [← hV1]; exact hbV.alloc (by omega) _
    have c0 : V1.cell? ⟨C, 0, none⟩ = some (.int .u64 0) := by rw [cell_of_row V1 C _ _ _ _ hrc]; rfl
    have f0 := frozen_of_row V1 C 0 _ _ hrc
    have HI : Hid ((V1.setCell ⟨C, 0, none⟩ (.int .u64 ((serOf b : Nat) : Int))).heap[C]? = some (.cells (hdA (halfH b n 0)) 100 (0, 0)) ∧ (V1.setCell ⟨C, 0, none⟩ (.int .u64 ((serOf b : Nat) : Int))).heap[B]? = some (.cells (hdA (hd0 n)) 100 (0, 0)) ∧ Below B w (V1.setCell ⟨C, 0, none⟩ (.int .u64 ((serOf b : Nat) : Int)))) := by
      refine ⟨?_, ?_, hb1.setCell (by show B ≤ C; omega) _⟩
      · rw [heap_setCell_same V1 C 0 _ _ _ hrc, half_ser]
      · rw [heap_setCell_other _ _ _ _ (by show B ≠ C; omega)]; exact hrb
    have HN8' := HN8.out V1
    clear HNO hV hrV hbV H1 hrc hrb hb1 HN8
    go_wp2_with fail
    refine HN8'.mono ?_
    rintro e V2 ⟨rfl, hV2⟩
    subst V2
    clear HN8'
    go_wp2
    go_loopw [7, 8, 17] (fun _ _ v wr => ∃ k : Nat, k ≤ 4 ∧ v = .int .i64 (k : Int) ∧ wr.heap[C]? = some (.cells (hdA (halfH b n k)) 100 (0, 0)) ∧ wr.heap[B]? = some (.cells (hdA (hd0 n)) 100 (0, 0)) ∧ Below B w wr) (fun _ _ v _ => 4 - (intOf v).toNat)
    case atStart => exact ⟨0, by omega, rfl, HI.out⟩
    case round =>
      clear HI c0 f0 hV1 hC
      obtain ⟨k, hk, rfl, hrc, hrb, hbw⟩ := hrel
      by_cases hlt : k < 4
      · have kk : (k : Int) < 4 := by omega
        obtain ⟨at_, hat⟩ : ∃ x : Nat, 18 + 2 * k = x := ⟨_, rfl⟩
        have kat : 18 + 2 * (k : Int) = (at_ : Int) := by omega
        have hat2 : at_ ≤ 24 := by omega
        have HRK := HROOT.out k hlt
        rw [hat] at HRK
        have HN2 := number_any (text.extract at_ (at_ + 2)) (by rw [ByteArray.size_extract, hs]; omega) wr
        rw [HRK] at HN2
        have hlt2 := rootOf_lt b k
        have HHS := half_set b n k hlt
        obtain ⟨rk, hrk⟩ : ∃ rk, rootOf b k = rk := ⟨_, rfl⟩
        rw [hrk] at HN2 hlt2 HHS
        have ck : ∃ z : Value, wr.cell? ⟨C, 1 + k, none⟩ = some z := by
          rw [cell_of_row wr C _ _ _ _ hrc, Array.getElem?_eq_getElem (by rw [hdA_size]; omega)]
          exact ⟨_, rfl⟩
        obtain ⟨z, ck⟩ := ck
        have fk := frozen_of_row wr C (1 + k) _ _ hrc
        have HN : Hid ((wr.setCell ⟨C, 1 + k, none⟩ (.int .i64 (rk : Int))).heap[C]? = some (.cells (hdA (halfH b n (k + 1))) 100 (0, 0)) ∧ (wr.setCell ⟨C, 1 + k, none⟩ (.int .i64 (rk : Int))).heap[B]? = some (.cells (hdA (hd0 n)) 100 (0, 0)) ∧ Below B w (wr.setCell ⟨C, 1 + k, none⟩ (.int .i64 (rk : Int)))) := by
          refine ⟨?_, ?_, hbw.setCell (by show B ≤ C; omega) _⟩
          · rw [heap_setCell_same wr C (1 + k) _ _ _ hrc, HHS]
          · rw [heap_setCell_other _ _ _ _ (by show B ≠ C; omega)]; exact hrb
        clear hrc hrb hbw HRK HHS hrk hat HROOT
        go_wp2_with fail
        refine HN2.mono ?_
        rintro e V2 ⟨rfl, hV2⟩
        subst V2
        clear HN2
        go_wp2
        exact ⟨⟨k + 1, by omega, by go_num, HN.out⟩, by simp [intOf]; omega⟩
      · obtain rfl : k = 4 := by omega
        have kk : ¬ (4 : Int) < 4 := by omega
        have hcp := fun ty => copy_str (P := Tryz.prog) wr.drew 22 9 ty 5 C 5 16 16 16 (text.extract 26 1024) _ _ Tryz.underlying22 (by kernel_rfl) hrc (by rw [HX.out.2]; rfl) (by rw [hdA_size]; omega)
        rw [HX.out.1, half_fin b n HL.out] at hcp
        obtain ⟨W5, hW5⟩ : ∃ W5, wr.drew.setRow C (hdA (hdOf b)) = W5 := ⟨_, rfl⟩
        rw [hW5] at hcp
        have hcp : ∀ ty, (Builtin.copy_ #[22, 9] ty #[.slice (some ⟨C, 5, none⟩) 16 16, .string (text.extract 26 1024)]).run Tryz.prog wr.drew = .ok (.int .i64 16) W5 := hcp
        have hr5 : W5.heap[C]? = some (.cells (hdA (hdOf b)) 100 (0, 0)) := by rw [← hW5]; exact setRow_heap wr.drew _ _ _ _ _ hrc
        have hr5b : W5.heap[B]? = some (.cells (hdA (hd0 n)) 100 (0, 0)) := by rw [← hW5, setRow_other _ _ _ _ (by omega)]; exact hrb
        have hb5 : Below B w W5 := by rw [← hW5]; exact setRow_below hbw.drew (by omega) _
        have hl5 := load_head W5 C _ _ _ hr5
        have HTX := text_any (hdOf b) W5 (fun k hk => by rw [hdOf_root b k hk]; have := rootOf_lt b k; omega)
        have H5 : Hid (W5.heap[C]? = some (.cells (hdA (hdOf b)) 100 (0, 0)) ∧ W5.heap[B]? = some (.cells (hdA (hd0 n)) 100 (0, 0)) ∧ Below B w W5) := ⟨hr5, hr5b, hb5⟩
        have hbd := build_head n
        have hsz0 := hdA_size (hd0 n)
        have hsz5 := hdA_size (hdOf b)
        clear hrc hrb hbw hr5 hr5b hb5 HROOT HX
        by_cases hte : (hdOf b).text = b
        · have HRI : Hid (∀ W, Calls Tryz.prog 100 #[.agg (hdA (hdOf b)), .int .i64 (n : Int)] W fun e w' => e = .returned (.bool (rightB n (hdOf b))) ∧ Below W.heap.size W w') := fun W => right_any (hdOf b) n W hn1 hn
          have HQ : Hid (strOf (hdOf b).text = text) := by show _ = _; rw [hte]; exact HBT.out
          rw [HQ.out] at HTX
          cases hri : rightB n (hdOf b)
          · rw [hri] at HRI
            have HE : Hid (parseH n b = none) := by
              show _ = _
              rw [HPAR.out, if_neg (fun e => by rw [hri] at e; exact absurd e.2 (by decide))]
            clear HPAR hte hri HBT HQ
            go_wp2
            go_region
            go_wp2_with (refine wpList_load_w (by kernel_rfl) _ _ rfl rfl hl5 ?_)
            refine HTX.mono ?_
            rintro e V6 ⟨rfl, hV6⟩
            have H6 : Hid (V6.heap[C]? = some (.cells (hdA (hdOf b)) 100 (0, 0)) ∧ V6.heap[B]? = some (.cells (hdA (hd0 n)) 100 (0, 0)) ∧ Below B w V6) := ⟨(hV6.block C (lt_of_some H5.out.1)).trans H5.out.1, (hV6.block B (lt_of_some H5.out.2.1)).trans H5.out.2.1, H5.out.2.2.trans (hV6.mono (by have := lt_of_some H5.out.2.1; omega))⟩
            have hl6 := load_head V6 C _ _ _ H6.out.1
            have HRI6 := HRI.out V6
            clear HTX hV6 H5 hl5 HRI hcp hW5
            go_wp2_with (refine wpList_load_w (by kernel_rfl) _ _ rfl rfl hl6 ?_)
            refine HRI6.mono ?_
            rintro e V7 ⟨rfl, hV7⟩
            have H7 : Hid (V7.heap[C]? = some (.cells (hdA (hdOf b)) 100 (0, 0)) ∧ V7.heap[B]? = some (.cells (hdA (hd0 n)) 100 (0, 0)) ∧ Below B w V7) := ⟨(hV7.block C (lt_of_some H6.out.1)).trans H6.out.1, (hV7.block B (lt_of_some H6.out.2.1)).trans H6.out.2.1, H6.out.2.2.trans (hV7.mono (by have := lt_of_some H6.out.2.1; omega))⟩
            clear HRI6 hV7 H6 hl6
            have hst := store_hd V7 B (hd0 n) _ _ H7.out.2.1 (hdA_size _)
            have HE2 : Hid ((V7.setRow B (hdA (hd0 n))).heap[B]? = some (.cells (hdA (hd0 n)) 100 (0, 0)) ∧ Below B w (V7.setRow B (hdA (hd0 n)))) := ⟨setRow_heap V7 B _ _ _ _ H7.out.2.1, setRow_below H7.out.2.2 (Nat.le_refl _) _⟩
            clear H7
            go_wp2
            exact bodyPost_ret (res_hd (p := 4) (q := 5) rfl _ _ B _ rfl HE2.out.1) rfl ⟨by rw [HE.out]; rfl, by rw [hB]; exact HE2.out.2⟩
          · rw [hri] at HRI
            have HE : Hid (parseH n b = some ((hdOf b).cut n) ∧ hdA ((hdOf b).cut n) = hdA (hdOf b)) := by
              refine ⟨?_, cut_cells hri⟩
              rw [HPAR.out, if_pos ⟨hte, hri⟩]
            clear HPAR hte hri HBT HQ
            go_wp2
            go_region
            go_wp2_with (refine wpList_load_w (by kernel_rfl) _ _ rfl rfl hl5 ?_)
            refine HTX.mono ?_
            rintro e V6 ⟨rfl, hV6⟩
            have H6 : Hid (V6.heap[C]? = some (.cells (hdA (hdOf b)) 100 (0, 0)) ∧ V6.heap[B]? = some (.cells (hdA (hd0 n)) 100 (0, 0)) ∧ Below B w V6) := ⟨(hV6.block C (lt_of_some H5.out.1)).trans H5.out.1, (hV6.block B (lt_of_some H5.out.2.1)).trans H5.out.2.1, H5.out.2.2.trans (hV6.mono (by have := lt_of_some H5.out.2.1; omega))⟩
            have hl6 := load_head V6 C _ _ _ H6.out.1
            have HRI6 := HRI.out V6
            clear HTX hV6 H5 hl5 HRI hcp hW5
            go_wp2_with (refine wpList_load_w (by kernel_rfl) _ _ rfl rfl hl6 ?_)
            refine HRI6.mono ?_
            rintro e V7 ⟨rfl, hV7⟩
            have H7 : Hid (V7.heap[C]? = some (.cells (hdA (hdOf b)) 100 (0, 0)) ∧ V7.heap[B]? = some (.cells (hdA (hd0 n)) 100 (0, 0)) ∧ Below B w V7) := ⟨(hV7.block C (lt_of_some H6.out.1)).trans H6.out.1, (hV7.block B (lt_of_some H6.out.2.1)).trans H6.out.2.1, H6.out.2.2.trans (hV7.mono (by have := lt_of_some H6.out.2.1; omega))⟩
            clear HRI6 hV7 H6 hl6
            have hl7 := load_head V7 C _ _ _ H7.out.1
            have hst := store_hd V7 B (hdOf b) _ _ H7.out.2.1 (hdA_size _)
            have HE2 : Hid ((V7.setRow B (hdA (hdOf b))).heap[B]? = some (.cells (hdA (hdOf b)) 100 (0, 0)) ∧ Below B w (V7.setRow B (hdA (hdOf b)))) := ⟨setRow_heap V7 B _ _ _ _ H7.out.2.1, setRow_below H7.out.2.2 (Nat.le_refl _) _⟩
            clear H7
            go_wp2_with (refine wpList_load_w (by kernel_rfl) _ _ rfl rfl hl7 ?_)
            exact bodyPost_ret (res_hd (p := 4) (q := 5) rfl _ _ B _ rfl HE2.out.1) rfl ⟨by rw [HE.out.1]; show _ = Ending.returned (.tuple #[.agg (hdA ((hdOf b).cut n)), .bool true]); rw [HE.out.2]; rfl, by rw [hB]; exact HE2.out.2⟩
        · have hne2 : ¬ strOf (hdOf b).text = text := fun e => hte (by rw [← HBT.out] at e; exact (text_eq (strOf b) _).1 e)
          have ht2 := str_nb hne2
          have hne3 := str_ne hne2
          have HE : Hid (parseH n b = none) := by
            show _ = _
            rw [HPAR.out, if_neg (fun e => hte e.1)]
          obtain ⟨tx, htx⟩ : ∃ tx, strOf (hdOf b).text = tx := ⟨_, rfl⟩
          rw [htx] at HTX ht2 hne3
          clear HPAR hte HBT hne2 htx
          go_wp2
          go_region
          go_wp2_with (refine wpList_load_w (by kernel_rfl) _ _ rfl rfl hl5 ?_)
          refine HTX.mono ?_
          rintro e V6 ⟨rfl, hV6⟩
          have H6 : Hid (V6.heap[C]? = some (.cells (hdA (hdOf b)) 100 (0, 0)) ∧ V6.heap[B]? = some (.cells (hdA (hd0 n)) 100 (0, 0)) ∧ Below B w V6) := ⟨(hV6.block C (lt_of_some H5.out.1)).trans H5.out.1, (hV6.block B (lt_of_some H5.out.2.1)).trans H5.out.2.1, H5.out.2.2.trans (hV6.mono (by have := lt_of_some H5.out.2.1; omega))⟩
          clear HTX hV6 H5 hl5 hcp hW5
          have hst := store_hd V6 B (hd0 n) _ _ H6.out.2.1 (hdA_size _)
          have HE2 : Hid ((V6.setRow B (hdA (hd0 n))).heap[B]? = some (.cells (hdA (hd0 n)) 100 (0, 0)) ∧ Below B w (V6.setRow B (hdA (hd0 n)))) := ⟨setRow_heap V6 B _ _ _ _ H6.out.2.1, setRow_below H6.out.2.2 (Nat.le_refl _) _⟩
          clear H6
          go_wp2
          exact bodyPost_ret (res_hd (p := 4) (q := 5) rfl _ _ B _ rfl HE2.out.1) rfl ⟨by rw [HE.out]; rfl, by rw [hB]; exact HE2.out.2⟩
end Go.Proofs.YtdgffocmdkadpaaGreat
namespace Go.Proofs.YtdgffocmdkadpaaGreat
open Go.RowKit Go.Shelf Pg Go.Maps Go.ChangeMaps
/-- A change's value, and what it reads as. -/
def mcV (p : Int) (s : ByteArray) : Value := .agg #[.int .i64 p, .string s]
def mcD (p : Int) (s : ByteArray) : DataW Unit := .agg [.lit (.int .i64 p), .lit (.string s.data.toList)]
def mcRL : List Value → Option (DataW Unit × List MemPlace)
  | [.int .i64 p, .string s] => some (mcD p s, [])
  | _ => none
def mcR : Value → Option (DataW Unit × List MemPlace)
  | .agg cs => mcRL cs.toList
  | _ => none
theorem mcR_mk (p : Int) (s : ByteArray) : mcR (mcV p s) = some (mcD p s, []) := rfl
theorem mcR_inv {v : Value} {p : Int} {s : ByteArray} {ps : List MemPlace} (h : mcR v = some (mcD p s, ps)) : v = mcV p s := by
  cases v with
  | agg cs =>
    show Value.agg cs = _
    have h : mcRL cs.toList = some (mcD p s, ps) := h
    unfold mcRL at h
    split at h
    · rename_i q t e
      simp only [Option.some.injEq, Prod.mk.injEq, mcD, DataW.agg.injEq, List.cons.injEq, DataW.lit.injEq, Lit.int.injEq, Lit.string.injEq, true_and, and_true] at h
      obtain ⟨⟨rfl, h2⟩, _⟩ := h
      have : t = s := ByteArray.ext (Array.toList_inj.1 h2)
      subst this
      unfold mcV
      congr 1
      exact Array.toList_inj.1 e
    · cases h
  | _ => cases h
theorem keyedI : Keyed Tryz.prog 3 := int_keyed Tryz.underlying3
theorem wfN {i : Nat} (h : i < 128) : (Lit.int .i64 (i : Int)).wf = true := by
  simp [Lit.wf, IntKind.min, IntKind.max, IntKind.signed, IntKind.bits]
  omega
theorem keyN {i : Nat} (h : i < 128) : keyOf Tryz.prog 3 (.int .i64 (i : Int)) = some (.int .i64 (i : Int)) := keyOf_int_mk Tryz.underlying3 (wfN h)
theorem zeroCh (W : World) : (zeroValue 32).run Tryz.prog W = .ok (mcV 0 ⟨#[]⟩) W := by kernel_rfl
theorem nodup_len : ∀ (n : Nat) (l : List Nat), l.Nodup → (∀ x ∈ l, x < n) → l.length ≤ n
  | 0, l, _, h => by
    cases l with
    | nil => exact Nat.le_refl _
    | cons x l => exact absurd (h x (List.mem_cons_self ..)) (by omega)
  | n + 1, l, hd, h => by
    by_cases hn : n ∈ l
    · have := nodup_len n (l.erase n) (hd.erase n) (fun x hx => by
        have h1 := h x (List.mem_of_mem_erase hx)
        have h2 : x ≠ n := fun e => by rw [e] at hx; exact hd.not_mem_erase hx
        omega)
      rw [List.length_erase_of_mem hn] at this
      omega
    · have := nodup_len n l hd (fun x hx => by
        have h1 := h x hx
        have h2 : x ≠ n := fun e => hn (by rw [← e]; exact hx)
        omega)
      omega
def litN : Lit → Nat
  | .int _ i => i.toNat
  | _ => 0
/-- A map of changes, by pages. -/
abbrev Pm := Nat → Option ByteArray
def Pm.put (M : Pm) (i : Nat) (s : ByteArray) : Pm := fun j => if j = i then some s else M j
def Pm.del (M : Pm) (i : Nat) : Pm := fun j => if j = i then none else M j
def Pm.none : Pm := fun _ => Option.none
def KeysIn (D : DataW Unit) : Prop := ∀ es, D = .map es → ∀ p ∈ es, ∃ i : Nat, i < 128 ∧ p.1 = .int .i64 (i : Int)
structure Reads (D : DataW Unit) (M : Pm) : Prop where
  has : ∀ i : Nat, i < 128 → Maps.has D (.int .i64 (i : Int)) = (M i).isSome
  at_ : ∀ (i : Nat) (s : ByteArray), i < 128 → M i = some s → ∀ z, D.atKey (.int .i64 (i : Int)) z = mcD (i : Int) s
  keys : KeysIn D
def MapIs (w : World) (mb : Nat) (M : Pm) : Prop := ∃ n D, w.ownsMap Tryz.prog 3 mcR mb n D ∧ Reads D M
theorem size_small {D : DataW Unit} (ht : Tidy D) (h : KeysIn D) : Maps.size D ≤ 128 := by
  obtain ⟨es, rfl, hp⟩ := ht
  rw [size_eq]
  have hk := h es rfl
  have hl : (es.map fun p => litN p.1).length = es.length := List.length_map ..
  rw [← hl]
  refine nodup_len 128 _ ?_ ?_
  · rw [List.nodup_iff_pairwise_ne, List.pairwise_map]
    refine List.Pairwise.imp_of_mem (fun {a b} ha hb hab e => hab ?_) hp
    obtain ⟨i, _, e1⟩ := hk a ha
    obtain ⟨j, _, e2⟩ := hk b hb
    rw [e1, e2] at e ⊢
    simp only [litN] at e
    rw [show i = j by omega]
  · intro x hx
    obtain ⟨p, hp, rfl⟩ := List.mem_map.1 hx
    obtain ⟨i, hi, e⟩ := hk p hp
    rw [e]
    simp only [litN]
    omega
theorem own_small {w : World} {mb n : Nat} {D : DataW Unit} (h : w.ownsMap Tryz.prog 3 mcR mb n D) (hk : KeysIn D) : w.ownsMap Tryz.prog 3 mcR mb 128 D := by
  have hs := size_small (h.tidy keyedI) hk
  obtain ⟨es, clock, hb, F, _, rfl⟩ := h
  exact ⟨es, clock, hb, F, by rwa [size_eq, length_sorted, List.length_map, Array.length_toList] at hs, rfl⟩
theorem MapIs.blk {w : World} {mb : Nat} {M : Pm} (h : MapIs w mb M) : ∃ es clock, w.heap[mb]? = some (.map es clock) := by
  obtain ⟨n, D, ⟨es, clock, hb, _⟩, _⟩ := h
  exact ⟨es, clock, hb⟩
theorem MapIs.lt {w : World} {mb : Nat} {M : Pm} (h : MapIs w mb M) : mb < w.heap.size := by
  obtain ⟨es, clock, hb⟩ := h.blk
  exact lt_of_some hb
theorem MapIs.keep {w w' : World} {mb : Nat} {M : Pm} (h : MapIs w mb M) (e : w'.heap[mb]? = w.heap[mb]?) : MapIs w' mb M := by
  obtain ⟨n, D, ⟨es, clock, hb, F⟩, hr⟩ := h
  exact ⟨n, D, ⟨es, clock, e.trans hb, F⟩, hr⟩
theorem MapIs.new (w : World) : MapIs (w.alloc (.map #[] 0)) w.heap.size Pm.none :=
  ⟨0, .map [], World.ownsMap_made w Tryz.prog 3 mcR, ⟨fun _ _ => rfl, fun _ _ _ h => (by cases h), fun es e p hp => (by cases e; cases hp)⟩⟩
/-- A look into it. -/
def lookV (M : Pm) (i : Nat) : Value := match M i with
  | some s => .tuple #[mcV (i : Int) s, .bool true]
  | none => .tuple #[mcV 0 ⟨#[]⟩, .bool false]
theorem MapIs.look {w : World} {mb : Nat} {M : Pm} (h : MapIs w mb M) (i : Nat) (hi : i < 128) : (Instr.lookup 103 (.map (some mb)) (.int .i64 (i : Int)) true).run Tryz.prog w = .ok (lookV M i) w := by
  obtain ⟨n, D, ho, hr⟩ := h
  obtain ⟨v, ps, hrun, hv⟩ := ho.look_ok keyedI Tryz.underlying103 (zeroCh w) (mcR_mk 0 ⟨#[]⟩) (keyN hi)
  rw [hrun]
  unfold lookV
  cases hm : M i with
  | some s =>
    have h1 := hr.has i hi
    rw [hm] at h1
    rw [hr.at_ i s hi hm] at hv
    rw [h1, mcR_inv hv]
    rfl
  | none =>
    have h1 := hr.has i hi
    rw [hm] at h1
    rw [atKey_of_not_has h1] at hv
    rw [h1, mcR_inv hv]
    rfl
theorem lit_ne {i j : Nat} (h : i ≠ j) : (Lit.int .i64 (i : Int)) ≠ .int .i64 (j : Int) := fun e => h (by injection e with _ e2; omega)
theorem turned_upd {w w' : World} {b : Nat} (h : w.mapTurned w' b) : Upd (fun x => x = b) w w' ∧ w'.heap.size = w.heap.size := by
  obtain ⟨es, clock, es', clock', hb, rfl⟩ := h
  refine ⟨⟨rfl, rfl, rfl, by simp [setBlock], fun k hk hs => ?_⟩, by simp [setBlock]⟩
  exact heap_setBlock_other hb _ hs
theorem MapIs.store {w : World} {mb : Nat} {M : Pm} (h : MapIs w mb M) (i : Nat) (hi : i < 128) (s : ByteArray) : ∃ w', (Instr.mapUpdate 103 (.map (some mb)) (.int .i64 (i : Int)) (mcV (i : Int) s)).run Tryz.prog w = .ok () w' ∧ MapIs w' mb (M.put i s) ∧ Upd (fun x => x = mb) w w' ∧ w'.heap.size = w.heap.size := by
  obtain ⟨n, D, ho, hr⟩ := h
  have hm := ho.isMap
  obtain ⟨w', hrun, h1, h2⟩ := (own_small ho hr.keys).store keyedI Tryz.underlying103 (by unfold maxLen; omega) (keyN hi) (mcR_mk (i : Int) s)
  refine ⟨w', hrun, ⟨_, _, h1, ⟨fun j hj => ?_, fun j t hj ht => ?_, ?_⟩⟩, turned_upd h2⟩
  · unfold Pm.put
    by_cases e : j = i
    · subst e
      rw [has_put_same hm (by trivial), if_pos rfl]
      rfl
    · rw [has_put_other (lit_ne e), if_neg e, hr.has j hj]
  · unfold Pm.put at ht
    by_cases e : j = i
    · subst e
      rw [if_pos rfl] at ht
      obtain rfl := Option.some.inj ht
      intro z
      exact atKey_put_same hm (by trivial) _ z
    · rw [if_neg e] at ht
      intro z
      rw [atKey_put_other (lit_ne e)]
      exact hr.at_ j t hj ht z
  · intro es' e p hp
    obtain ⟨es, rfl⟩ := hm
    rw [DataW.put_eq] at e
    obtain rfl := DataW.map.inj e
    unfold putKey at hp
    rcases mem_insert_iff.1 hp with hp | hp
    · rw [hp]; exact ⟨i, hi, rfl⟩
    · exact hr.keys es rfl p (List.mem_filter.1 hp).1
theorem MapIs.drop {w : World} {mb : Nat} {M : Pm} (h : MapIs w mb M) (i : Nat) (hi : i < 128) (ty : TypeId) : ∃ w', (Builtin.delete_ #[103, 3] ty #[.map (some mb), .int .i64 (i : Int)]).run Tryz.prog w = .ok (.tuple #[]) w' ∧ MapIs w' mb (M.del i) ∧ Upd (fun x => x = mb) w w' ∧ w'.heap.size = w.heap.size := by
  obtain ⟨n, D, ho, hr⟩ := h
  have hm := ho.isMap
  obtain ⟨w', hrun, h1, h2⟩ := ho.drop keyedI Tryz.underlying103 (keyN hi) ty
  refine ⟨w', hrun, ⟨_, _, h1, ⟨fun j hj => ?_, fun j t hj ht => ?_, ?_⟩⟩, turned_upd h2⟩
  · unfold Pm.del
    by_cases e : j = i
    · subst e
      rw [has_del_same, if_pos rfl]
      rfl
    · rw [has_del_other (lit_ne e), if_neg e, hr.has j hj]
  · unfold Pm.del at ht
    by_cases e : j = i
    · subst e
      rw [if_pos rfl] at ht
      cases ht
    · rw [if_neg e] at ht
      intro z
      rw [atKey_del_other (lit_ne e)]
      exact hr.at_ j t hj ht z
  · intro es' e p hp
    obtain ⟨es, rfl⟩ := hm
    rw [DataW.del_eq] at e
    obtain rfl := DataW.map.inj e
    exact hr.keys es rfl p (List.mem_filter.1 hp).1
set_option maxRecDepth 100000 in
set_option maxHeartbeats 2000000 in
theorem mclone_any {w : World} {mb : Nat} {M : Pm} (h : MapIs w mb M) : Calls Tryz.prog 73 #[.map (some mb)] w fun e w' => e = .returned (.map (some w.heap.size)) ∧ MapIs w' w.heap.size M ∧ Below w.heap.size w w' ∧ w'.heap.size = w.heap.size + 1 := by
  obtain ⟨n, D, ⟨es, clock, hb, F⟩, hr⟩ := h
  have hq := fun w => run_eql_map_nil_sl (P := Tryz.prog) w 103 _ _ (some mb) Tryz.underlying103
  have HE : Hid (MapIs (w.alloc (.map es clock)) w.heap.size M ∧ Below w.heap.size w (w.alloc (.map es clock)) ∧ (w.alloc (.map es clock)).heap.size = w.heap.size + 1) := ⟨⟨n, D, ⟨es, clock, heap_alloc_new w _, F⟩, hr⟩, (Below.refl _ w).alloc (Nat.le_refl _) _, by simp⟩
  clear F hr
  go_enter Tryz.func73, Tryz.ntmps73
  go_wp2
  rw [run_callFunc_extern Tryz.func108 (by kernel_rfl) (by kernel_rfl) (by kernel_rfl) (e := Extern.MapsClone.clone) (by kernel_rfl), run_maps_clone_sl w 103 hb]
  simp only [Result.andThen]
  rw [Oper.upon_value]
  go_wp2
  rw [run_typeAssert_map_sl _ 103 20 _ _ _ Tryz.underlying103]
  simp only [Result.andThen]
  rw [Oper.upon_value]
  go_wp2
  go_ret
  exact ⟨rfl, HE.out⟩
end Go.Proofs.YtdgffocmdkadpaaGreat
namespace Go.Proofs.YtdgffocmdkadpaaGreat
/-- A step: a write, or a flush (none). -/
abbrev Stp := Option Wt
def doS (D : Dk) : Stp → Dk
  | some q => D.wrote q.1 q.2
  | none => D.settled fun _ => true
def runS : Dk → List Stp → Dk
  | D, [] => D
  | D, s :: l => if D.up then runS (doS D s) l else D
def codeS : Dk → List Stp → Nat
  | _, [] => 0
  | D, s :: l => if D.up then codeS (doS D s) l else 10
theorem codeS_or (D : Dk) (l : List Stp) : codeS D l = 0 ∨ codeS D l = 10 := by
  induction l generalizing D with
  | nil => exact .inl rfl
  | cons s l ih =>
    simp only [codeS]
    split
    · exact ih _
    · exact .inr rfl
theorem codeS_app (D : Dk) (a b : List Stp) : codeS D (a ++ b) = if codeS D a = 0 then codeS (runS D a) b else 10 := by
  induction a generalizing D with
  | nil => simp [codeS, runS]
  | cons s l ih =>
    simp only [List.cons_append, codeS, runS]
    by_cases h : D.up = true
    · simp only [h, if_true]; exact ih _
    · simp [h]
theorem runS_app (D : Dk) (a b : List Stp) : runS D (a ++ b) = if codeS D a = 0 then runS (runS D a) b else runS D a := by
  induction a generalizing D with
  | nil => simp [codeS, runS]
  | cons s l ih =>
    simp only [List.cons_append, codeS, runS]
    by_cases h : D.up = true
    · simp only [h, if_true]; exact ih _
    · simp [h]
theorem doS_len (D : Dk) (s : Stp) : (doS D s).kept.length = D.kept.length := by
  cases s with
  | none => exact upTo_len _ _ _ _
  | some q => rfl
theorem runS_len (D : Dk) (l : List Stp) : (runS D l).kept.length = D.kept.length := by
  induction l generalizing D with
  | nil => rfl
  | cons s l ih =>
    simp only [runS]
    split
    · rw [ih, doS_len]
    · rfl
theorem doS_writes (D : Dk) (s : Stp) : (doS D s).writes ≤ D.writes + 1 := by
  cases s with
  | none => exact Nat.le_succ _
  | some q => exact Nat.le_refl _
theorem runS_writes (D : Dk) (l : List Stp) : (runS D l).writes ≤ D.writes + l.length := by
  induction l generalizing D with
  | nil => exact Nat.le_refl _
  | cons s l ih =>
    simp only [runS, List.length_cons]
    split
    · have := ih (doS D s)
      have := doS_writes D s
      omega
    · omega
theorem doS_ok {D : Dk} (h : D.Ok) (s : Stp) (hs : ∀ q, s = some q → q.1 < D.kept.length) (hw : D.writes < 1000000) : (doS D s).Ok := by
  cases s with
  | none => exact h.settled _
  | some q => exact h.wrote _ _ (hs q rfl) hw
/-- Without a fuse nothing fails. -/
theorem runS_free (D : Dk) (l : List Stp) (hu : D.up = true) (hf : D.fuse = 0) : codeS D l = 0 ∧ (runS D l).up = true ∧ (runS D l).fuse = 0 := by
  induction l generalizing D with
  | nil => exact ⟨rfl, hu, hf⟩
  | cons s l ih =>
    simp only [codeS, runS, hu, if_true]
    apply ih
    · cases s with
      | none => exact hu
      | some q => simp [doS, Dk.wrote, hf]
    · cases s with
      | none => exact hf
      | some q => simp [doS, Dk.wrote, hf]
theorem runS_count (D : Dk) (l : List Stp) (hc : codeS D l = 0) : (runS D l).writes = D.writes + (l.filter Option.isSome).length := by
  induction l generalizing D with
  | nil => rfl
  | cons s l ih =>
    simp only [codeS, runS] at hc ⊢
    by_cases hu : D.up = true
    · simp only [hu, if_true] at hc ⊢
      rw [ih _ hc]
      cases s with
      | none => simp [doS, Dk.settled]
      | some q => simp [doS, Dk.wrote]; omega
    · simp [hu] at hc
/-- A page's four sectors. -/
def sec (s : ByteArray) (i : Nat) : ByteArray := s.extract (256 * i) (256 * i + 256)
theorem sec_size (s : ByteArray) (i : Nat) (hs : s.size = 1024) (hi : i < 4) : (sec s i).size = 256 := by
  simp only [sec, ByteArray.size_extract, hs]; omega
def laidW (a : Nat) (s : ByteArray) : List Wt := [(a, sec s 0), (a + 1, sec s 1), (a + 2, sec s 2), (a + 3, sec s 3)]
def laidL (a : Nat) (s : ByteArray) : List Stp := (laidW a s).map some
/-- A change: a page, and its bytes. -/
abbrev Chg := Nat × ByteArray
def layW (first : Nat) (l : List Chg) : List Wt := l.flatMap fun c => laidW (first + 4 * c.1) c.2
def layL (first : Nat) (l : List Chg) : List Stp := (layW first l).map some ++ [none]
def nought0 : ByteArray := ⟨(List.replicate 256 0).toArray⟩
def markL (m : ByteArray) : List Stp := [some (0, m), none]
def finS (n : Nat) (l : List Chg) : List Stp := layL (1 + 4 * n) l ++ markL nought0
def commitS (n : Nat) (l : List Chg) (m : ByteArray) : List Stp := layL 1 l ++ (markL m ++ finS n l)
/-- A phase: writes, and a flush. -/
theorem phase_aux (D : Dk) (ws : List Wt) (hu : D.up = true) :
    (codeS D (ws.map some ++ [none]) = 0 ∧ (runS D (ws.map some ++ [none])).kept = over D.kept (D.waits ++ ws) ∧ (runS D (ws.map some ++ [none])).waits = [] ∧ (runS D (ws.map some ++ [none])).up = true) ∨
      (codeS D (ws.map some ++ [none]) = 10 ∧ (runS D (ws.map some ++ [none])).kept = D.kept ∧ (runS D (ws.map some ++ [none])).up = false ∧ ∃ j, (runS D (ws.map some ++ [none])).waits = D.waits ++ ws.take j) := by
  induction ws generalizing D with
  | nil =>
    left
    simp only [List.map_nil, List.nil_append, codeS, runS, hu, if_true, doS, List.append_nil]
    exact ⟨trivial, upTo_all _ _ _ (fun _ _ => rfl), rfl, hu⟩
  | cons q ws ih =>
    simp only [List.map_cons, List.cons_append, codeS, runS, hu, if_true, doS]
    by_cases hv : (D.wrote q.1 q.2).up = true
    · rcases ih (D.wrote q.1 q.2) hv with ⟨h1, h2, h3, h4⟩ | ⟨h1, h2, h3, j, h4⟩
      · left
        refine ⟨h1, ?_, h3, h4⟩
        rw [h2]
        simp [Dk.wrote]
      · right
        refine ⟨h1, h2, h3, j + 1, ?_⟩
        rw [h4]
        simp [Dk.wrote]
    · right
      have hv' : (D.wrote q.1 q.2).up = false := by simpa using hv
      have e1 : ∀ l, l ≠ [] → codeS (D.wrote q.1 q.2) l = 10 ∧ runS (D.wrote q.1 q.2) l = D.wrote q.1 q.2 := by
        intro l hl
        cases l with
        | nil => exact absurd rfl hl
        | cons s l => simp [codeS, runS, hv']
      obtain ⟨e2, e3⟩ := e1 (ws.map some ++ [none]) (by simp)
      rw [e2, e3]
      exact ⟨rfl, rfl, hv', 1, by simp [Dk.wrote]⟩
theorem phase (D : Dk) (ws : List Wt) (hu : D.up = true) (hw : D.waits = []) :
    (codeS D (ws.map some ++ [none]) = 0 ∧ (runS D (ws.map some ++ [none])).kept = over D.kept ws ∧ (runS D (ws.map some ++ [none])).waits = [] ∧ (runS D (ws.map some ++ [none])).up = true) ∨
      (codeS D (ws.map some ++ [none]) = 10 ∧ (runS D (ws.map some ++ [none])).kept = D.kept ∧ (runS D (ws.map some ++ [none])).up = false ∧ ∃ j, (runS D (ws.map some ++ [none])).waits = ws.take j) := by
  have := phase_aux D ws hu
  simp only [hw, List.nil_append] at this
  exact this
end Go.Proofs.YtdgffocmdkadpaaGreat
