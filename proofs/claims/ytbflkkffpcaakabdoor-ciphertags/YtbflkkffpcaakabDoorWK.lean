/- A Stream in memory; walk over the program's next. -/
import Derived.Test.YtbflkkffpcaakabDoorWH
import Derived.Deep.MidRow
namespace Go.Proofs.YtbflkkffpcaakabDoor
open Go.RowKit
section
variable {st : List Nat} {rest : List UInt8} {n : Nat}
theorem st_size (hs : st.length = 16) (hr : rest.length = 64) : (hcells st rest n).size = 81 := by simp [hcells, hlist, hs, hr]
theorem st_b (hs : st.length = 16) (i : Nat) (hi : i < rest.length) : (hcells st rest n)[16 + i]? = some (.int .u8 (((rest.getD i 0).toNat : Nat) : Int)) := by
  simp only [hcells, hlist, List.getElem?_toArray]
  rw [List.getElem?_append_right (by simp [hs]), List.getElem?_append_left (by simp [hs]; omega)]
  simp [hs, hi]
theorem st_c (hs : st.length = 16) (hr : rest.length = 64) : (hcells st rest n)[80]? = some (.int .i64 (n : Int)) := by
  simp only [hcells, hlist, List.getElem?_toArray]
  rw [List.getElem?_append_right (by simp [hs]), List.getElem?_append_right (by simp [hs, hr])]
  simp [hs, hr]
theorem st_cset (hs : st.length = 16) (hr : rest.length = 64) (m : Nat) : (hcells st rest n).setIfInBounds 80 (.int .i64 (m : Int)) = hcells st rest m := by
  simp only [hcells, hlist, List.setIfInBounds_toArray]
  rw [List.set_append_right _ _ (by simp [hs]), List.set_append_right _ _ (by simp [hs, hr])]
  simp [hs, hr]
theorem st_over (hs : st.length = 16) (hr : rest.length = 64) (m : List UInt8) (hm : m.length = 64) :
    ((hcells st rest n).toList.take 16 ++ (u8v m).toList ++ (hcells st rest n).toList.drop (16 + (u8v m).toList.length)).toArray = hcells st m n := by
  have e1 : (u8v m).toList = m.map fun (x : UInt8) => Value.int .u8 (x.toNat : Int) := rfl
  have e2 : (hcells st rest n).toList = hlist st rest n := rfl
  rw [e1, e2]
  simp only [hcells, hlist, List.length_map]
  congr 1
  rw [List.take_append_of_le_length (by simp [hs]), List.take_of_length_le (by simp [hs]), List.drop_append, List.drop_of_length_le (by simp [hs]), List.length_map, hs, hm, List.nil_append, List.drop_append, List.drop_of_length_le (by simp [hr]), List.length_map, hr, List.nil_append]
  simp
end
/-- Many cells put in a row are the row anew. -/
theorem setCells_row (w : World) (g o : Nat) (t : TypeId) (vs : List Value) (cur : Array Value) (hg : w.heap[g]? = some (.cells cur t (0, 0))) (hl : o + vs.length ≤ cur.size) (h1 : ∀ v ∈ vs, v.oneCell' = true) :
    w.setCells g o vs = w.setRow g (cur.toList.take o ++ vs ++ cur.toList.drop (o + vs.length)).toArray := by
  have a := run_storeCells_at Tryd.prog g o t vs 0 cur w hg (by omega) h1
  have b := run_storeCells_cells (P := Tryd.prog) g o vs 0 w (fun j hj => by rw [cell_of_row _ _ _ _ _ _ hg, Array.getElem?_eq_getElem (by omega)]; rfl) (fun j hj => frozen_of_row _ _ _ _ _ hg) h1
  rw [a] at b
  simpa using (Result.ok.inj b).2.symm
/-- A Stream at block g that stands behind o bytes of the stream that begins with the words f. -/
def StAt (w : World) (g : Nat) (f : List Nat) (o : Nat) : Prop :=
  ∃ (m gone : Nat) (bl : List UInt8), gone + 64 * m = o + 64 ∧ 1 ≤ gone ∧ gone ≤ 64 ∧ (1 ≤ m → bl = blockL (numbered f m)) ∧ bl.length = 64 ∧ w.heap[g]? = some (.cells (hcells (numbered f m) bl gone) 49 (0, 0))
theorem StAt.keep {w w' : World} {g : Nat} {f : List Nat} {o : Nat} (h : StAt w g f o) (e : w'.heap[g]? = w.heap[g]?) : StAt w' g f o := by
  obtain ⟨m, gone, bl, h1, h2, h3, h4, h5, h6⟩ := h
  exact ⟨m, gone, bl, h1, h2, h3, h4, h5, e.trans h6⟩
theorem StAt.lt {w : World} {g : Nat} {f : List Nat} {o : Nat} (h : StAt w g f o) : g < w.heap.size := by
  obtain ⟨_, _, _, _, _, _, _, _, h6⟩ := h
  exact lt_of_some h6
set_option maxRecDepth 100000 in
set_option maxHeartbeats 4000000 in
theorem next_any (g : Nat) (f : List Nat) (o : Nat) (w : World) (hf : f.length = 16) (hw : Wd f) (hg : 3 ≤ g) (hS : StAt w g f o) (hL : Laid w) :
    Calls Tryd.prog 21 #[.pointer (some ⟨g, 0, none⟩)] w fun e w' => e = .returned (.int .u8 (((strmAt f o).toNat : Nat) : Int)) ∧ StAt w' g f (o + 1) ∧ Only g w w' := by
  obtain ⟨m, gone, bl, h1, h2, h3, h4, h5, h6⟩ := hS
  have hnl : (numbered f m).length = 16 := by rw [numbered_len, hf]
  have cg : w.cell? ⟨g, 80, none⟩ = some (.int .i64 (gone : Int)) := by rw [cell_of_row _ _ _ _ _ _ h6, st_c hnl h5]
  have fg : w.frozen? ⟨g, 80, none⟩ = false := frozen_of_row _ _ _ _ _ h6
  by_cases h64 : gone = 64
  · subst h64
    obtain rfl : o = 64 * m := by omega
    obtain ⟨x, hx⟩ : ∃ x, (numbered f m).getD 12 0 = x := ⟨_, rfl⟩
    obtain ⟨x', hx'⟩ : ∃ x', addW x 1 = x' := ⟨_, rfl⟩
    have ha := mod_add x 1
    rw [hx'] at ha
    have ha2 : ((x : Int) + 1) % 4294967296 = (x' : Int) := ha
    have c12 : w.cell? ⟨g, 12, none⟩ = some (.int .u32 (x : Int)) := by rw [cell_of_row _ _ _ _ _ _ h6, hcells_s _ (by omega), hx]
    have f12 : w.frozen? ⟨g, 12, none⟩ = false := frozen_of_row _ _ _ _ _ h6
    obtain ⟨W1, hW1⟩ : ∃ W, w.setCell ⟨g, 12, none⟩ (.int .u32 (x' : Int)) = W := ⟨_, rfl⟩
    obtain ⟨N1, hN1⟩ : ∃ N, numbered f (m + 1) = N := ⟨_, rfl⟩
    have hN1l : N1.length = 16 := by rw [← hN1, numbered_len, hf]
    have hN1w : Wd N1 := by rw [← hN1]; exact numbered_wd hw _
    have r1 : W1.drew.heap[g]? = some (.cells (hcells N1 bl 64) 49 (0, 0)) := by
      have h := heap_setCell_same _ _ 12 _ _ (.int .u32 (x' : Int)) h6
      rw [hcells_sset 12 x' (by omega), ← hx', ← hx, numbered_next f m hf, hN1] at h
      rw [← hW1, ← hx', ← hx]; exact h
    have o1 : Only g w W1.drew := by rw [← hW1]; exact ((Only.refl g w).setCell 12 _).drew
    have HC : Hid (Calls Tryd.prog 17 #[.agg (N1.map fun (x : Nat) => Value.int .u32 (x : Int)).toArray] W1.drew fun e w' => e = .returned (.agg (u8v (blockL N1))) ∧ Below W1.drew.heap.size W1.drew w') := block_any N1 W1.drew hN1l hN1w (hL.only hg o1)
    have hra : W1.drew.rangeAt g 0 (N1.map fun (x : Nat) => Value.int .u32 (x : Int)) := fun j v hv => by
      have hj : j < N1.length := by have := (List.getElem?_eq_some_iff.1 hv).1; simpa using this
      rw [Nat.zero_add, cell_of_row _ _ _ _ _ _ r1, hcells_s j hj, ← hv]
      simp [hj]
    have HRA : Hid (W1.drew.rangeAt g 0 (N1.map fun (x : Nat) => Value.int .u32 (x : Int)) ∧ (Tryd.prog.info? 41).map (·.size) = some (N1.map fun (x : Nat) => Value.int .u32 (x : Int)).length) := ⟨hra, by rw [List.length_map, hN1l]; exact info_a16⟩
    have HR1 : Hid (W1.drew.heap[g]? = some (.cells (hcells N1 bl 64) 49 (0, 0)) ∧ Only g w W1.drew) := ⟨r1, o1⟩
    have HBL : Hid (bl.length = 64 ∧ N1.length = 16 ∧ numbered f (m + 1) = N1) := ⟨h5, hN1l, hN1⟩
    obtain ⟨b, hb⟩ : ∃ b, (strmAt f (64 * m)).toNat = b := ⟨_, rfl⟩
    have HBB : Hid (((blockL N1).getD 0 0).toNat = b) := by
      show _ = _
      rw [← hb]
      unfold strmAt
      rw [show 64 * m / 64 = m by omega, show 64 * m % 64 = 0 by omega, hN1]
    rw [hb]
    clear h1 h2 h3 h4 h5 h6 hnl hx hx' ha hN1l hN1w r1 o1 hra hL hb hN1 hf hw
    go_enter Tryd.func21, Tryd.ntmps21
    go_wp2_with fail
    go_region
    go_wp2_with (refine wpList_load_mid rfl 41 _ rfl g 0 rfl (N1.map fun (x : Nat) => Value.int .u32 (x : Int)) _ HRA.out.1 Tryd.underlying41 rfl HRA.out.2 ?_)
    refine HC.out.mono ?_
    rintro e V ⟨rfl, hbV⟩
    have rV : V.heap[g]? = some (.cells (hcells N1 bl 64) 49 (0, 0)) := (hbV.block g (lt_of_some HR1.out.1)).trans HR1.out.1
    have oV : Only g w V := HR1.out.2.below hbV
    have hbs : (u8v (blockL N1)).size = 64 := by rw [u8v_size, blockL_len]
    have hone : ∀ v ∈ (u8v (blockL N1)).toList, v.oneCell' = true := u8v_all _
    have hth : V.there g 16 (u8v (blockL N1)).size := fun j hj => ⟨by rw [cell_of_row _ _ _ _ _ _ rV, Array.getElem?_eq_getElem (by rw [st_size HBL.out.2.1 HBL.out.1]; omega)]; rfl, frozen_of_row _ _ _ _ _ rV⟩
    obtain ⟨W3, hW3⟩ : ∃ W, V.setCells g 16 (u8v (blockL N1)).toList = W := ⟨_, rfl⟩
    have e3 : W3 = V.setRow g (hcells N1 (blockL N1) 64) := by
      rw [← hW3, setCells_row V g 16 49 _ _ rV (by rw [Array.length_toList, hbs, st_size HBL.out.2.1 HBL.out.1]; omega) hone, st_over HBL.out.2.1 HBL.out.1 (blockL N1) (blockL_len N1)]
    have r3 : W3.heap[g]? = some (.cells (hcells N1 (blockL N1) 64) 49 (0, 0)) := by rw [e3]; exact setRow_heap _ _ _ _ _ _ rV
    have o3 : Only g w W3 := by rw [e3]; exact oV.setRow _
    have c3 : W3.cell? ⟨g, 80, none⟩ = some (.int .i64 64) := by rw [cell_of_row _ _ _ _ _ _ r3, st_c HBL.out.2.1 (blockL_len N1)]; rfl
    have f3 : W3.frozen? ⟨g, 80, none⟩ = false := frozen_of_row _ _ _ _ _ r3
    obtain ⟨W4, hW4⟩ : ∃ W, W3.setCell ⟨g, 80, none⟩ (.int .i64 0) = W := ⟨_, rfl⟩
    have r4 : W4.heap[g]? = some (.cells (hcells N1 (blockL N1) 0) 49 (0, 0)) := by
      have h := heap_setCell_same _ _ 80 _ _ (.int .i64 ((0 : Nat) : Int)) r3
      rw [st_cset HBL.out.2.1 (blockL_len N1)] at h
      rw [← hW4]; exact h
    have o4 : Only g w W4 := by rw [← hW4]; exact o3.setCell 80 _
    have c4 : W4.cell? ⟨g, 80, none⟩ = some (.int .i64 0) := by rw [cell_of_row _ _ _ _ _ _ r4, st_c HBL.out.2.1 (blockL_len N1)]; rfl
    have f4 : W4.frozen? ⟨g, 80, none⟩ = false := frozen_of_row _ _ _ _ _ r4
    obtain ⟨W5, hW5⟩ : ∃ W, W4.setCell ⟨g, 80, none⟩ (.int .i64 1) = W := ⟨_, rfl⟩
    have r5 : W5.heap[g]? = some (.cells (hcells N1 (blockL N1) 1) 49 (0, 0)) := by
      have h := heap_setCell_same _ _ 80 _ _ (.int .i64 ((1 : Nat) : Int)) r4
      rw [st_cset HBL.out.2.1 (blockL_len N1)] at h
      rw [← hW5]; exact h
    have o5 : Only g w W5 := by rw [← hW5]; exact o4.setCell 80 _
    have c5 : W5.cell? ⟨g, 80, none⟩ = some (.int .i64 1) := by rw [cell_of_row _ _ _ _ _ _ r5, st_c HBL.out.2.1 (blockL_len N1)]; rfl
    have c6 : W5.cell? ⟨g, 16, none⟩ = some (.int .u8 (b : Int)) := by
      have h := st_b (rest := blockL N1) (n := 1) HBL.out.2.1 0 (by rw [blockL_len]; omega)
      rw [Nat.add_zero, HBB.out] at h
      rw [cell_of_row _ _ _ _ _ _ r5, h]
    have HE : Hid (StAt W5.drew g f (64 * m + 1) ∧ Only g w W5.drew) := ⟨⟨m + 1, 1, blockL N1, by omega, by omega, by omega, fun _ => by rw [HBL.out.2.2], blockL_len N1, by rw [HBL.out.2.2]; exact r5⟩, o5.drew⟩
    have HSM : Hid (V.there g 16 (u8v (blockL N1)).size ∧ (Tryd.prog.info? 43).map (·.size) = some (u8v (blockL N1)).size ∧ (u8v (blockL N1)).all (·.oneCell') = true) := ⟨hth, infoB _ (blockL_len N1), by rw [Array.all_eq_true_iff_forall_mem]; intro v hv; exact u8v_all _ v (by simpa using hv)⟩
    clear hbV rV oV hbs hone hth e3 r3 o3 r4 o4 r5 o5 HC HRA c12 f12 cg fg
    go_wp2_with (refine wpList_store_mid rfl 43 _ _ rfl g 16 (u8v (blockL N1)) rfl rfl HSM.out.1 HSM.out.2.1 HSM.out.2.2 ?_)
    go_region
    go_wp2
    go_ret
    exact ⟨rfl, HE.out⟩
  · have hm1 : 1 ≤ m := by omega
    have hbl := h4 hm1
    subst hbl
    obtain ⟨b, hb⟩ : ∃ b, (strmAt f o).toNat = b := ⟨_, rfl⟩
    have hbb : ((blockL (numbered f m)).getD gone 0).toNat = b := by
      rw [← hb]
      unfold strmAt
      rw [show o / 64 + 1 = m by omega, show o % 64 = gone by omega]
    have kg : ¬ (gone : Int) = 64 := by omega
    have kg2 : ((gone : Int) == 64) = false := by simpa using kg
    obtain ⟨gn, hgn⟩ : ∃ x, gone + 1 = x := ⟨_, rfl⟩
    have kn : (gone : Int) + 1 = (gn : Int) := by omega
    have km : (gn : Int) - 1 = (gone : Int) := by omega
    have lg : (gone : Int) < 64 := by omega
    obtain ⟨W5, hW5⟩ : ∃ W, w.setCell ⟨g, 80, none⟩ (.int .i64 (gn : Int)) = W := ⟨_, rfl⟩
    have r5 : W5.heap[g]? = some (.cells (hcells (numbered f m) (blockL (numbered f m)) gn) 49 (0, 0)) := by
      have h := heap_setCell_same _ _ 80 _ _ (.int .i64 (gn : Int)) h6
      rw [st_cset hnl h5] at h
      rw [← hW5]; exact h
    have o5 : Only g w W5 := by rw [← hW5]; exact (Only.refl g w).setCell 80 _
    have c5 : W5.cell? ⟨g, 80, none⟩ = some (.int .i64 (gn : Int)) := by rw [cell_of_row _ _ _ _ _ _ r5, st_c hnl h5]
    have c6 : W5.cell? ⟨g, 16 + gone, none⟩ = some (.int .u8 (b : Int)) := by
      rw [cell_of_row _ _ _ _ _ _ r5, st_b hnl gone (by omega), hbb]
    have HE : Hid (StAt W5.drew g f (o + 1) ∧ Only g w W5.drew) := ⟨⟨m, gn, blockL (numbered f m), by omega, by omega, by omega, fun _ => rfl, h5, r5⟩, o5.drew⟩
    rw [hb]
    clear h1 h2 h3 h4 h5 h6 hnl hbb r5 o5 hL hb hf hw hm1 h64
    go_enter Tryd.func21, Tryd.ntmps21
    go_wp2_with fail
    go_region
    go_wp2
    go_ret
    exact ⟨rfl, HE.out⟩
end Go.Proofs.YtbflkkffpcaakabDoor
