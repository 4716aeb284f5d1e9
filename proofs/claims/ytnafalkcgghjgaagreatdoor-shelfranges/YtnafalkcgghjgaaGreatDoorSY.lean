/- Walks over the statements' opened and lives. -/
import Derived.Test.YtnafalkcgghjgaaGreatDoorSX
namespace Go.Proofs.YtnafalkcgghjgaaGreatDoor
open Go.RowKit Go.Shelf
theorem new_at (m a : Nat) (ha : a < m) : at_ (Dk.new m nought).kept a = nought := by
  unfold at_ Dk.new
  simp only
  rw [List.getD_eq_getElem?_getD, List.getElem?_replicate, if_pos ha]
  rfl
theorem pages_new (n : Nat) (hn : 1 ≤ n) : pagesF n (Dk.new (8 * n + 1) nought) 0 = bytesOf (List.replicate 1024 0) := by
  have e : (Dk.new (8 * n + 1) nought).seen = (Dk.new (8 * n + 1) nought).kept := rfl
  unfold pagesF pageAt
  rw [e, new_at _ _ (by omega), new_at _ _ (by omega), new_at _ _ (by omega), new_at _ _ (by omega)]
  unfold nought
  rw [strOf_app, strOf_app, strOf_app, List.replicate_append_replicate, List.replicate_append_replicate, List.replicate_append_replicate]
  rfl
theorem load_new (n : Nat) (hn : 1 ≤ n) (hn2 : n ≤ 128) : loadF n (pagesF n (Dk.new (8 * n + 1) nought)) = some [⟨0, []⟩] := loadF_enc hn2 (shape_empty hn) (enc_empty (pages_new n hn))
theorem lfs_inj_flat {L : List Mf} (h : some (lfs L) = some [(⟨0, []⟩ : Lf)]) : flat (lfs L) = [] := by
  rw [Option.some.inj h]; rfl
/-- A new store, and its table. -/
def Opened (n : Nat) (w : World) (e : Ending) (w' : World) : Prop := ∃ g jb sb F S L, e = .returned (.tuple #[.pointer (some ⟨g, 0, none⟩), .pointer (some ⟨jb, 0, none⟩), .pointer (some ⟨sb, 0, none⟩)]) ∧ Tab w.heap.size F w' S g (Dk.new (8 * n + 1) nought) sb jb n L L ∧ lfs L = [⟨0, []⟩] ∧ w.heap.size ≤ jb ∧ Below w.heap.size w w'
set_option maxHeartbeats 1000000 in
theorem opened_none (x : Int) (w : World) (hx : x < 2 ∨ 12 < x) : Calls Tryz.prog 8 #[.int .i64 x] w fun e w' => e = .returned (.tuple #[.pointer none, .pointer none, .pointer none]) ∧ w' = w := by
  by_cases h : x < 2
  · go_enter Tryz.func8, Tryz.ntmps8
    go_wp2
    refine bodyPost_ret (v := .tuple #[.pointer none, .pointer none, .pointer none]) ?_ rfl ⟨rfl, rfl⟩
    simp [results, go_sem]
  · have h2 : (12 : Int) < x := by omega
    go_enter Tryz.func8, Tryz.ntmps8
    go_wp2
    refine bodyPost_ret (v := .tuple #[.pointer none, .pointer none, .pointer none]) ?_ rfl ⟨rfl, rfl⟩
    simp [results, go_sem]
set_option maxRecDepth 100000 in
set_option maxHeartbeats 2000000 in
theorem opened_any (n : Nat) (hn2 : 2 ≤ n) (hn : n ≤ 12) (w : World) : Calls Tryz.prog 8 #[.int .i64 (n : Int)] w fun e w' => Opened n w e w' := by
  have HNW := new_any (8 * n + 1) w (by omega) (by omega)
  have k2 : ¬ (n : Int) < 2 := by omega
  have k12 : ¬ (12 : Int) < (n : Int) := by omega
  have knd : 8 * (n : Int) + 1 = ((8 * n + 1 : Nat) : Int) := by omega
  rw [← knd] at HNW
  clear knd
  go_enter Tryz.func8, Tryz.ntmps8
  go_wp2_with fail
  refine HNW.mono ?_
  rintro e w1 ⟨g, rfl, hd1, hb1⟩
  have hg : Good n (Dk.new (8 * n + 1) nought) := Good.new n
  obtain ⟨D, hD⟩ : ∃ D, Dk.new (8 * n + 1) nought = D := ⟨_, rfl⟩
  have hload := load_new n (by omega) (by omega)
  have hw0 : D.writes = 0 := by rw [← hD]; rfl
  rw [hD] at hd1 hg hload
  have HO := open_any (n := n) hd1 (by omega) (by omega) (by rw [hg.ln]; omega) hg.up hg.wt hg.sz.k (by omega)
  rw [rec_tidy hg.td] at HO
  have HO : Calls Tryz.prog 31 #[.pointer (some ⟨g, 0, none⟩), .int .i64 (n : Int)] w1 fun e w' => e = .returned (.tuple #[.pointer (some ⟨w1.heap.size, 0, none⟩), .int .i64 0]) ∧ Jat w' w1.heap.size g n ∧ ∃ S', DiskIs w' S' g D ∧ Upd (fresh w w1) w1 w' ∧ (∀ x, S' x → fresh w w1 x ∨ w1.heap.size ≤ x) ∧ ¬ S' w1.heap.size := HO
  have HD : Hid (Dk.new (8 * n + 1) nought = D ∧ loadF n (pagesF n D) = some [⟨0, []⟩] ∧ Good n D ∧ Below w.heap.size w w1) := ⟨hD, hload, hg, hb1⟩
  clear HNW hD hload hg hd1 hb1 hw0
  go_wp2_with fail
  refine HO.mono ?_
  rintro e w2 ⟨rfl, hj2, S2, hd2, hu2, hs2, hnj2⟩
  obtain ⟨jb, hjb⟩ : ∃ jb, w1.heap.size = jb := ⟨_, rfl⟩
  rw [hjb] at hj2 hnj2
  have hb2 : Below w.heap.size w w2 := HD.out.2.2.2.trans (hu2.below HD.out.2.2.2.size (fun k hk => hk.1))
  have hsto : Sto w.heap.size (fun _ => False) w2 S2 g D jb n := ⟨hd2, hj2, hnj2, fun x hx => hx.elim, fun x hx => (hs2 x hx).elim (fun h => h.1) (fun h => Nat.le_trans HD.out.2.2.2.size h), hb2.size⟩
  have HSO := sopen_any hsto hn2 hn (by rw [HD.out.2.2.1.ln]; omega) HD.out.2.2.1.up (by rw [HD.out.2.2.1.seen]; exact HD.out.2.2.1.sz.k)
  have HJB : Hid (w.heap.size ≤ jb) := by show _ ≤ _; rw [← hjb]; exact HD.out.2.2.2.size
  have HB2 : Hid (Below w.heap.size w w2) := hb2
  clear HO hj2 hd2 hu2 hs2 hnj2 hsto hb2
  go_wp2_with fail
  refine HSO.mono ?_
  rintro e w3 (⟨F', sb, L, rfl, hl, ht, hf, hb⟩ | ⟨rfl, hl, hb⟩)
  · have HE : Hid (Tab w.heap.size F' w3 S2 g D sb jb n L L ∧ lfs L = [⟨0, []⟩] ∧ Below w.heap.size w w3) := ⟨ht, by rw [HD.out.2.1] at hl; exact (Option.some.inj hl).symm, HB2.out.trans (hb.mono HB2.out.size)⟩
    clear HSO hl ht hf hb
    go_wp2
    refine bodyPost_ret (v := .tuple #[.pointer (some ⟨g, 0, none⟩), .pointer (some ⟨jb, 0, none⟩), .pointer (some ⟨sb, 0, none⟩)]) ?_ rfl ⟨g, jb, sb, F', S2, L, rfl, by rw [HD.out.1]; exact HE.out.1, HE.out.2.1, HJB.out, HE.out.2.2⟩
    simp [results, go_sem]
  · rw [HD.out.2.1] at hl; cases hl
theorem eq_pair (a b c d : ByteArray) (w : World) : (binOp .eql 63 (.agg #[.string a, .string b]) (.agg #[.string c, .string d])).run Tryz.prog w = .ok (.bool (decide (a = c ∧ b = d))) w := by
  have u9 := Tryz.underlying9
  have a9 := Tryz.isAgg9
  have z9 := Tryz.sizeOf9
  have hS : Tryz.prog.underlying 63 = some (.struct (Tryz.prog.fieldsOf 63)) := by kernel_rfl
  have hp : Tryz.prog.stoodInHeld 63 = false := by kernel_rfl
  rw [run_eql_struct, show (10000 : Nat) = 9999 + 1 from rfl, run_equalIn_agg w 9999 63 _ _ hS hp]
  simp only [Program.fieldsOf, Tryz.underlying63]
  go_simp
  by_cases h1 : a = c
  · subst h1
    by_cases h2 : b = d
    · subst h2; simp
    · have := str_ne h2
      simp [h2, this]
  · have := str_ne h1
    simp [h1, this]
end Go.Proofs.YtnafalkcgghjgaaGreatDoor
