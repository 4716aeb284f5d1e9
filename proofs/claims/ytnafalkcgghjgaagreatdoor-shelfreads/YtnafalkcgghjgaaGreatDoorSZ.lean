/- Walks over Open, and over Abort. Walks over the statements' opened and lives. A walk over the statements' lives. -/
import Derived.Test.YtnafalkcgghjgaaGreatDoorSW
namespace Go.Proofs.YtnafalkcgghjgaaGreatDoor
open Go.RowKit Go.Shelf
theorem loadG_shape {n : Nat} {P : Nat → ByteArray} (hP : ∀ i, i < n → (P i).size = 1024) : ∀ (f page : Nat) (acc L : List Lf), Ld n P acc → (acc = [] → page = 0) → loadG n P f page acc = some L → Shape n L
  | 0, _, _, _, _, _, h => by simp [loadG] at h
  | f + 1, page, acc, L, hld, h0, h => by
    rw [loadG] at h
    by_cases hp : n ≤ page
    · rw [if_pos hp] at h; cases h
    · rw [if_neg hp] at h
      cases he : parseP (P page) with
      | none => rw [he] at h; cases h
      | some es =>
        rw [he] at h
        simp only at h
        by_cases hf : follow acc ⟨(page : Int), es⟩ = true
        · rw [if_pos hf] at h
          have hs := hld.step hP h0 (by omega) he hf
          by_cases hn : nextP (P page) = 0
          · rw [if_pos hn] at h
            cases h
            exact hs.shape (by simp)
          · rw [if_neg hn] at h
            exact loadG_shape hP f _ _ L hs (fun e => by simp at e) h
        · rw [if_neg hf] at h; cases h
theorem loadF_shape {n : Nat} {P : Nat → ByteArray} (hP : ∀ i, i < n → (P i).size = 1024) {L : List Lf} (h : loadF n P = some L) : Shape n L := loadG_shape hP _ _ _ L (Ld.nil n P) (fun _ => rfl) h
/-- A store: a disk, and a journal over it. -/
structure Sto (h0 : Nat) (F : Nat → Prop) (w : World) (S : Nat → Prop) (g : Nat) (D : Dk) (jb n : Nat) : Prop where
  disk : DiskIs w S g D
  jat : Jat w jb g n
  sj : ¬ S jb
  fF : ∀ x, F x → ¬ S x ∧ x ≠ jb ∧ x < w.heap.size
  h0S : ∀ x, S x → h0 ≤ x
  h0w : h0 ≤ w.heap.size
theorem Tab.sto {h0 : Nat} {F : Nat → Prop} {w : World} {S : Nat → Prop} {g : Nat} {D : Dk} {sb jb n : Nat} {L K : List Mf} (h : Tab h0 F w S g D sb jb n L K) : Sto h0 F w S g D jb n := ⟨h.disk, h.jat, h.sj, fun x hx => ⟨(h.fF x hx).1, (h.fF x hx).2.2.1, (h.fF x hx).2.2.2⟩, h.h0S, h.h0w⟩
theorem Sto.below {h0 : Nat} {F : Nat → Prop} {w w' : World} {S : Nat → Prop} {g : Nat} {D : Dk} {jb n : Nat} (h : Sto h0 F w S g D jb n) (hb : Below w.heap.size w w') : Sto h0 (mor F w w') w' S g D jb n := by
  refine ⟨h.disk.below hb, h.jat.below hb, h.sj, fun x hx => ?_, h.h0S, Nat.le_trans h.h0w hb.size⟩
  rcases hx with hx | ⟨hx, hl⟩
  · have := h.fF x hx
    exact ⟨this.1, this.2.1, Nat.lt_of_lt_of_le this.2.2 hb.size⟩
  · refine ⟨fun hs => ?_, fun e => ?_, hl⟩
    · have := h.disk.bd x hs; omega
    · have := h.jat.lt; omega
theorem pages_nil (w : World) : Calls Tryz.prog 43 #[.pointer none] w fun e w' => e = .returned (.int .i64 0) ∧ w' = w := by
  go_enter Tryz.func43, Tryz.ntmps43
  go_wp2
  go_ret
  exact ⟨rfl, rfl⟩
set_option maxHeartbeats 1000000 in
theorem sopen_nil (w : World) : Calls Tryz.prog 22 #[.pointer none] w fun e w' => e = .returned (.tuple #[.pointer none, .int .i64 1]) ∧ w' = w := by
  have H := pages_nil w
  go_enter Tryz.func22, Tryz.ntmps22
  go_wp2_with fail
  refine H.mono ?_
  rintro e V ⟨rfl, hV⟩
  subst V
  go_wp2
  go_ret2
  exact ⟨rfl, rfl⟩
set_option maxHeartbeats 1000000 in
theorem sopen_one {w : World} {jb g : Nat} (hj : Jat w jb g 1) : Calls Tryz.prog 22 #[.pointer (some ⟨jb, 0, none⟩)] w fun e w' => e = .returned (.tuple #[.pointer none, .int .i64 1]) ∧ w' = w := by
  have H := pages_any hj
  go_enter Tryz.func22, Tryz.ntmps22
  go_wp2_with fail
  refine H.mono ?_
  rintro e V ⟨rfl, hV⟩
  subst V
  go_wp2
  go_ret2
  exact ⟨rfl, rfl⟩
/-- What Open leaves. -/
def OpenTo (h0 : Nat) (F : Nat → Prop) (w : World) (S : Nat → Prop) (g : Nat) (D : Dk) (jb n : Nat) (e : Ending) (w' : World) : Prop :=
  (∃ F' sb L, e = .returned (.tuple #[.pointer (some ⟨sb, 0, none⟩), .int .i64 0]) ∧ loadF n (pagesF n D) = some (lfs L) ∧ Tab h0 F' w' S g D sb jb n L L ∧ Fr F w F' w' ∧ Below w.heap.size w w') ∨ (e = .returned (.tuple #[.pointer none, .int .i64 4]) ∧ loadF n (pagesF n D) = none ∧ Below w.heap.size w w')
set_option maxRecDepth 100000 in
set_option maxHeartbeats 2000000 in
theorem sopen_any {h0 : Nat} {F : Nat → Prop} {w : World} {S : Nat → Prop} {g : Nat} {D : Dk} {jb n : Nat} (h : Sto h0 F w S g D jb n) (hn2 : 2 ≤ n) (hn : n ≤ 12) (hkn : 8 * n + 1 ≤ D.kept.length) (hu : D.up = true) (hsz : ∀ s ∈ D.seen, s.size = 256) :
    Calls Tryz.prog 22 #[.pointer (some ⟨jb, 0, none⟩)] w fun e w' => OpenTo h0 F w S g D jb n e w' := by
  have HPG := pages_any h.jat
  have HLO := load_tab (G := fun x => F x ∨ w.heap.size ≤ x) (fun x hx => .inr hx) h.disk h.jat (by omega) (by omega) hkn hu hsz
  have HSH : Hid (∀ L, loadF n (pagesF n D) = some L → Shape n L) := fun L hL => loadF_shape (fun i hi => pagesF_size hkn hsz i hi) hL
  obtain ⟨R, hR⟩ : ∃ R, loadF n (pagesF n D) = R := ⟨_, rfl⟩
  rw [hR] at HLO HSH
  have HR : Hid (loadF n (pagesF n D) = R) := hR
  have HT : Hid (Sto h0 F w S g D jb n) := h
  have k2 : ¬ (n : Int) < 2 := by omega
  clear h hkn hu hsz hR
  go_enter Tryz.func22, Tryz.ntmps22
  go_wp2_with (go_at_call 43; refine HPG.mono ?_; rintro e W9 ⟨rfl, hW9⟩; subst W9)
  refine HLO.mono ?_
  rintro e V ⟨hl, hV⟩
  rcases hl with ⟨la, ln, lc, L, hRL, hln, rfl, hLw⟩ | ⟨hRn, rfl⟩
  · obtain ⟨V1, hV1⟩ : ∃ V1, V.alloc (.cells #[.pointer (some ⟨jb, 0, none⟩), .slice la ln lc, .slice la ln lc] 88) = V1 := ⟨_, rfl⟩
    have hB1 : Below V.heap.size V V1 := by rw [← hV1]; exact (Below.refl _ V).alloc (Nat.le_refl _) _
    have r1 : V1.heap[V.heap.size]? = some (.cells #[.pointer (some ⟨jb, 0, none⟩), .slice la ln lc, .slice la ln lc] 88 (0, 0)) := by rw [← hV1]; exact heap_alloc_new V _
    have hsh := HSH.out (lfs L) hRL
    have hSV := HT.out.below hV
    have hfr : Fr F w (mor F w V) V1 := (Fr.below hV).trans ⟨hB1.size, fun _ h => h, fun x _ hl => hB1.block x hl⟩
    have hLF : Lw (mor F w V) V1 la ln lc L := by
      refine Lw.fr (F := mor F w V) (hLw.mono fun x hx hl => ?_) ⟨hB1.size, fun _ h => h, fun x _ hl => hB1.block x hl⟩
      rcases hx with hx | hx
      · exact .inl hx
      · exact .inr ⟨hx, hl⟩
    have hE : Tab h0 (mor F w V) V1 S g D V.heap.size jb n L L := by
      refine { disk := hSV.disk.below hB1, jat := hSV.jat.below hB1, sat := ⟨la, lc, la, lc, by unfold Sat; rw [hln]; exact r1, by rw [hln]; exact hLF, by rw [hln]; exact hLF⟩, shL := hsh, shK := hsh, n2 := hn2, n12 := hn, sj := hSV.sj, ss := fun hs => by have := hSV.disk.bd _ hs; omega, sbj := fun e => by have := hSV.jat.lt; omega, fF := fun x hx => ?_, h0s := Nat.le_trans HT.out.h0w hV.size, h0S := hSV.h0S, h0w := Nat.le_trans hSV.h0w hB1.size }
      have := hSV.fF x hx
      exact ⟨this.1, by omega, this.2.1, Nat.lt_of_lt_of_le this.2.2 hB1.size⟩
    have HE : Hid (Tab h0 (mor F w V) V1 S g D V.heap.size jb n L L ∧ Fr F w (mor F w V) V1 ∧ Below w.heap.size w V1 ∧ R = some (lfs L)) := ⟨hE, hfr, hV.trans (hB1.mono hV.size), hRL⟩
    clear HLO hRL hLw hB1 r1 hsh hSV hfr hLF hE hV hln
    go_wp2
    go_ret2
    exact .inl ⟨_, _, L, rfl, by rw [HR.out]; exact HE.out.2.2.2, HE.out.1, HE.out.2.1, HE.out.2.2.1⟩
  · have HE : Hid (Below w.heap.size w V ∧ R = none) := ⟨hV, hRn⟩
    clear HLO hV hRn
    go_wp2
    go_ret2
    exact .inr ⟨rfl, by rw [HR.out]; exact HE.out.2, HE.out.1⟩
end Go.Proofs.YtnafalkcgghjgaaGreatDoor
namespace Go.Proofs.YtnafalkcgghjgaaGreatDoor
open Go.RowKit Go.Shelf
theorem new_at (m a : Nat) (ha : a < m) : at_ (Dk.new m nought).kept a = nought := by
  unfold at_ Dk.new
  simp only
  rw [List.getD_eq_getElem?_getD, List.getElem?_replicate, if_pos ha]
  rfl
theorem pages_new (n : Nat) (hn : 1 ≤ n) : pagesF n (Dk.new (8 * n + 1) nought) 0 = bytesOf (List.replicate 1024 0) := by
  have e : (Dk.new (8 * n + 1) nought).seen = (Dk.new (8 * n + 1) nought).kept := rfl
  unfold pagesF pageAt
  rw [e, new_at _ _ (by omega), new_at _ _ (by omega), new_at _ _ (by omega), new_at _ _ (by omega)]
  unfold nought
  rw [strOf_app, strOf_app, strOf_app, List.replicate_append_replicate, List.replicate_append_replicate, List.replicate_append_replicate]
  rfl
theorem load_new (n : Nat) (hn : 1 ≤ n) (hn2 : n ≤ 128) : loadF n (pagesF n (Dk.new (8 * n + 1) nought)) = some [⟨0, []⟩] := loadF_enc hn2 (shape_empty hn) (enc_empty (pages_new n hn))
theorem lfs_inj_flat {L : List Mf} (h : some (lfs L) = some [(⟨0, []⟩ : Lf)]) : flat (lfs L) = [] := by
  rw [Option.some.inj h]; rfl
/-- A new store, and its table. -/
def Opened (n : Nat) (w : World) (e : Ending) (w' : World) : Prop := ∃ g jb sb F S L, e = .returned (.tuple #[.pointer (some ⟨g, 0, none⟩), .pointer (some ⟨jb, 0, none⟩), .pointer (some ⟨sb, 0, none⟩)]) ∧ Tab w.heap.size F w' S g (Dk.new (8 * n + 1) nought) sb jb n L L ∧ lfs L = [⟨0, []⟩] ∧ w.heap.size ≤ jb ∧ Below w.heap.size w w'
set_option maxHeartbeats 1000000 in
theorem opened_none (x : Int) (w : World) (hx : x < 2 ∨ 12 < x) : Calls Tryz.prog 8 #[.int .i64 x] w fun e w' => e = .returned (.tuple #[.pointer none, .pointer none, .pointer none]) ∧ w' = w := by
  by_cases h : x < 2
  · go_enter Tryz.func8, Tryz.ntmps8
    go_wp2
    refine bodyPost_ret (v := .tuple #[.pointer none, .pointer none, .pointer none]) ?_ rfl ⟨rfl, rfl⟩
    simp [results, go_sem]
  · have h2 : (12 : Int) < x := by omega
    go_enter Tryz.func8, Tryz.ntmps8
    go_wp2
    refine bodyPost_ret (v := .tuple #[.pointer none, .pointer none, .pointer none]) ?_ rfl ⟨rfl, rfl⟩
    simp [results, go_sem]
set_option maxRecDepth 100000 in
set_option maxHeartbeats 2000000 in
theorem opened_any (n : Nat) (hn2 : 2 ≤ n) (hn : n ≤ 12) (w : World) : Calls Tryz.prog 8 #[.int .i64 (n : Int)] w fun e w' => Opened n w e w' := by
  have HNW := new_any (8 * n + 1) w (by omega) (by omega)
  have k2 : ¬ (n : Int) < 2 := by omega
  have k12 : ¬ (12 : Int) < (n : Int) := by omega
  have knd : 8 * (n : Int) + 1 = ((8 * n + 1 : Nat) : Int) := by omega
  rw [← knd] at HNW
  clear knd
  go_enter Tryz.func8, Tryz.ntmps8
  go_wp2_with fail
  refine HNW.mono ?_
  rintro e w1 ⟨g, rfl, hd1, hb1⟩
  have hg : Good n (Dk.new (8 * n + 1) nought) := Good.new n
  obtain ⟨D, hD⟩ : ∃ D, Dk.new (8 * n + 1) nought = D := ⟨_, rfl⟩
  have hload := load_new n (by omega) (by omega)
  have hw0 : D.writes = 0 := by rw [← hD]; rfl
  rw [hD] at hd1 hg hload
  have HO := open_any (n := n) hd1 (by omega) (by omega) (by rw [hg.ln]; omega) hg.up hg.wt hg.sz.k (by omega)
  rw [rec_tidy hg.td] at HO
  have HO : Calls Tryz.prog 31 #[.pointer (some ⟨g, 0, none⟩), .int .i64 (n : Int)] w1 fun e w' => e = .returned (.tuple #[.pointer (some ⟨w1.heap.size, 0, none⟩), .int .i64 0]) ∧ Jat w' w1.heap.size g n ∧ ∃ S', DiskIs w' S' g D ∧ Upd (fresh w w1) w1 w' ∧ (∀ x, S' x → fresh w w1 x ∨ w1.heap.size ≤ x) ∧ ¬ S' w1.heap.size := HO
  have HD : Hid (Dk.new (8 * n + 1) nought = D ∧ loadF n (pagesF n D) = some [⟨0, []⟩] ∧ Good n D ∧ Below w.heap.size w w1) := ⟨hD, hload, hg, hb1⟩
  clear HNW hD hload hg hd1 hb1 hw0
  go_wp2_with fail
  refine HO.mono ?_
  rintro e w2 ⟨rfl, hj2, S2, hd2, hu2, hs2, hnj2⟩
  obtain ⟨jb, hjb⟩ : ∃ jb, w1.heap.size = jb := ⟨_, rfl⟩
  rw [hjb] at hj2 hnj2
  have hb2 : Below w.heap.size w w2 := HD.out.2.2.2.trans (hu2.below HD.out.2.2.2.size (fun k hk => hk.1))
  have hsto : Sto w.heap.size (fun _ => False) w2 S2 g D jb n := ⟨hd2, hj2, hnj2, fun x hx => hx.elim, fun x hx => (hs2 x hx).elim (fun h => h.1) (fun h => Nat.le_trans HD.out.2.2.2.size h), hb2.size⟩
  have HSO := sopen_any hsto hn2 hn (by rw [HD.out.2.2.1.ln]; omega) HD.out.2.2.1.up (by rw [HD.out.2.2.1.seen]; exact HD.out.2.2.1.sz.k)
  have HJB : Hid (w.heap.size ≤ jb) := by show _ ≤ _; rw [← hjb]; exact HD.out.2.2.2.size
  have HB2 : Hid (Below w.heap.size w w2) := hb2
  clear HO hj2 hd2 hu2 hs2 hnj2 hsto hb2
  go_wp2_with fail
  refine HSO.mono ?_
  rintro e w3 (⟨F', sb, L, rfl, hl, ht, hf, hb⟩ | ⟨rfl, hl, hb⟩)
  · have HE : Hid (Tab w.heap.size F' w3 S2 g D sb jb n L L ∧ lfs L = [⟨0, []⟩] ∧ Below w.heap.size w w3) := ⟨ht, by rw [HD.out.2.1] at hl; exact (Option.some.inj hl).symm, HB2.out.trans (hb.mono HB2.out.size)⟩
    clear HSO hl ht hf hb
    go_wp2
    refine bodyPost_ret (v := .tuple #[.pointer (some ⟨g, 0, none⟩), .pointer (some ⟨jb, 0, none⟩), .pointer (some ⟨sb, 0, none⟩)]) ?_ rfl ⟨g, jb, sb, F', S2, L, rfl, by rw [HD.out.1]; exact HE.out.1, HE.out.2.1, HJB.out, HE.out.2.2⟩
    simp [results, go_sem]
  · rw [HD.out.2.1] at hl; cases hl
theorem eq_pair (a b c d : ByteArray) (w : World) : (binOp .eql 63 (.agg #[.string a, .string b]) (.agg #[.string c, .string d])).run Tryz.prog w = .ok (.bool (decide (a = c ∧ b = d))) w := by
  have u9 := Tryz.underlying9
  have a9 := Tryz.isAgg9
  have z9 := Tryz.sizeOf9
  have hS : Tryz.prog.underlying 63 = some (.struct (Tryz.prog.fieldsOf 63)) := by kernel_rfl
  have hp : Tryz.prog.stoodInHeld 63 = false := by kernel_rfl
  rw [run_eql_struct, show (10000 : Nat) = 9999 + 1 from rfl, run_equalIn_agg w 9999 63 _ _ hS hp]
  simp only [Program.fieldsOf, Tryz.underlying63]
  go_simp
  by_cases h1 : a = c
  · subst h1
    by_cases h2 : b = d
    · subst h2; simp
    · have := str_ne h2
      simp [h2, this]
  · have := str_ne h1
    simp [h1, this]
end Go.Proofs.YtnafalkcgghjgaaGreatDoor
namespace Go.Proofs.YtnafalkcgghjgaaGreatDoor
open Go.RowKit Go.Shelf
def sA : ByteArray := ⟨#[97]⟩
def sB : ByteArray := ⟨#[98]⟩
def sX : ByteArray := ⟨#[120]⟩
def sY : ByteArray := ⟨#[121]⟩
theorem sl_one (x y : UInt8) : sl ⟨#[x]⟩ ⟨#[y]⟩ = decide (x < y) := by
  unfold sl
  rw [ByteArray.toList_eq, ByteArray.toList_eq]
  simp [Op.bytesLess]
theorem slAA : sl sA sA = false := sl_irr _
theorem slAB : sl sA sB = true := by unfold sA sB; rw [sl_one]; decide
theorem slBA : sl sB sA = false := sl_asym slAB
theorem slBB : sl sB sB = false := sl_irr _
theorem put1 : putT [] sA sX = [(sA, sX)] := rfl
theorem put2 : putT [(sA, sX)] sB sY = [(sA, sX), (sB, sY)] := by
  unfold putT restT isT lowT highT
  simp [slAB, hasK]
theorem range2 : rangeT [(sA, sX), (sB, sY)] sA sB 1 = [(sA, sX)] := by
  unfold rangeT
  simp [slAA, slBA, slBB]
theorem sz1 : szL [(sA, sX)] = 5 := rfl
theorem sz2 : szL [(sA, sX), (sB, sY)] = 10 := rfl
theorem mayA : May (sA, sX) := by unfold May sA sX; decide
theorem mayB : May (sB, sY) := by unfold May sB sY; decide
set_option maxRecDepth 100000 in
set_option maxHeartbeats 4000000 in
theorem lives_any (w : World) : Calls Tryz.prog 9 #[] w fun e w' => e = .returned (.bool true) ∧ Below w.heap.size w w' := by
  have HO := opened_any 3 (by omega) (by omega) w
  go_enter Tryz.func9, Tryz.ntmps9
  go_wp2_with fail
  refine HO.mono ?_
  rintro e w1 ⟨g, jb, sb, F, S, L, rfl, ht, hl, hj, hb⟩
  have HB1 : Hid (Below w.heap.size w w1) := hb
  have HP1 := put_any ht sA sX mayA
  unfold PutTo at HP1
  rw [hl, show flat [(⟨0, []⟩ : Lf)] = [] from rfl, show sA = (⟨#[97]⟩ : ByteArray) from rfl, show sX = (⟨#[120]⟩ : ByteArray) from rfl] at HP1
  have hw1 : w.heap.size ≤ w1.heap.size := hb.size
  clear HO ht hl hb
  go_wp2_with fail
  refine HP1.mono ?_
  rintro e w2 ⟨F2, L2, ht2, hf2, hb2, hres⟩
  have hok : e = .returned (.int .i64 0) ∧ flat (lfs L2) = [(sA, sX)] := by
    rcases hres with h | ⟨_, _, hlt⟩
    · exact h
    · exfalso
      have h6 : 510 * (3 - 2) < szL [(sA, sX)] := hlt
      rw [sz1] at h6
      omega
  obtain ⟨rfl, hfl⟩ := hok
  have hfl2 : flat (lfs L2) = [(sA, sX)] := hfl
  have HP2 := put_any ht2 sB sY mayB
  unfold PutTo at HP2
  rw [hfl2, put2, show sB = (⟨#[98]⟩ : ByteArray) from rfl, show sY = (⟨#[121]⟩ : ByteArray) from rfl] at HP2
  have HB2 : Hid (Below w.heap.size w w2) := HB1.out.trans hb2
  clear HP1 ht2 hf2 hb2 hfl hfl2 hres
  go_wp2_with fail
  refine HP2.mono ?_
  rintro e w3 ⟨F3, L3, ht3, hf3, hb3, hres⟩
  have hok : e = .returned (.int .i64 0) ∧ flat (lfs L3) = [(sA, sX), (sB, sY)] := by
    rcases hres with h | ⟨_, _, hlt⟩
    · exact h
    · exfalso
      have h6 : 510 * (3 - 2) < szL [(sA, sX), (sB, sY)] := hlt
      rw [sz2] at h6
      omega
  obtain ⟨rfl, hfl⟩ := hok
  have hfl3 : flat (lfs L3) = [(sA, sX), (sB, sY)] := hfl
  have HR := range_any ht3 sA sB 1
  rw [hfl3, range2, show sA = (⟨#[97]⟩ : ByteArray) from rfl, show sB = (⟨#[98]⟩ : ByteArray) from rfl, show sX = (⟨#[120]⟩ : ByteArray) from rfl] at HR
  have HT3 : Hid (Tab w.heap.size F3 w3 S g (Dk.new (8 * 3 + 1) nought) sb jb 3 L3 L) := ht3
  have HF3 : Hid (flat (lfs L3) = [(sA, sX), (sB, sY)]) := hfl3
  have HB3 : Hid (Below w.heap.size w w3) := HB2.out.trans hb3
  clear HP2 ht3 hf3 hb3 hfl hfl3 hres
  go_wp2_with fail
  refine HR.mono ?_
  rintro e w4 ⟨ra, rn, rc, rfl, hown, hb4⟩
  have hrn : rn = 1 := by
    have := hown.1
    unfold prV at this
    rw [fm_len prC_len] at this
    simp at this
    omega
  subst hrn
  obtain ⟨gr, cr, er, _, _⟩ := hown.form (by omega)
  cases er
  have c0 : w4.cell? ⟨gr, 0, none⟩ = some (.string ⟨#[97]⟩) := own_at hown rfl
  have c1 : w4.cell? ⟨gr, 1, none⟩ = some (.string ⟨#[120]⟩) := own_at hown rfl
  have HT4 := HT3.out.below hb4
  have HLN := len_any HT4
  rw [HF3.out] at HLN
  have HLN : Calls Tryz.prog 23 #[.pointer (some ⟨sb, 0, none⟩)] w4 fun e w' => e = .returned (.int .i64 2) ∧ Below w4.heap.size w4 w' := HLN
  have hep := eq_pair ⟨#[97]⟩ ⟨#[120]⟩ ⟨#[97]⟩ ⟨#[120]⟩
  rw [decide_eq_true ⟨rfl, rfl⟩] at hep
  have HB4 : Hid (Below w.heap.size w w4) := HB3.out.trans (hb4.mono HB3.out.size)
  have HTT : Hid (Tab w.heap.size (mor F3 w3 w4) w4 S g (Dk.new (8 * 3 + 1) nought) sb jb 3 L3 L) := HT4
  clear HR hown hb4 HT4
  go_wp2_with fail
  refine HLN.mono ?_
  rintro e w5 ⟨rfl, hb5⟩
  have HSZ := size_any' (HTT.out.below hb5)
  rw [HF3.out] at HSZ
  have HSZ : Calls Tryz.prog 24 #[.pointer (some ⟨sb, 0, none⟩)] w5 fun e w' => e = .returned (.int .i64 10) ∧ Below w5.heap.size w5 w' := HSZ
  have HB5 : Hid (Below w.heap.size w w5) := HB4.out.trans (hb5.mono HB4.out.size)
  clear HLN hb5
  go_wp2_with fail
  refine HSZ.mono ?_
  rintro e w6 ⟨rfl, hb6⟩
  have HB6 : Hid (Below w.heap.size w w6) := HB5.out.trans (hb6.mono HB5.out.size)
  clear HSZ hb6
  go_wp2
  go_ret
  exact ⟨rfl, HB6.out⟩
theorem lives_h {w0 w : World} (h : Below w0.heap.size w0 w) : Calls Tryz.prog 9 #[] w fun e w' => e = .returned (.bool true) ∧ Below w0.heap.size w0 w' := by
  refine (lives_any w).mono ?_
  rintro e w' ⟨rfl, hb⟩
  exact ⟨rfl, h.trans (hb.mono h.size)⟩
end Go.Proofs.YtnafalkcgghjgaaGreatDoor
