/- A table beside the document's, as ShelfPlays has them: each kind of step. -/
import Derived.Test.YtnafalkcgghjgaaGreatDoorTG
namespace Go.Proofs.YtnafalkcgghjgaaGreatDoor
open Go.RowKit Go.Shelf
/-- A table T, a row A that is held beside it, what was good last, and its row. -/
def Pl (w0 V : World) (g jb n sb i : Nat) (T : List Pr) (a : Option Addr) (la ca : Nat) (A : List Pr) (b : Option Addr) (lb cb : Nat) (G : List Pr) : Prop :=
  ∃ F S D L K, Tab w0.heap.size F V S g D sb jb n L K ∧ flat (lfs L) = T ∧ flat (lfs K) = G ∧ Pw F V a la ca A ∧ Pw F V b lb cb G ∧ Good n D ∧ Enc (pagesF n D) (lfs K) ∧ D.writes ≤ 100 * i ∧ Below w0.heap.size w0 V
section
variable {w0 V : World} {g jb n sb i : Nat} {T : List Pr} {a : Option Addr} {la ca : Nat} {A : List Pr} {b : Option Addr} {lb cb : Nat} {G : List Pr}
theorem Pl.below (h : Pl w0 V g jb n sb i T a la ca A b lb cb G) {V' : World} (hb : Below V.heap.size V V') : Pl w0 V' g jb n sb i T a la ca A b lb cb G := by
  obtain ⟨F, S, D, L, K, ht, h1, h2, h3, h4, h5, h6, h7, h0⟩ := h
  exact ⟨_, S, D, L, K, ht.below hb, h1, h2, h3.fr (Fr.below hb), h4.fr (Fr.below hb), h5, h6, h7, h0.trans (hb.mono h0.size)⟩
theorem Pl.on (h : Pl w0 V g jb n sb i T a la ca A b lb cb G) : Below w0.heap.size w0 V := by
  obtain ⟨F, S, D, L, K, ht, h1, h2, h3, h4, h5, h6, h7, h0⟩ := h
  exact h0
theorem Pl.next (h : Pl w0 V g jb n sb i T a la ca A b lb cb G) : Pl w0 V g jb n sb (i + 1) T a la ca A b lb cb G := by
  obtain ⟨F, S, D, L, K, ht, h1, h2, h3, h4, h5, h6, h7, h0⟩ := h
  exact ⟨F, S, D, L, K, ht, h1, h2, h3, h4, h5, h6, by omega, h0⟩
theorem Pl.few (h : Pl w0 V g jb n sb i T a la ca A b lb cb G) : szL T ≤ 20000 ∧ T.length ≤ 20000 ∧ A.length = la ∧ G.length = lb ∧ 2 ≤ n ∧ n ≤ 12 ∧ Rise T := by
  obtain ⟨F, S, D, L, K, ht, h1, h2, h3, h4, h5, h6, h7, h0⟩ := h
  have := ht.total
  rw [h1] at this
  exact ⟨this.1, this.2, h3.len, h4.len, ht.n2, ht.n12, by rw [← h1]; exact ht.shL.srt⟩
/-- Another row beside it, of what was made since. -/
theorem Pl.row (h : Pl w0 V g jb n sb i T a la ca A b lb cb G) {V' : World} (hb : Below V.heap.size V V') {r : Option Addr} {rn rc : Nat} {R : List Pr} (hr : V'.ownsRow V.heap.size 63 2 (.slice r rn rc) rn (prV R)) : Pl w0 V' g jb n sb i T r rn rc R b lb cb G := by
  obtain ⟨F, S, D, L, K, ht, h1, h2, h3, h4, h5, h6, h7, h0⟩ := h
  have hp : Pw (fun x => V.heap.size ≤ x) V' r rn rc R := Rw.own hr (fun _ h => h)
  exact ⟨_, S, D, L, K, ht.below hb, h1, h2, Rw.mono hp (fun x hx hl => .inr ⟨hx, hl⟩), h4.fr (Fr.below hb), h5, h6, h7, h0.trans (hb.mono h0.size)⟩
theorem pl_row_a (h : Pl w0 V g jb n sb i T a la ca A b lb cb G) : Pw (fun _ => True) V a la ca A := by
  obtain ⟨F, S, D, L, K, ht, h1, h2, h3, h4, h5, h6, h7, h0⟩ := h
  exact Rw.mono h3 (fun _ _ _ => trivial)
theorem pl_rget (h : Pl w0 V g jb n sb i T a la ca T b lb cb G) (k : ByteArray) : Calls Tryz.prog 16 #[.slice a la ca, .string k] V fun e w' => e = .returned (.tuple #[.string ((getT T k).getD ByteArray.empty), .bool (isT T k)]) ∧ Pl w0 w' g jb n sb i T a la ca T b lb cb G ∧ Below V.heap.size V w' := by
  refine (rget_any (pl_row_a h) k).mono ?_
  rintro e w' ⟨rfl, hb⟩
  exact ⟨rfl, h.below hb, hb⟩
theorem pl_get (h : Pl w0 V g jb n sb i T a la ca A b lb cb G) (k : ByteArray) : Calls Tryz.prog 15 #[.pointer (some ⟨sb, 0, none⟩), .string k] V fun e w' => e = .returned (.tuple #[.string ((getT T k).getD ByteArray.empty), .bool (isT T k)]) ∧ Pl w0 w' g jb n sb i T a la ca A b lb cb G ∧ Below V.heap.size V w' := by
  obtain ⟨F, S, D, L, K, ht, h1, r⟩ := id h
  refine (get_any ht k).mono ?_
  rintro e w' ⟨rfl, hb⟩
  rw [h1]
  exact ⟨rfl, h.below hb, hb⟩
theorem pl_len (h : Pl w0 V g jb n sb i T a la ca A b lb cb G) : Calls Tryz.prog 23 #[.pointer (some ⟨sb, 0, none⟩)] V fun e w' => e = .returned (.int .i64 (T.length : Int)) ∧ Pl w0 w' g jb n sb i T a la ca A b lb cb G ∧ Below V.heap.size V w' := by
  obtain ⟨F, S, D, L, K, ht, h1, r⟩ := id h
  refine (len_any ht).mono ?_
  rintro e w' ⟨rfl, hb⟩
  rw [h1]
  exact ⟨rfl, h.below hb, hb⟩
theorem pl_size (h : Pl w0 V g jb n sb i T a la ca A b lb cb G) : Calls Tryz.prog 24 #[.pointer (some ⟨sb, 0, none⟩)] V fun e w' => e = .returned (.int .i64 (szL T : Int)) ∧ Pl w0 w' g jb n sb i T a la ca A b lb cb G ∧ Below V.heap.size V w' := by
  obtain ⟨F, S, D, L, K, ht, h1, r⟩ := id h
  refine (size_any' ht).mono ?_
  rintro e w' ⟨rfl, hb⟩
  rw [h1]
  exact ⟨rfl, h.below hb, hb⟩
theorem pl_rsize (h : Pl w0 V g jb n sb i T a la ca T b lb cb G) : Calls Tryz.prog 25 #[.slice a la ca] V fun e w' => e = .returned (.int .i64 (szL T : Int)) ∧ Pl w0 w' g jb n sb i T a la ca T b lb cb G ∧ Below V.heap.size V w' := by
  refine (rsize_any (pl_row_a h) (by have := h.few.1; omega)).mono ?_
  rintro e w' ⟨rfl, hb⟩
  exact ⟨rfl, h.below hb, hb⟩
theorem pl_all (h : Pl w0 V g jb n sb i T a la ca A b lb cb G) : Calls Tryz.prog 26 #[.pointer (some ⟨sb, 0, none⟩)] V fun e w' => ∃ (ra : Option Addr) (rn rc : Nat), e = .returned (.slice ra rn rc) ∧ Pw (fun _ => True) w' ra rn rc T ∧ Pl w0 w' g jb n sb i T a la ca A b lb cb G ∧ Below V.heap.size V w' := by
  obtain ⟨F, S, D, L, K, ht, h1, r⟩ := id h
  refine (every_any ht).mono ?_
  rintro e w' ⟨ra, rn, rc, rfl, hp, _, hb⟩
  rw [h1] at hp
  exact ⟨ra, rn, rc, rfl, Rw.mono hp (fun _ _ _ => trivial), h.below hb, hb⟩
theorem pl_range (h : Pl w0 V g jb n sb i T a la ca A b lb cb G) (f t : ByteArray) (mo : Int) : Calls Tryz.prog 18 #[.pointer (some ⟨sb, 0, none⟩), .string f, .string t, .int .i64 mo] V fun e w' => ∃ (ra : Option Addr) (rn rc : Nat), e = .returned (.slice ra rn rc) ∧ Pw (fun _ => True) w' ra rn rc (rangeT T f t mo) ∧ Pl w0 w' g jb n sb i T a la ca A b lb cb G ∧ Below V.heap.size V w' := by
  obtain ⟨F, S, D, L, K, ht, h1, r⟩ := id h
  refine (range_any ht f t mo).mono ?_
  rintro e w' ⟨ra, rn, rc, rfl, ho, hb⟩
  rw [h1] at ho
  exact ⟨ra, rn, rc, rfl, own_pw ho, h.below hb, hb⟩
theorem pl_rrange (h : Pl w0 V g jb n sb i T a la ca T b lb cb G) (f t : ByteArray) (mo : Int) : Calls Tryz.prog 19 #[.slice a la ca, .string f, .string t, .int .i64 mo] V fun e w' => ∃ (ra : Option Addr) (rn rc : Nat), e = .returned (.slice ra rn rc) ∧ Pw (fun _ => True) w' ra rn rc (rangeT T f t mo) ∧ Pl w0 w' g jb n sb i T a la ca T b lb cb G ∧ Below V.heap.size V w' := by
  refine (rrange_any (pl_row_a h) (by have := h.few; omega) f t mo).mono ?_
  rintro e w' ⟨ra, rn, rc, rfl, ho, hb⟩
  exact ⟨ra, rn, rc, rfl, own_pw ho, h.below hb, hb⟩
theorem pl_rdrop (h : Pl w0 V g jb n sb i T a la ca T b lb cb G) (k : ByteArray) : Calls Tryz.prog 13 #[.slice a la ca, .string k] V fun e w' => ∃ (ra : Option Addr) (rn rc : Nat), e = .returned (.tuple #[.slice ra rn rc, .bool (isT T k)]) ∧ Pl w0 w' g jb n sb i T ra rn rc (dropT T k) b lb cb G ∧ Below V.heap.size V w' := by
  refine (rdrop_any (pl_row_a h) (by have := h.few; omega) k).mono ?_
  rintro e w' ⟨⟨hi, rfl⟩ | ⟨hi, ra, rn, rc, rfl, ho⟩, hb⟩
  · refine ⟨a, la, ca, by rw [hi], ?_, hb⟩
    rw [dropT_none hi]
    exact h.below hb
  · exact ⟨ra, rn, rc, by rw [hi], h.row hb ho, hb⟩
theorem pl_drop (k : ByteArray) (h : Pl w0 V g jb n sb i T a la ca (dropT T k) b lb cb G) : Calls Tryz.prog 14 #[.pointer (some ⟨sb, 0, none⟩), .string k] V fun e w' => e = .returned (.bool (isT T k)) ∧ Pl w0 w' g jb n sb i (dropT T k) a la ca (dropT T k) b lb cb G := by
  obtain ⟨F, S, D, L, K, ht, h1, h2, h3, h4, h5, h6, h7, h0⟩ := h
  refine (drop_any ht k).mono ?_
  rintro e w' ⟨rfl, F', L', ht', hf, hb, hfl⟩
  rw [h1] at hfl ⊢
  exact ⟨rfl, F', S, D, L', K, ht', hfl, h2, h3.fr hf, h4.fr hf, h5, h6, h7, h0.trans hb⟩
theorem pl_commit (h : Pl w0 V g jb n sb i T a la ca T b lb cb G) (hi : i ≤ 100) : Calls Tryz.prog 20 #[.pointer (some ⟨sb, 0, none⟩)] V fun e w' => e = .returned (.int .i64 0) ∧ Pl w0 w' g jb n sb (i + 1) T a la ca T a la ca T := by
  obtain ⟨F, S, D, L, K, ht, h1, h2, h3, h4, h5, h6, h7, h0⟩ := h
  have hn := ht.n12
  refine (scommit_any ht (by rw [h5.ln]; exact Nat.le_refl _) h5.up (by rw [h5.seen]; exact h5.sz.k) (by omega)).mono ?_
  rintro e w' ⟨rfl, F', S', ht', hf, hb⟩
  obtain ⟨k1, k2, k3, k4⟩ := good_commit h5 (by omega) ht.shL
  rw [lfs_len] at k1 k2 k3 k4
  have e0 : comCode n D (chAll n D L) = 0 := k1
  rw [if_pos e0] at ht'
  rw [e0]
  refine ⟨rfl, F', S', comDisk n D (chAll n D L), L, L, ht', h1, h1, h3.fr hf, h3.fr hf, k2, k4, ?_, h0.trans hb⟩
  have k5 : (comDisk n D (chAll n D L)).writes ≤ D.writes + 8 * n + 2 := k3
  omega
theorem pl_abort (h : Pl w0 V g jb n sb i T a la ca A b lb cb G) (hi : i ≤ 100) : Calls Tryz.prog 21 #[.pointer (some ⟨sb, 0, none⟩)] V fun e w' => e = .returned (.tuple #[]) ∧ Pl w0 w' g jb n sb i G b lb cb G b lb cb G := by
  obtain ⟨F, S, D, L, K, ht, h1, h2, h3, h4, h5, h6, h7, h0⟩ := h
  have hn := ht.n12
  refine (sabort_any ht (by rw [h5.ln]; exact Nat.le_refl _) h5.up (by omega)).mono ?_
  rintro e w' ⟨rfl, F', S', ht', hf, hb⟩
  exact ⟨rfl, F', S', D, K, K, ht', h2, h2, h4.fr hf, h4.fr hf, h5, h6, h7, h0.trans hb⟩
theorem pl_open (h : Pl w0 V g jb n sb i T a la ca A b lb cb G) : Calls Tryz.prog 22 #[.pointer (some ⟨jb, 0, none⟩)] V fun e w' => ∃ sb', e = .returned (.tuple #[.pointer (some ⟨sb', 0, none⟩), .int .i64 0]) ∧ Pl w0 w' g jb n sb' i G b lb cb G b lb cb G := by
  obtain ⟨F, S, D, L, K, ht, h1, h2, h3, h4, h5, h6, h7, h0⟩ := h
  have hn := ht.n12
  have hld := loadF_enc (n := n) (by omega) ht.shK h6
  refine (sopen_any ht.sto ht.n2 ht.n12 (by rw [h5.ln]; exact Nat.le_refl _) h5.up (by rw [h5.seen]; exact h5.sz.k)).mono ?_
  rintro e w' (⟨F', sb', L', rfl, hl, ht', hf, hb⟩ | ⟨_, hl, _⟩)
  · rw [hld] at hl
    have hll := Option.some.inj hl
    refine ⟨sb', rfl, F', S, D, L', L', ht', by rw [← hll]; exact h2, by rw [← hll]; exact h2, h4.fr hf, h4.fr hf, h5, by rw [← hll]; exact h6, h7, h0.trans (hb.mono h0.size)⟩
  · rw [hld] at hl
    cases hl
set_option maxRecDepth 100000 in
set_option maxHeartbeats 1000000 in
theorem fits_any {H : Nat → Prop} {w : World} {a : Option Addr} {m c : Nat} {l : List Pr} (h : Pw H w a m c l) (hz : szL l ≤ 1000000000000) (n : Nat) (hn : n ≤ 12) (hn2 : 2 ≤ n) :
    Calls Tryz.prog 37 #[.int .i64 (n : Int), .slice a m c] w fun e w' => e = .returned (.bool (decide (szL l ≤ 510 * (n - 2)))) ∧ Below w.heap.size w w' := by
  have HS := rsize_any h hz
  obtain ⟨z, hzz⟩ : ∃ z, szL l = z := ⟨_, rfl⟩
  rw [hzz] at HS ⊢
  obtain ⟨q, hq⟩ : ∃ q : Nat, 510 * (n - 2) = q := ⟨_, rfl⟩
  have kq : 510 * ((n : Int) - 2) = (q : Int) := by omega
  have p1 : -9223372036854775808 ≤ (n : Int) - 2 := by omega
  have p2 : (n : Int) - 2 ≤ 9223372036854775807 := by omega
  have p3 : -9223372036854775808 ≤ 510 * ((n : Int) - 2) := by omega
  have p4 : 510 * ((n : Int) - 2) ≤ 9223372036854775807 := by omega
  rw [hq]
  clear h hz hzz hq
  go_enter Tryz.func37, Tryz.ntmps37
  go_wp2_with fail
  refine HS.mono ?_
  rintro e V ⟨rfl, hb⟩
  have HB : Hid (Below w.heap.size w V) := hb
  clear HS hb
  go_wp2
  go_ret
  refine ⟨?_, HB.out⟩
  by_cases h : z ≤ q
  · rw [decide_eq_true h]
    simp
  · rw [decide_eq_false h]
    simp
end
end Go.Proofs.YtnafalkcgghjgaaGreatDoor
