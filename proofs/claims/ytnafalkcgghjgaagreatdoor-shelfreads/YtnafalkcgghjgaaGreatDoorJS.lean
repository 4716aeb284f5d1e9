/- A disk that is turned by calls: what is left of it, and of the memory. What the library proves of a Builder's WriteString and String, and what load makes of it. -/
import Derived.Test.YtnafalkcgghjgaaGreatDoorMA
import Derived.Test.YtnafalkcgghjgaaGreatDoorMB
namespace Go.Proofs.YtnafalkcgghjgaaGreatDoor
open Go.RowKit Go.Shelf
theorem nought_is : nought = nought0 := rfl
/-- A call on a disk at S has made it D'; but for S nothing has turned; its blocks are those of S, and new ones. -/
def Mut (S : Nat → Prop) (w : World) (g : Nat) (D' : Dk) (w' : World) : Prop := ∃ S', DiskIs w' S' g D' ∧ Upd S w w' ∧ ∀ x, S' x → S x ∨ w.heap.size ≤ x
theorem Mut.same {S : Nat → Prop} {w : World} {g : Nat} {D : Dk} (h : DiskIs w S g D) : Mut S w g D w := ⟨S, h, Upd.refl _ _, fun _ h => .inl h⟩
theorem Mut.below {S : Nat → Prop} {w w' : World} {g : Nat} {D : Dk} (h : DiskIs w S g D) (hb : Below w.heap.size w w') : Mut S w g D w' := ⟨S, h.below hb, Upd.of_below hb, fun _ h => .inl h⟩
theorem Mut.trans {S S1 : Nat → Prop} {w w1 w2 : World} {g : Nat} {D2 : Dk} (hu : Upd S w w1) (hs : ∀ x, S1 x → S x ∨ w.heap.size ≤ x) (m : Mut S1 w1 g D2 w2) : Mut S w g D2 w2 := by
  obtain ⟨S2, hd, hu2, hs2⟩ := m
  refine ⟨S2, hd, hu.trans hu2 (fun x hx hl => (hs x hx).elim id (fun h => by omega)), fun x hx => ?_⟩
  rcases hs2 x hx with h | h
  · exact hs x h
  · have := hu.size
    exact .inr (by omega)
theorem Mut.then {S : Nat → Prop} {w w1 w2 : World} {g : Nat} {D1 D2 : Dk} (m : Mut S w g D1 w1) (k : ∀ S1, DiskIs w1 S1 g D1 → (∀ x, S1 x → S x ∨ w.heap.size ≤ x) → Upd S w w1 → Mut S1 w1 g D2 w2) : Mut S w g D2 w2 := by
  obtain ⟨S1, hd, hu, hs⟩ := m
  exact Mut.trans hu hs (k S1 hd hs hu)
theorem Mut.after {S : Nat → Prop} {w w1 w2 : World} {g : Nat} {D : Dk} (m : Mut S w g D w1) (hb : Below w1.heap.size w1 w2) : Mut S w g D w2 := m.then fun _ hd _ _ => Mut.below hd hb
theorem Mut.drew {S : Nat → Prop} {w w1 : World} {g : Nat} {D : Dk} (m : Mut S w g D w1) : Mut S w g D w1.drew := m.after (Below.refl _ _).drew
theorem Mut.size {S : Nat → Prop} {w w1 : World} {g : Nat} {D : Dk} (m : Mut S w g D w1) : w.heap.size ≤ w1.heap.size := by
  obtain ⟨_, _, hu, _⟩ := m
  exact hu.size
theorem Mut.block {S : Nat → Prop} {w w1 : World} {g : Nat} {D : Dk} (m : Mut S w g D w1) {x : Nat} (hx : x < w.heap.size) (hs : ¬ S x) : w1.heap[x]? = w.heap[x]? := by
  obtain ⟨_, _, hu, _⟩ := m
  exact hu.block x hx hs
theorem Mut.cell {S : Nat → Prop} {w w1 : World} {g : Nat} {D : Dk} (m : Mut S w g D w1) {x : Addr} (hx : x.block < w.heap.size) (hs : ¬ S x.block) : w1.cell? x = w.cell? x := World.cell?_of_block (w := w) (m.block hx hs)
/-- The start of a call: of w as well as of a world behind it. -/
theorem Mut.from {S : Nat → Prop} {w w1 w2 : World} {g : Nat} {D : Dk} (hb : Below w.heap.size w w1) (m : Mut S w1 g D w2) : Mut S w g D w2 := Mut.trans (Upd.of_below hb) (fun _ h => .inl h) m
def Dk.wcode (D : Dk) (a : Int) (s : ByteArray) : Nat := if D.reach a = 0 then (if s.size = 256 then 0 else 1) else D.reach a
def Dk.wput (D : Dk) (a : Int) (s : ByteArray) : Dk := if D.reach a = 0 ∧ s.size = 256 then D.wrote a.toNat s else D
theorem write_ok {S : Nat → Prop} {w : World} {g : Nat} {D : Dk} (h : DiskIs w S g D) (a : Nat) (s : ByteArray) (ha : a < D.kept.length) (hs : s.size = 256) (hw : D.writes < 1000000) : Calls Tryz.prog 87 #[.pointer (some ⟨g, 0, none⟩), .int .i64 (a : Int), .string s] w fun e w' => e = .returned (.int .i64 (codeS D [some (a, s)] : Int)) ∧ Mut S w g (runS D [some (a, s)]) w' := by
  unfold codeS runS codeS runS doS
  cases hu : D.up
  · refine (write_bad h (a : Int) s (by unfold Dk.reach; rw [hu]; simp)).mono ?_
    rintro e w' ⟨rfl, hw'⟩
    subst w'
    refine ⟨?_, Mut.same h⟩
    unfold Dk.reach
    rw [hu]
    rfl
  · refine (write_any h a s hu ha hs hw).mono ?_
    rintro e w' ⟨rfl, hd, hup⟩
    exact ⟨rfl, _, hd, hup, fun x hx => hx.imp id (fun h => h.1)⟩
theorem flush_ok {S : Nat → Prop} {w : World} {g : Nat} {D : Dk} (h : DiskIs w S g D) : Calls Tryz.prog 86 #[.pointer (some ⟨g, 0, none⟩)] w fun e w' => e = .returned (.int .i64 (codeS D [none] : Int)) ∧ Mut S w g (runS D [none]) w' := by
  unfold codeS runS codeS runS doS
  cases hu : D.up
  · refine (flush_down h hu).mono ?_
    rintro e w' ⟨rfl, hw'⟩
    subst w'
    exact ⟨rfl, Mut.same h⟩
  · refine (flush_any h hu).mono ?_
    rintro e w' ⟨rfl, hd, hup⟩
    exact ⟨rfl, _, hd, hup, fun x hx => .inl hx⟩
/-- A Journal in memory. -/
def Jat (w : World) (jb g n : Nat) : Prop := w.heap[jb]? = some (.cells #[.pointer (some ⟨g, 0, none⟩), .int .i64 (n : Int)] 102 (0, 0))
theorem Jat.lt {w : World} {jb g n : Nat} (h : Jat w jb g n) : jb < w.heap.size := lt_of_some h
theorem Jat.cells {w : World} {jb g n : Nat} (h : Jat w jb g n) : w.cell? ⟨jb, 0, none⟩ = some (.pointer (some ⟨g, 0, none⟩)) ∧ w.cell? ⟨jb, 1, none⟩ = some (.int .i64 (n : Int)) := by
  refine ⟨?_, ?_⟩ <;> rw [cell_of_row w jb _ _ _ _ h] <;> rfl
theorem Jat.below {w w' : World} {jb g n : Nat} (h : Jat w jb g n) (hb : Below w.heap.size w w') : Jat w' jb g n := (hb.block jb h.lt).trans h
theorem Jat.upd {w w' : World} {S : Nat → Prop} {jb g n : Nat} (h : Jat w jb g n) (hu : Upd S w w') (hs : ¬ S jb) : Jat w' jb g n := (hu.block jb h.lt hs).trans h
theorem Jat.mut {w w' : World} {S : Nat → Prop} {g' : Nat} {D : Dk} {jb g n : Nat} (h : Jat w jb g n) (m : Mut S w g' D w') (hs : ¬ S jb) : Jat w' jb g n := (m.block h.lt hs).trans h
set_option maxHeartbeats 400000 in
theorem pagesAt_any {w : World} {jb g n : Nat} (h : Jat w jb g n) (hn : n ≤ 128) : Calls Tryz.prog 88 #[.pointer (some ⟨jb, 0, none⟩)] w fun e w' => e = .returned (.int .i64 ((1 + 4 * n : Nat) : Int)) ∧ w' = w := by
  obtain ⟨c0, c1⟩ := h.cells
  clear h
  go_enter Tryz.func88, Tryz.ntmps88
  go_wp2
  go_ret
  refine ⟨ret_int ?_, rfl⟩
  go_num
set_option maxHeartbeats 400000 in
theorem has_any {w : World} {jb g n : Nat} (h : Jat w jb g n) (p : Int) : Calls Tryz.prog 80 #[.pointer (some ⟨jb, 0, none⟩), .int .i64 p] w fun e w' => e = .returned (.bool (decide (0 ≤ p ∧ p < (n : Int)))) ∧ w' = w := by
  obtain ⟨c0, c1⟩ := h.cells
  clear h
  by_cases h0 : p < 0
  · have h0' : ¬ (0 : Int) ≤ p := by omega
    go_enter Tryz.func80, Tryz.ntmps80
    go_wp2
    go_ret
    exact ⟨ret_bool (by first | rfl | (simp; done) | (simp; omega)), rfl⟩
  · have h0' : (0 : Int) ≤ p := by omega
    by_cases h1 : p < (n : Int)
    · go_enter Tryz.func80, Tryz.ntmps80
      go_wp2
      go_ret
      exact ⟨ret_bool (by first | rfl | (simp; done) | (simp; omega)), rfl⟩
    · go_enter Tryz.func80, Tryz.ntmps80
      go_wp2
      go_ret
      exact ⟨ret_bool (by first | rfl | (simp; done) | (simp; omega)), rfl⟩
def needN (p : Int) : Nat := if p < 1 ∨ 128 < p then 0 else 1 + 8 * p.toNat
set_option maxHeartbeats 400000 in
theorem need_any (p : Int) (w : World) : Calls Tryz.prog 48 #[.int .i64 p] w fun e w' => e = .returned (.int .i64 (needN p : Int)) ∧ w' = w := by
  unfold needN
  by_cases h0 : p < 1
  · rw [if_pos (.inl h0)]
    go_enter Tryz.func48, Tryz.ntmps48
    go_wp2
    go_ret
    exact ⟨rfl, rfl⟩
  · by_cases h1 : 128 < p
    · rw [if_pos (.inr h1)]
      go_enter Tryz.func48, Tryz.ntmps48
      go_wp2
      go_ret
      exact ⟨rfl, rfl⟩
    · rw [if_neg (by omega)]
      obtain ⟨n, rfl⟩ := Int.eq_ofNat_of_zero_le (show 0 ≤ p by omega)
      go_enter Tryz.func48, Tryz.ntmps48
      go_wp2
      go_ret
      refine ⟨ret_int ?_, rfl⟩
      go_num
end Go.Proofs.YtnafalkcgghjgaaGreatDoor
namespace Go.Proofs.YtnafalkcgghjgaaGreatDoor
open Go.RowKit Go.Shelf
theorem lays166 : Go.Proofs.Lays.n166 Tryz.prog Tryz.lays105_ren := {
  mixed := Tryz.lays105.mixed
  f166 := Tryz.lays105.f166
  f240 := Tryz.lays105.f240
  f276 := Tryz.lays105.f276
  t0 := Tryz.lays105.t0
  a0 := Tryz.lays105.a0
  z0 := Tryz.lays105.z0
  v0 := Tryz.lays105.v0
  t3 := Tryz.lays105.t3
  a3 := Tryz.lays105.a3
  z3 := Tryz.lays105.z3
  v3 := Tryz.lays105.v3
  t4 := Tryz.lays105.t4
  a4 := Tryz.lays105.a4
  z4 := Tryz.lays105.z4
  v4 := Tryz.lays105.v4
  t9 := Tryz.lays105.t9
  a9 := Tryz.lays105.a9
  z9 := Tryz.lays105.z9
  v9 := Tryz.lays105.v9
  t20 := Tryz.lays105.t20
  a20 := Tryz.lays105.a20
  z20 := Tryz.lays105.z20
  v20 := Tryz.lays105.v20
  t37 := Tryz.lays105.t37
  a37 := Tryz.lays105.a37
  z37 := Tryz.lays105.z37
  v37 := Tryz.lays105.v37
  t70 := Tryz.lays105.t70
  a70 := Tryz.lays105.a70
  z70 := Tryz.lays105.z70
  v70 := Tryz.lays105.v70
  t72 := Tryz.lays105.t72
  a72 := Tryz.lays105.a72
  z72 := Tryz.lays105.z72
  v72 := Tryz.lays105.v72
  t75 := Tryz.lays105.t75
  a75 := Tryz.lays105.a75
  z75 := Tryz.lays105.z75
  v75 := Tryz.lays105.v75
  t164 := Tryz.lays105.t164
  a164 := Tryz.lays105.a164
  z164 := Tryz.lays105.z164
  v164 := Tryz.lays105.v164 }
theorem wstr_any (B b : Nat) (bs : List Value) (s : ByteArray) (w : World) (h : Lib.IsBuilder 141 5 B b bs w) (hlen : bs.length + s.size ≤ 140737488355328) (hBw : B ≤ w.heap.size) :
    Calls Tryz.prog 95 #[.pointer (some ⟨b, 0, none⟩), .string s] w fun e w' => e = .returned (.tuple #[.int .i64 s.size, .nilIface]) ∧ (Lib.BuilderAt 141 5 B b (.pointer (some ⟨b, 0, none⟩)) (bs ++ Lib.strCells s) w' ∧ Below B w w') :=
  Any.Builder_WriteString lays166 Tryz.Builder_Extra_105 B b bs s w h hlen hBw
end Go.Proofs.YtnafalkcgghjgaaGreatDoor
