/- One disk, made since: how the statements take the program's functions. -/
import Derived.Test.YtdlmciicapigjaaL
namespace Go.Proofs.Ytdlmciicapigjaa
open Go.RowKit Go.Shelf
/-- A disk that was made since w0; all that was there then is as it was. -/
def Has (w0 w : World) (g : Nat) (D : Dk) : Prop := Below w0.heap.size w0 w ∧ ∃ S, DiskIs w S g D ∧ ∀ x, S x → w0.heap.size ≤ x
theorem Has.ok {w0 w : World} {g : Nat} {D : Dk} (h : Has w0 w g D) : D.Ok := by
  obtain ⟨_, S, h, _⟩ := h
  exact h.ok
theorem Has.below {w0 w w' : World} {g : Nat} {D : Dk} (h : Has w0 w g D) (hb : Below w.heap.size w w') : Has w0 w' g D := by
  obtain ⟨h0, S, h, hS⟩ := h
  exact ⟨h0.trans (hb.mono h0.size), S, h.below hb, hS⟩
theorem Has.drew {w0 w : World} {g : Nat} {D : Dk} (h : Has w0 w g D) : Has w0 w.drew g D := h.below (Below.refl _ w).drew
theorem Has.upd {w0 w w' : World} {g : Nat} {D' : Dk} {S : Nat → Prop} (h0 : Below w0.heap.size w0 w) (hS : ∀ x, S x → w0.heap.size ≤ x) (hd : DiskIs w' S g D') (hu : Upd S w w') : Has w0 w' g D' :=
  ⟨h0.trans (hu.below h0.size hS), S, hd, hS⟩
theorem new_h {w0 w : World} (h0 : Below w0.heap.size w0 w) (n : Nat) (h1 : 1 ≤ n) (h2 : n ≤ 2048) : Calls Try.prog 8 #[.int .i64 (n : Int)] w fun e w' => ∃ g, e = .returned (.tuple #[.pointer (some ⟨g, 0, none⟩), .int .i64 0]) ∧ Has w0 w' g (Dk.new n nought) := by
  refine (new_any n w h1 h2).mono ?_
  rintro e w' ⟨g, rfl, hd, hb⟩
  exact ⟨g, rfl, h0.trans (hb.mono h0.size), _, hd, fun x hx => Nat.le_trans h0.size hx.1⟩
theorem up_h {w0 w : World} {g : Nat} {D : Dk} (h : Has w0 w g D) : Calls Try.prog 18 #[.pointer (some ⟨g, 0, none⟩)] w fun e w' => e = .returned (.bool D.up) ∧ w' = w := by
  obtain ⟨_, S, h, _⟩ := h
  exact up_any h
theorem size_h {w0 w : World} {g : Nat} {D : Dk} (h : Has w0 w g D) : Calls Try.prog 15 #[.pointer (some ⟨g, 0, none⟩)] w fun e w' => e = .returned (.int .i64 (D.kept.length : Int)) ∧ w' = w := by
  obtain ⟨_, S, h, _⟩ := h
  exact size_any h
theorem waits_h {w0 w : World} {g : Nat} {D : Dk} (h : Has w0 w g D) : Calls Try.prog 16 #[.pointer (some ⟨g, 0, none⟩)] w fun e w' => e = .returned (.int .i64 (D.waits.length : Int)) ∧ w' = w := by
  obtain ⟨_, S, h, _⟩ := h
  exact waits_any h
theorem writes_h {w0 w : World} {g : Nat} {D : Dk} (h : Has w0 w g D) : Calls Try.prog 17 #[.pointer (some ⟨g, 0, none⟩)] w fun e w' => e = .returned (.int .i64 (D.writes : Int)) ∧ w' = w := by
  obtain ⟨_, S, h, _⟩ := h
  exact writes_any h
theorem write_h {w0 w : World} {g : Nat} {D : Dk} (h : Has w0 w g D) (a : Nat) (s : ByteArray) (hu : D.up = true) (ha : a < D.kept.length) (hs : s.size = 256) (hw : D.writes < 1000000) : Calls Try.prog 11 #[.pointer (some ⟨g, 0, none⟩), .int .i64 (a : Int), .string s] w fun e w' => e = .returned (.int .i64 0) ∧ Has w0 w' g (D.wrote a s) := by
  obtain ⟨h0, S, h, hS⟩ := h
  refine (write_any h a s hu ha hs hw).mono ?_
  rintro e w' ⟨rfl, hd, hup⟩
  refine ⟨rfl, h0.trans (hup.below h0.size hS), _, hd, fun x hx => hx.elim (hS x) (fun h => Nat.le_trans h0.size h.1)⟩
theorem write_bad_h {w0 w : World} {g : Nat} {D : Dk} (h : Has w0 w g D) (a : Int) (s : ByteArray) (hr : ¬ D.reach a = 0) : Calls Try.prog 11 #[.pointer (some ⟨g, 0, none⟩), .int .i64 a, .string s] w fun e w' => e = .returned (.int .i64 (D.reach a : Int)) ∧ w' = w := by
  obtain ⟨_, S, h, _⟩ := h
  exact write_bad h a s hr
theorem write_short_h {w0 w : World} {g : Nat} {D : Dk} (h : Has w0 w g D) (a : Int) (s : ByteArray) (hr : D.reach a = 0) (hs : s.size ≠ 256) : Calls Try.prog 11 #[.pointer (some ⟨g, 0, none⟩), .int .i64 a, .string s] w fun e w' => e = .returned (.int .i64 1) ∧ w' = w := by
  obtain ⟨_, S, h, _⟩ := h
  exact write_short h a s hr hs
theorem flush_down_h {w0 w : World} {g : Nat} {D : Dk} (h : Has w0 w g D) (hu : D.up = false) : Calls Try.prog 12 #[.pointer (some ⟨g, 0, none⟩)] w fun e w' => e = .returned (.int .i64 10) ∧ w' = w := by
  obtain ⟨_, S, h, _⟩ := h
  exact flush_down h hu
theorem flush_h {w0 w : World} {g : Nat} {D : Dk} (h : Has w0 w g D) (hu : D.up = true) : Calls Try.prog 12 #[.pointer (some ⟨g, 0, none⟩)] w fun e w' => e = .returned (.int .i64 0) ∧ Has w0 w' g (D.settled fun _ => true) := by
  obtain ⟨h0, S, h, hS⟩ := h
  refine (flush_any h hu).mono ?_
  rintro e w' ⟨rfl, hd, hup⟩
  exact ⟨rfl, Has.upd h0 hS hd hup⟩
theorem fuse_h {w0 w : World} {g : Nat} {D : Dk} (h : Has w0 w g D) (n : Nat) (hu : D.up = true) (hn : n ≤ 9223372036854775807) : Calls Try.prog 13 #[.pointer (some ⟨g, 0, none⟩), .int .i64 (n : Int)] w fun e w' => e = .returned (.int .i64 0) ∧ Has w0 w' g (D.fused n) := by
  obtain ⟨h0, S, h, hS⟩ := h
  refine (fuse_any h n hu hn).mono ?_
  rintro e w' ⟨rfl, hd, hup⟩
  exact ⟨rfl, Has.upd h0 hS hd hup⟩
theorem start_bad_h {w0 w : World} {g : Nat} {D : Dk} (h : Has w0 w g D) (hb : D.up = true ∨ 0 < D.waits.length) : Calls Try.prog 14 #[.pointer (some ⟨g, 0, none⟩)] w fun e w' => e = .returned (.int .i64 8) ∧ w' = w := by
  obtain ⟨_, S, h, _⟩ := h
  exact start_bad h hb
theorem start_h {w0 w : World} {g : Nat} {D : Dk} (h : Has w0 w g D) (hu : D.up = false) (hw : D.waits = []) : Calls Try.prog 14 #[.pointer (some ⟨g, 0, none⟩)] w fun e w' => e = .returned (.int .i64 0) ∧ Has w0 w' g D.started := by
  obtain ⟨h0, S, h, hS⟩ := h
  refine (start_any h hu hw).mono ?_
  rintro e w' ⟨rfl, hd, hup⟩
  exact ⟨rfl, Has.upd h0 hS hd hup⟩
theorem fail_h {w0 w : World} {g : Nat} {D : Dk} (h : Has w0 w g D) (a : Option Addr) (len cap : Nat) (bs : List Bool) (hb : Bls w a len cap bs) (ha : ∀ x, ob a = some x → x < w0.heap.size) : Calls Try.prog 10 #[.pointer (some ⟨g, 0, none⟩), .slice a len cap] w fun e w' => e = .returned (.tuple #[]) ∧ Has w0 w' g (D.failed (pickOf bs)) := by
  obtain ⟨h0, S, h, hS⟩ := h
  refine (fail_any h a len cap bs hb (fun x hx hs => by have := hS x hs; have := ha x hx; omega)).mono ?_
  rintro e w' ⟨rfl, hd, hup⟩
  exact ⟨rfl, Has.upd h0 hS hd hup⟩
theorem fail_none_h {w0 w : World} {g : Nat} {D : Dk} (h : Has w0 w g D) : Calls Try.prog 10 #[.pointer (some ⟨g, 0, none⟩), .slice none 0 0] w fun e w' => e = .returned (.tuple #[]) ∧ Has w0 w' g (D.failed (pickOf [])) :=
  fail_h h none 0 0 [] (Bls.nil w) (by intro x hx; cases hx)
theorem lives_h {w0 w : World} (h : Below w0.heap.size w0 w) : Calls Try.prog 20 #[] w fun e w' => e = .returned (.bool true) ∧ Below w0.heap.size w0 w' := by
  refine (lives_any w).mono ?_
  rintro e w' ⟨rfl, hb⟩
  exact ⟨rfl, h.trans (hb.mono h.size)⟩
end Go.Proofs.Ytdlmciicapigjaa
