/- A step, whatever its kind; what DiskPlays wants. -/
import Derived.Test.YtdlmciicapigjaaZB
import Derived.Test.YtdlmciicapigjaaZC
import Derived.Test.YtdlmciicapigjaaZD
import Derived.Test.YtdlmciicapigjaaZE
import Derived.Test.YtdlmciicapigjaaZF
import Derived.Test.YtdlmciicapigjaaZG
import Derived.Test.YtdlmciicapigjaaZH
namespace Go.Proofs.Ytdlmciicapigjaa
open Go.RowKit Go.Shelf
theorem step_any {w0 w : World} {xb : Nat} {xo : Obj} {g lb lc : Nat} {wa : Option Addr} {wc : Nat} {D : Dk} (h : Pair w0 xb xo w g lb lc wa wc D) (kd ad lo : Int) (fi : Nat) (pa : Option Addr) (pl pc : Nat) (bs : List Bool) (hin : OpV.In w0 ⟨kd, ad, lo, fi, pa, pl, pc, bs⟩) (hw : D.writes < 999999) :
    Calls Try.prog 23 #[.pointer (some ⟨g, 0, none⟩), .agg #[.slice (some ⟨lb, 0, none⟩) D.kept.length lc, .slice wa D.waits.length wc, .int .i64 (D.fuse : Int), .int .i64 (D.writes : Int), .bool (!D.up)], .agg #[.int .i64 kd, .int .i64 ad, .int .i64 lo, .int .u8 (fi : Int), .slice pa pl pc]] w fun e w' => ∃ g' lb' lc' wa' wc' D', e = .returned (.tuple #[.pointer (some ⟨g', 0, none⟩), .agg (rcells lb' lc' wa' wc' D'), .bool true]) ∧ Pair w0 xb xo w' g' lb' lc' wa' wc' D' ∧ D'.kept.length = D.kept.length ∧ D'.writes ≤ D.writes + 1 := by
  obtain ⟨_, ha, _, hf, hb⟩ := hin
  by_cases k0 : kd = 0
  · subst k0; exact step_write h ad lo fi pa pl pc bs ha.2 hf hb hw
  · by_cases k1 : kd = 1
    · subst k1; exact step_flush h ad lo fi pa pl pc bs ha.2 hf hb hw
    · by_cases k2 : kd = 2
      · subst k2; exact step_read h ad lo fi pa pl pc bs ha.2 hf hb hw
      · by_cases k3 : kd = 3
        · subst k3; exact step_fuse h ad lo fi pa pl pc bs ha.2 hf hb hw
        · by_cases k4 : kd = 4
          · subst k4; exact step_fail h ad lo fi pa pl pc bs ha.2 hf hb hw
          · by_cases k5 : kd = 5
            · subst k5; exact step_start h ad lo fi pa pl pc bs ha.2 hf hb hw
            · exact step_clone h ad lo fi pa pl pc bs ha.2 hf hb hw kd k0 k1 k2 k3 k4 k5
theorem Pair.nex {w0 w : World} {xb : Nat} {cs : Array Value} {g lb lc : Nat} {wa : Option Addr} {wc : Nat} {D : Dk} (h : Pair w0 xb (.cells cs 40 (0, 0)) w g lb lc wa wc D) : lb ≠ xb ∧ ∀ x, ob wa = some x → x ≠ xb := by
  constructor
  · rintro rfl
    rcases h.r.l.2 with ⟨e, _⟩ | ⟨g', cap', cur, e, _, hr, _⟩
    · cases e
    · cases e
      have := hr.symm.trans h.hx
      simp at this
  · rintro x hx rfl
    rcases h.r.q.2 with ⟨e, _⟩ | ⟨g', cap', cur, e, _, hr, _⟩
    · simp only [Value.slice.injEq] at e
      rw [e.1] at hx
      cases hx
    · simp only [Value.slice.injEq] at e
      rw [e.1] at hx
      cases hx
      have := hr.symm.trans h.hx
      simp at this
theorem Pair.put {w0 w : World} {xb : Nat} {c0 c1 c2 c3 c4 : Value} {g lb lc : Nat} {wa : Option Addr} {wc : Nat} {D : Dk} (h : Pair w0 xb (.cells #[c0, c1, c2, c3, c4] 40 (0, 0)) w g lb lc wa wc D) (hx0 : w0.heap.size ≤ xb) (v0 v1 v2 v3 v4 : Value) :
    Pair w0 xb (.cells #[v0, v1, v2, v3, v4] 40 (0, 0)) (((((w.setCell ⟨xb, 0, none⟩ v0).setCell ⟨xb, 1, none⟩ v1).setCell ⟨xb, 2, none⟩ v2).setCell ⟨xb, 3, none⟩ v3).setCell ⟨xb, 4, none⟩ v4) g lb lc wa wc D := by
  obtain ⟨S, hd, h1, h2, h3, h4⟩ := h.d
  have hn := h.nex
  exact ⟨h.bl.trans ((five_below w xb _ _ _ _ _).mono hx0), h.r.keep (five_other w xb lb _ _ _ _ _ hn.1) (fun x hx => five_other w xb x _ _ _ _ _ (hn.2 x hx)), ⟨S, hd.keep (fun x hx => five_other w xb x _ _ _ _ _ (fun e => h4 (e ▸ hx))), h1, h2, h3, h4⟩, five_heap w xb _ _ _ _ _ _ _ _ _ _ _ h.hx⟩
theorem Pair.at {w0 w : World} {xb : Nat} {c0 c1 c2 c3 c4 : Value} {g lb lc : Nat} {wa : Option Addr} {wc : Nat} {D : Dk} (h : Pair w0 xb (.cells #[c0, c1, c2, c3, c4] 40 (0, 0)) w g lb lc wa wc D) :
    w.cell? ⟨xb, 0, none⟩ = some c0 ∧ w.cell? ⟨xb, 1, none⟩ = some c1 ∧ w.cell? ⟨xb, 2, none⟩ = some c2 ∧ w.cell? ⟨xb, 3, none⟩ = some c3 ∧ w.cell? ⟨xb, 4, none⟩ = some c4 ∧ ∀ k, w.frozen? ⟨xb, k, none⟩ = false := by
  refine ⟨?_, ?_, ?_, ?_, ?_, fun k => frozen_of_row w xb k _ _ h.hx⟩ <;> rw [cell_of_row w xb _ _ _ _ h.hx] <;> rfl
theorem Pair.drew {w0 w : World} {xb : Nat} {xo : Obj} {g lb lc : Nat} {wa : Option Addr} {wc : Nat} {D : Dk} (h : Pair w0 xb xo w g lb lc wa wc D) : Pair w0 xb xo w.drew g lb lc wa wc D := h.below (Below.refl _ w).drew
end Go.Proofs.Ytdlmciicapigjaa
