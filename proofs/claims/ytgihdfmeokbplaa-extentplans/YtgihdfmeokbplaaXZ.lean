/- Openers and small laws for ExtentReads. -/
import Derived.Test.YtgihdfmeokbplaaEG
import Derived.Test.YtgihdfmeokbplaaXQ
namespace Go.Proofs.Ytgihdfmeokbplaa
open Go.ChangeShapes Go.WideShapes Go.ChangeAt Go.RowKit Go.Deep Ex
theorem wpAnyH_strengthen {P : Program} {ops : Array Oper} {Q : Exit → Act → World → Prop} {md : Region.Mode} {S S' : World → Prop} (h : ∀ w, S' w → S w) :
    ∀ {fuel : Nat} {listed : Array Bool} {a : Act} {w : World}, wpAnyH P md ops Q S' fuel listed a w → wpAnyH P md ops Q S fuel listed a w
  | 0, _, _, _, hw => hw
  | _ + 1, _, _, _, hw => ⟨hw.1, fun i hi => wpOp_mono (fun _ _ h' => ⟨h _ h'.1, wpAnyH_strengthen h h'.2⟩) (hw.2 i hi)⟩
theorem own_bs {w : World} {base n c : Nat} {a : Option Addr} {bs : List UInt8} (h : w.ownsRow base 5 1 (.slice a n c) n (bytesV bs)) : Bs w a n c bs := by
  have hl := h.1
  rw [bytesV_len] at hl
  rcases h.2 with ⟨h5, h6⟩ | ⟨g, cp, cur, e, _⟩
  · cases h5
    obtain rfl : bs = [] := List.length_eq_zero_iff.1 (by omega)
    exact Bs.nil _
  · cases e; exact Bs.owned h
theorem wf_u8 {n : Int} (h : (Lit.int .u8 n).wf = true) : 0 ≤ n ∧ n ≤ 255 := by
  simp [Lit.wf, IntKind.min, IntKind.max, IntKind.signed, IntKind.bits] at h
  omega
theorem toNat_ofNat_ {n : Nat} (h : n < 256) : (UInt8.ofNat n).toNat = n := by
  rw [UInt8.toNat_ofNat']; omega
set_option maxRecDepth 100000 in
theorem bs_of {H : Type} {enc : TypeId × Value → H} {W : World} {base : Nat} {spare : Nat → Bool} {held : Bool} {fuel : Nat} {a : Option Addr} {len cap : Nat} {x : DataW H × List MemPlace}
    (hf : DataW.trod enc Try.prog W base spare held fuel 48 [.slice a len cap] = some x) : ∃ l, Bs W a len cap l := by
  rcases open_slice1 Try.underlying48 (by kernel_rfl) hf with ⟨hcs, _⟩ | ⟨ad, l, c, m, n, V, D, Pl, hcs, _, hl, hm, hmm, _, hV⟩
  · simp only [List.cons.injEq, Value.slice.injEq, and_true] at hcs
    obtain ⟨rfl, rfl, rfl⟩ := hcs
    exact ⟨[], Bs.nil _⟩
  · simp only [List.cons.injEq, Value.slice.injEq, and_true] at hcs
    obtain ⟨rfl, rfl, rfl⟩ := hcs
    have hlm : len ≤ m := by rw [hmm]; split <;> omega
    have hb : ∀ i, i < len → ∃ b : UInt8, W.cell? (ad.add i) = some (.int .u8 ((b.toNat : Nat) : Int)) := by
      intro i hi
      obtain ⟨h1, h2⟩ := hV i (by omega)
      obtain ⟨y, e, _, wy⟩ := DataW.trod_int Try.underlying5 h2
      simp only [List.cons.injEq, and_true] at e
      have r := wf_u8 wy
      obtain ⟨f, rfl⟩ := Int.eq_ofNat_of_zero_le r.1
      exact ⟨UInt8.ofNat f, by rw [h1, e, toNat_ofNat_ (by omega)]⟩
    obtain ⟨f, hf⟩ := choose_lt (α := UInt8) hb
    refine ⟨(List.range len).map f, by simp, hl, by simpa [maxLen] using hm, (by intro e; cases e), fun ad' e i hi => ?_⟩
    cases e
    simp only [List.length_map, List.length_range] at hi
    rw [hf i hi]
    simp
/-- A conversion whose value is known. -/
theorem yields_conv {P : Program} {o : Oper} {a : Act} {w : World} (f t : TypeId) (x : Operand) (ho : o.op = .convert f t x) {v r : Value} (hx : a.eval x = v) (hl : (convert f t v).run P w = .ok r w) : (execOp a.eval o).run P w = .ok (.value r) w := by
  unfold execOp
  simp only [ho, hx, Sem.run_bind, hl, Result.andThen_ok, Sem.run_pure]
end Go.Proofs.Ytgihdfmeokbplaa
