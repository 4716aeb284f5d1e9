/- 'out = append(out, src...)' on bytes; rows that are owned. -/
import Derived.Test.YteiigaoniipedaaE
import Derived.Deep.AppendLies
import Derived.OwnWalk
namespace Go.Proofs.Yteiigaoniipedaa
open Go.RowKit
theorem info5 : (Try.prog.info? 5).map (fun i => (i.zero, i.size, i.bytes)) = some (some (.int .u8 0), 1, 1) := by kernel_rfl
def bytesV (bs : List UInt8) : List Value := bs.map fun u => .int .u8 (u.toNat : Int)
theorem bytesV_len (bs : List UInt8) : (bytesV bs).length = bs.length := by simp [bytesV]
theorem bytesV_append (a b : List UInt8) : bytesV (a ++ b) = bytesV a ++ bytesV b := by simp [bytesV]
theorem bytesV_one (bs : List UInt8) : ∀ u ∈ bytesV bs, u.oneCell' = true := by
  intro u hu
  simp only [bytesV, List.mem_map] at hu
  obtain ⟨x, _, rfl⟩ := hu
  rfl
theorem bytesV_cells {w : World} {bb bo : Nat} {bs : List UInt8} (hc : ∀ i, i < bs.length → w.cell? ⟨bb, bo + i, none⟩ = some (.int .u8 (((bs.getD i 0).toNat : Nat) : Int))) : ∀ j u, (bytesV bs)[j]? = some u → w.cell? ((⟨bb, bo, none⟩ : Addr).add j) = some u := by
  intro j u hu
  have hj : j < bs.length := by
    rcases Nat.lt_or_ge j bs.length with h | h
    · exact h
    · rw [List.getElem?_eq_none (by rw [bytesV_len]; exact h)] at hu; cases hu
  rw [add_at, hc j hj, ← hu]
  simp [bytesV, hj]
theorem append_bs (w : World) {ops : Array Oper} {rest : List Oper} {o : Oper} {a : Act} {Q : Exit → Act → World → Prop} (hgd : o.guard = none) (s x : Operand)
    (ho : o.op = .call { callee := .builtin .append, args := #[s, x], argTypes := #[22, 22] }) (base g k cap : Nat) (ys : List UInt8) (hs : a.eval s = .slice (some ⟨g, 0, none⟩) k cap)
    (hown : w.ownsRow base 5 1 (.slice (some ⟨g, 0, none⟩) k cap) k (bytesV ys)) (ao : Option Addr) (m c : Nat) (bs : List UInt8) (hx : a.eval x = .slice ao m c) (hb : BsI w ao m c bs) (hnil : ao = none → c = 0)
    (hbd : k + m ≤ 10000000) (hbase : base ≤ w.heap.size)
    (h : ∀ g' cap' w', w'.ownsRow base 5 1 (.slice (some ⟨g', 0, none⟩) (k + m) cap') (k + m) (bytesV (ys ++ bs)) → w.grownBy w' (some g) → wpList Try.prog ops Q rest (a.put o.dst (.slice (some ⟨g', 0, none⟩) (k + m) cap')) w') :
    wpList Try.prog ops Q (o :: rest) a w := by
  obtain ⟨i0, hi, hz0, hz1, hz2⟩ := info_parts info5
  have hl : (bytesV bs).length = m * 1 := by rw [bytesV_len, hb.1]; omega
  by_cases h0 : 0 < m
  · obtain ⟨b, off, rfl, _, hc⟩ := hb.2.2.2 h0
    refine wpList_append_lies w hgd s x 22 ho base 5 i0 (.int .u8 0) 1 1 Try.underlying22 hi hz0 hz1 hz2 rfl (by decide) _ k (bytesV ys) hs hown ⟨b, off, none⟩ m c (bytesV bs) hx hl (bytesV_cells (by rw [hb.1]; exact hc)) (bytesV_one bs) h0 (by unfold maxLen; omega) (by omega) hbase _ rfl ?_
    intro g' cap' w' h1 h2 _ _
    rw [← bytesV_append] at h1
    exact h g' cap' w' h1 h2
  · obtain rfl : m = 0 := by omega
    have hbs : bs = [] := List.eq_nil_of_length_eq_zero hb.1
    refine wpList_append_fits_any w hgd s x 22 ho base 5 i0 1 Try.underlying22 hi hz1 g k cap (bytesV ys) hs hown ao 0 c (bytesV bs) hx hl (fun e => ⟨rfl, hnil e⟩) (fun ad _ j u hu => by rw [hbs] at hu; simp [bytesV] at hu) (bytesV_one bs) ?_ ?_
    · rcases hown.2 with ⟨e, _⟩ | ⟨_, _, _, e, _, _, h3, _⟩
      · cases e
      · cases e; omega
    · intro w' h1 h2
      rw [← bytesV_append] at h1
      exact h g cap w' h1 h2
theorem BsI.owned {w : World} {base g n cap : Nat} {bs : List UInt8} (h : w.ownsRow base 5 1 (.slice (some ⟨g, 0, none⟩) n cap) n (bytesV bs)) : BsI w (some ⟨g, 0, none⟩) n cap bs := by
  have hl : bs.length = n := by have := h.1; simpa [bytesV] using this
  have hc := h.cells (g := g) rfl
  obtain ⟨_, h2⟩ := h
  rcases h2 with ⟨h2, _⟩ | ⟨g', cap', cur, e, _, hr, h3, h4, _⟩
  · cases h2
  · cases e
    refine ⟨hl, h3, by simpa [maxLen] using h4, fun _ => ⟨g, 0, rfl, lt_of_some hr, fun i hi => ?_⟩⟩
    rw [Nat.zero_add]
    have := hc i (.int .u8 (((bs.getD i 0).toNat : Nat) : Int)) (by simp [bytesV, List.getElem?_eq_getElem (show i < bs.length by omega)])
    first | exact this | (rw [add_at, Nat.zero_add] at this; exact this)
end Go.Proofs.Yteiigaoniipedaa
