/- The walks over num.Put and the document's Put. -/
import Derived.Test.YtbomopjngpnghabP
import Derived.Laws.BytesArg
import Derived.Deep.RegionWith
namespace Go.Proofs.Ytbomopjngpnghab
open Go.RowKit

set_option maxHeartbeats 400000 in
theorem put_any (a : Option Addr) (len cap : Nat) (bs : List UInt8) (n : Nat) (w : World) (h : Bs w a len cap bs) (hb : len ≤ 900000) (hn : n < 18446744073709551616) :
    Calls Try.prog 6 #[.slice a len cap, .int .u64 (n : Int)] w fun e w' => e = .returned (.slice (some ⟨w.heap.size, 0, none⟩) (len + (putN n).length) (len + (putN n).length)) ∧
      w'.ownsRow w.heap.size 5 1 (.slice (some ⟨w.heap.size, 0, none⟩) (len + (putN n).length) (len + (putN n).length)) (len + (putN n).length) (bytesV (bs ++ putN n)) ∧ Below w.heap.size w w' := by
  have h10 := putN_le10 n hn
  have hsI : sizeI (n : Int) = ((putN n).length : Int) := by simp [sizeI]
  obtain ⟨rfl, _⟩ : bs.length = len ∧ True := ⟨h.1, trivial⟩
  have hn' : (n : Int) ≤ 18446744073709551615 := by omega
  have HN : Hid (n < 18446744073709551616) := hn
  clear hn
  go_enter Try.func6, Try.ntmps6
  go_wp2_with (go_at_call 12; refine (size_any _ _ (by omega) hn').mono ?_; rintro e w' ⟨rfl, rfl⟩)
  refine (room_any a bs.length cap (putN n).length bs _ h (by omega)).mono ?_
  rintro e w1 ⟨rfl, hown1, hbel1⟩
  go_wp2_with fail
  refine (append_any _ _ _ bs n _ HN.out (Nat.le_refl _) hown1).mono ?_
  rintro e w2 ⟨rfl, hown2, hgrow2⟩
  clear hown1
  go_wp2
  go_ret
  exact ⟨rfl, hown2, hbel1.grown hgrow2 hbel1.size (by simp)⟩

/-- One byte, made a string. -/
theorem conv_one (W : World) (g c : Nat) (x : Int) (h : W.cell? ⟨g, 0, none⟩ = some (.int .u8 x)) : (convert 22 9 (.slice (some ⟨g, 0, none⟩) 1 c)).run Try.prog W = .ok (.string (strOfNums [x])) W := by
  refine run_convert_bytes_arg W 22 5 Try.underlying22 Try.underlying5 g 0 1 c [x] rfl (fun i hi => ?_) 9 Try.underlying9
  obtain rfl : i = 0 := by omega
  simpa using h

def putS (n : Nat) : ByteArray := ⟨(putN n).toArray⟩
theorem putS_small {x : Int} (h : x < 128) : putS x.toNat = strOfNums [x] := by
  unfold putS strOfNums; rw [putN_small (by omega)]; rfl
theorem putS_more {x : Int} (h : ¬ x < 128) : putS x.toNat = strOfNums [x % 128 + 128] ++ putS (x / 128).toNat := by
  unfold putS strOfNums
  rw [putN_more (by omega), ByteArray.mk_append_mk]
  have e1 : (x % 128 + 128).toNat = x.toNat % 128 + 128 := by omega
  have e2 : (x / 128).toNat = x.toNat / 128 := by omega
  simp only [List.map_cons, List.map_nil, e1, e2, List.singleton_append]
theorem putS_size (n : Nat) : (putS n).size = (putN n).length := by simp [putS, ByteArray.size]

theorem bcell {W w1 : World} (hb : Below W.heap.size W w1) : (∀ b o, b < W.heap.size → w1.cell? ⟨b, o, none⟩ = W.cell? ⟨b, o, none⟩) ∧ (∀ b o, b < W.heap.size → w1.frozen? ⟨b, o, none⟩ = W.frozen? ⟨b, o, none⟩) :=
  ⟨fun b o h => hb.cell (p := ⟨b, o, none⟩) h, fun b o h => hb.frozen (p := ⟨b, o, none⟩) h⟩

theorem undrew {B : Nat} {w w' : World} (hb : Below B w.drew w') : Below B w w' := ⟨hb.os, hb.tape, hb.output, hb.size, hb.block⟩
theorem below_after {w w' : World} {o : Obj} (hb : Below (w.alloc o).heap.size (w.alloc o) w') : Below w.heap.size w w' :=
  ((Below.refl _ _).alloc (Nat.le_refl _) o).trans (hb.mono (by simp))

/-- What a call owns, as a slice of bytes. -/
theorem Bs.owned {w : World} {base g n cap : Nat} {bs : List UInt8} (h : w.ownsRow base 5 1 (.slice (some ⟨g, 0, none⟩) n cap) n (bytesV bs)) : Bs w (some ⟨g, 0, none⟩) n cap bs := by
  have hl : bs.length = n := by have := h.1; simpa [bytesV] using this
  have hc := h.cells (g := g) rfl
  obtain ⟨_, h2⟩ := h
  rcases h2 with ⟨h2, _⟩ | ⟨g', cap', cur, e, _, _, h3, h4, _⟩
  · cases h2
  · cases e
    refine ⟨hl, h3, by simpa [maxLen] using h4, (by intro e; cases e), ?_⟩
    intro ad had i hi
    cases had
    exact hc i _ (by simp [bytesV, hi])

/-- string(b), of whatever slice of bytes. -/
theorem Bs.conv {w : World} {a : Option Addr} {len cap : Nat} {bs : List UInt8} (h : Bs w a len cap bs) : (convert 22 9 (.slice a len cap)).run Try.prog w = .ok (.string ⟨bs.toArray⟩) w := by
  by_cases h0 : 0 < len
  · obtain ⟨b, off, rfl, hc⟩ := h.at h0
    have hl := h.1
    rw [run_convert_bytes_arg w 22 5 Try.underlying22 Try.underlying5 b off len cap (bs.map fun u => (u.toNat : Int)) (by simpa using hl) (fun i hi => by
      rw [hc i (by omega)]
      simp [List.getD, show i < bs.length by omega]) 9 Try.underlying9]
    congr 3
    simp [strOfNums, List.map_map, Function.comp_def]
  · have hb : bs = [] := List.eq_nil_of_length_eq_zero (by have := h.1; omega)
    subst hb
    obtain rfl : len = 0 := by omega
    cases a with
    | none => exact run_convert_bytes_nil w 22 5 Try.underlying22 Try.underlying5 0 cap 9 Try.underlying9
    | some ad =>
      rw [run_convert_bytes_string w 22 9 5 _ 0 cap Try.underlying22 Try.underlying5 Try.underlying9, run_bytesToString w ad 0 cap [] (by simp [loadCells, loadCellsFrom])]
      rfl

theorem Bs.below {w w' : World} {a : Option Addr} {len cap : Nat} {bs : List UInt8} (h : Bs w a len cap bs) (hb : Below w.heap.size w w') : Bs w' a len cap bs := by
  refine ⟨h.1, h.2.1, h.2.2.1, h.2.2.2.1, fun ad had i hi => ?_⟩
  have := h.2.2.2.2 ad had i hi
  rw [hb.cell (World.block_lt_of_cell? w _ this)]
  exact this
end Go.Proofs.Ytbomopjngpnghab
