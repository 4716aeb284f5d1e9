/- Strings of bytes; the contracts as the statements' walks take them. -/
import Derived.Test.YtbomopjngpnghabF
namespace Go.Proofs.Ytbomopjngpnghab
open Go.RowKit

/-- Bytes, as a string. -/
def strOf (bs : List UInt8) : ByteArray := ⟨bs.toArray⟩
theorem strOf_append (a b : List UInt8) : strOf (a ++ b) = strOf a ++ strOf b := by
  unfold strOf; rw [ByteArray.mk_append_mk]
theorem strOf_size (a : List UInt8) : (strOf a).size = a.length := by simp [strOf, ByteArray.size]
theorem Bs.str {w : World} {a : Option Addr} {len cap : Nat} {bs : List UInt8} (h : Bs w a len cap bs) : (convert 22 9 (.slice a len cap)).run Try.prog w = .ok (.string (strOf bs)) w := h.conv
theorem Bs.drewIff {w : World} {a : Option Addr} {len cap : Nat} {bs : List UInt8} : Bs w.drew a len cap bs ↔ Bs w a len cap bs := Iff.rfl

theorem Bs.on {w w' : World} {a : Option Addr} {len cap : Nat} {bs : List UInt8} (hb : Below w.heap.size w w') (h : Bs w a len cap bs) : Bs w' a len cap bs := h.below hb
theorem below_on {B : Nat} {w0 w w' : World} (hb : Below w.heap.size w w') (h : Below B w0 w) (hB : B ≤ w.heap.size) : Below B w0 w' := h.trans (hb.mono hB)

theorem put_ex (a : Option Addr) (len cap : Nat) (bs : List UInt8) (n : Nat) (w : World) (h : Bs w a len cap bs) (hb : len ≤ 900000) (hn : n < 18446744073709551616) :
    Calls Try.prog 6 #[.slice a len cap, .int .u64 (n : Int)] w fun e w' => ∃ g, e = .returned (.slice (some ⟨g, 0, none⟩) (len + (putN n).length) (len + (putN n).length)) ∧
      Bs w' (some ⟨g, 0, none⟩) (len + (putN n).length) (len + (putN n).length) (bs ++ putN n) ∧ Below w.heap.size w w' := by
  refine (put_any a len cap bs n w h hb hn).mono ?_
  rintro e w' ⟨rfl, h1, h2⟩
  exact ⟨_, rfl, Bs.owned h1, h2⟩
theorem size_ex (n : Nat) (w : World) (hn : n < 18446744073709551616) : Calls Try.prog 12 #[.int .u64 (n : Int)] w fun e w' => e = .returned (.int .i64 ((putN n).length : Int)) ∧ w' = w := by
  have := size_any (n : Int) w (by omega) (by omega)
  simpa [sizeI] using this

end Go.Proofs.Ytbomopjngpnghab
