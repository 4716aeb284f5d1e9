/- The walk over NumPuts. -/
import Derived.Test.YtbomopjngpnghaaS
namespace Go.Proofs.Ytbomopjngpnghaa
open Go.RowKit

set_option maxHeartbeats 8000000 in
theorem numPuts_walk (a : Option Addr) (len cap : Nat) (bs : List UInt8) (n : Nat) (w : World) (h : Bs w a len cap bs) (hn : n < 18446744073709551616) :
    Calls Try.prog 3 #[.slice a len cap, .int .u64 (n : Int)] w fun e w' => e = .returned (.bool true) ∧ Below w.heap.size w w' := by
  have hm : len ≤ 9223372036854775807 := Nat.le_trans h.2.1 h.2.2.1
  by_cases h20 : len ≤ 20000
  · have h9 : len ≤ 900000 := by omega
    have hsz1 : (strOf bs).size ≤ 20000 := by rw [strOf_size, h.1]; exact h20
    have hsz2 : (putS n).size = (putN n).length := putS_size n
    have hsz3 := putN_le10 n hn
    have hst : strOf (bs ++ putN n) = strOf bs ++ putS n := strOf_append bs (putN n)
    have hcv : ∀ W, Bs W a len cap bs → (convert 22 9 (.slice a len cap)).run Try.prog W = .ok (.string (strOf bs)) W := fun W h => h.str
    have HN : Hid (n < 18446744073709551616) := hn
    have hdr := @Bs.drewIff
    clear hn
    go_enter Try.func3, Try.ntmps3
    go_wp2_with (go_at_call 9; refine (small_yes _ _ _ _ h20).mono ?_; rintro e w' ⟨rfl, rfl⟩)
    go_region_with (first
      | (go_at_call 11; refine (put_ex a len cap bs n _ ?_ h9 HN.out).mono ?_; exact h; rintro e w1 ⟨g, rfl, hg, hb⟩; have hB := Bs.on hb h; have hb := undrew hb; have hcv1 : ∀ W, Bs W (some ⟨g, 0, none⟩) (len + (putN n).length) (len + (putN n).length) (bs ++ putN n) → (convert 22 9 (.slice (some ⟨g, 0, none⟩) (len + (putN n).length) (len + (putN n).length))).run Try.prog W = .ok (.string (strOf (bs ++ putN n))) W := fun W h => h.str)
      | (go_at_call 12; refine (rput_ex n _ HN.out).mono ?_; rintro e w2 ⟨rfl, hb2⟩; have hB := Bs.on hb2 hB; have hg := Bs.on hb2 hg; have hb := below_on hb2 hb hb.size)
      | (go_at_call 13; refine (size_ex n _ HN.out).mono ?_; rintro e w2 ⟨rfl, rfl⟩)
      | (go_at_call 10; refine (lives_any _).mono ?_; rintro e w3 ⟨rfl, hb3⟩; have hb := below_on hb3 hb hb.size))
    all_goals
      go_wp2
      go_ret
      exact ⟨rfl, hb⟩
  · go_enter Try.func3, Try.ntmps3
    go_wp2_with (first | (go_at_call 9; refine (small_no _ _ _ _ _ hm h20).mono ?_; rintro e w' ⟨rfl, rfl⟩) | (go_at_call 10; refine (lives_any _).mono ?_; rintro e w' ⟨rfl, hbel⟩))
    go_ret
    exact ⟨rfl, hbel⟩
end Go.Proofs.Ytbomopjngpnghaa
