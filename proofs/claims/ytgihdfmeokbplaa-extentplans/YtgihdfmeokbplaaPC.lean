/- slices.SortFunc at spans. -/
import Derived.Test.YtgihdfmeokbplaaPB
import Derived.Test.YtgihdfmeokbplaaPS
import Derived.Shelf.SlSortCmp.WholeK
namespace Go.Proofs.Ytgihdfmeokbplaa
open Go.Shelf Go.RowKit Go.Lib Go.Sort Ex
theorem ltI (x y : Sp) : ltOf (fun x y : Sp => cmpI x.1 y.1) x y = decide (x.1 < y.1) := by
  unfold ltOf cmpI
  by_cases h1 : x.1 < y.1
  · simp [h1]
  · by_cases h2 : y.1 < x.1 <;> simp [h1, h2]
theorem swoI : SWO (ltOf fun x y : Sp => cmpI x.1 y.1) where
  irrefl x := by rw [ltI]; simp
  trans x y z h1 h2 := by rw [ltI] at *; simp at *; omega
  ntrans x y z h1 h2 := by rw [ltI] at *; simp at *; omega
set_option maxHeartbeats 1000000 in
theorem planCmp_grow (s x : Sp) (W : World) : Calls Try.prog 46 #[.agg #[.int .i64 s.1, .int .i64 s.2], .agg #[.int .i64 x.1, .int .i64 x.2]] W fun e w' => e = .returned (.int .i64 (cmpI s.1 x.1)) ∧ ∃ q os', w' = grow (W.drewN q) os' := by
  have HC : Hid (∀ V, Calls Try.prog 47 #[.int .i64 s.1, .int .i64 x.1] V fun e w' => e = .returned (.int .i64 (cmpI s.1 x.1)) ∧ w' = V) := fun V => cmp_any s.1 x.1 V
  go_enter Try.func46, Try.ntmps46
  go_wp2_with fail
  refine (HC.out _).mono ?_
  rintro e V ⟨rfl, hV⟩
  subst V
  go_wp2
  go_ret
  exact ⟨rfl, 0, _, by rw [alloc_eq_grow, alloc_eq_grow, grow_grow]; rfl⟩
theorem planLays (blk off size : Nat) (w : World) : CmpLays Try.prog 46 #[] spV 2 (fun x y : Sp => cmpI x.1 y.1) blk off size w :=
  fun _ _ _ _ x y => planCmp_grow x y _
theorem sort_any {w : World} {blk off cap : Nat} {d : Array Sp} (hH : HoldsK spV 2 w blk off d) (hblk : blk < w.heap.size) (hsz : d.size < 4611686018427387904) :
    Calls Try.prog 45 #[.slice (some ⟨blk, off, none⟩) d.size cap, .func (.func 46) #[] #[]] w fun e w' => e = .returned (.tuple #[]) ∧ ∃ d' n os, PermIn 0 d.size d d' ∧ SortedIn (ltOf fun x y : Sp => cmpI x.1 y.1) 0 d.size d' ∧ w' = sortWorldK spV 2 w blk off n d' os := by
  have eg : ∀ args w, (callFunc 46 args).run Try.prog w = .ok (.enter 46 args) w := enters_of Try.func46 (by kernel_rfl) rfl
  exact AnyQ.slices_SortFunc Try.sortSp 2 Try.isAgg37 Try.sizeOf37 spV (fun _ => rfl) (fun x v hv => by simp [spV] at hv; rcases hv with rfl | rfl <;> rfl) (fun x y : Sp => cmpI x.1 y.1) swoI 46 #[] blk off cap d w eg (planLays blk off d.size w) hH hblk hsz
end Go.Proofs.Ytgihdfmeokbplaa
