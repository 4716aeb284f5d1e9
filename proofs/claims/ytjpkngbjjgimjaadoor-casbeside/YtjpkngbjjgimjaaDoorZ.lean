/- What the laid tables say to the walks. -/
import Derived.Test.YtjpkngbjjgimjaaDoorRows
import Derived.Test.YtjpkngbjjgimjaaDoorY
import Derived.ProofKit
import Derived.LaidMore
import Derived.OpenShut
import Derived.Stop.Joined
namespace Go.Proofs.YtjpkngbjjgimjaaDoor
open Go.ChangeShapes Go.WideShapes Go.ChangeAt Go.WideMaps Go.WideElems Go.RowKit
theorem own : ownKnob Tryd.prog.godebug = none := by kernel_rfl
def laid2 : List (String × DataW Unit) := [("strongroom/sha.firstState", Rows.laid_strongroom_sha_firstState), ("strongroom/sha.cubeWords", Rows.laid_strongroom_sha_cubeWords)]
theorem gFirst : Tryd.prog.globalNamed "strongroom/sha.firstState" = some 0 := by kernel_rfl
theorem gCube : Tryd.prog.globalNamed "strongroom/sha.cubeWords" = some 1 := by kernel_rfl
theorem tFirst : (Tryd.prog.globals[0]?).map (·.type) = some 97 := by kernel_rfl
theorem tCube : (Tryd.prog.globals[1]?).map (·.type) = some 103 := by kernel_rfl
theorem first_is : (Rows.laid_strongroom_sha_firstState : DataW Unit) = .agg (ivL.map fun (x : Nat) => .lit (.int .u32 (x : Int))) := by kernel_rfl
theorem cube_is : (Rows.laid_strongroom_sha_cubeWords : DataW Unit) = .agg (kL.map fun (x : Nat) => .lit (.int .u32 (x : Int))) := by kernel_rfl
theorem row_cells {H : Type} {enc : TypeId × Value → H} {W : World} {base fuel n g : Nat} {spare : Nat → Bool} {held : Bool} {t : TypeId} {cs : Array Value} {name : String} {x : DataW H × List MemPlace} (nums : List Nat)
    (hg : Tryd.prog.globalNamed name = some g) (hv : W.var? Tryd.prog name = some cs) (ht : Tryd.prog.underlying t = some (.array n 76))
    (hd : DataW.trod enc Tryd.prog W base spare held fuel t cs.toList = some x) (hx : x.1 = .agg (nums.map fun (x : Nat) => .lit (.int .u32 (x : Int)))) (i : Nat) (hi : i < n) :
    W.cell? ⟨g, i, none⟩ = some (.int .u32 ((nums.getD i 0 : Nat) : Int)) := by
  obtain ⟨xs, m, rfl, rfl, hlen, hn, hel⟩ := DataW.trod_array ht hd
  have h0 := hel i hi
  rw [show Tryd.prog.cellsOf 76 = 1 by kernel_rfl, Nat.mul_one, List.getElem?_eq_getElem (by omega)] at h0
  obtain ⟨k, e1, e2, _⟩ := DataW.trod_int Tryd.underlying76 h0
  have hc : cs[i]? = some (.int .u32 k) := by
    have : ((cs.toList.drop i).take 1)[0]? = some (.int .u32 k) := by rw [e1]; rfl
    rw [List.getElem?_take_of_lt (by omega), List.getElem?_drop] at this
    simpa using this
  rw [World.var?_cell hg hv i, hc]
  have hx' : xs.map (·.1) = nums.map fun (x : Nat) => .lit (.int .u32 (x : Int)) := by simpa using hx
  have h1 : (xs.map (·.1))[i]? = some (.lit (.int .u32 k)) := by
    rw [List.getElem?_map, List.getElem?_eq_getElem (by omega), e2]; rfl
  rw [hx', List.getElem?_map] at h1
  cases hq : nums[i]? with
  | none => rw [hq] at h1; cases h1
  | some y =>
    rw [hq] at h1
    rw [List.getD_eq_getElem?_getD, hq]
    simp at h1
    simp [h1]
theorem of_laid {W : World} (h : laidMetH Tryd.prog laid2 W) : Laid W := by
  rw [MakeChecks.laidMetH_plain _ _ _ (by kernel_rfl)] at h
  obtain ⟨ps, ⟨g0, t0, cs0, f0, p0, q0, hg0, ht0, hv0, hd0, ⟨g1, t1, cs1, f1, p1, q1, hg1, ht1, hv1, hd1, _, _⟩, _⟩, _, _⟩ := h
  obtain rfl := Option.some.inj (gFirst.symm.trans hg0)
  obtain rfl := Option.some.inj (gCube.symm.trans hg1)
  obtain rfl := Option.some.inj (tFirst.symm.trans ht0)
  obtain rfl := Option.some.inj (tCube.symm.trans ht1)
  exact ⟨fun i hi => row_cells ivL gFirst hv0 Tryd.underlying97 hd0 first_is i hi, fun i hi => row_cells kL gCube hv1 Tryd.underlying103 hd1 cube_is i hi⟩
/-- The heap that the program's start leaves meets the condition. -/
theorem door_met (os : Os) (args : Array Value) : laidMetH Tryd.prog laid2 ((World.doorLaid Tryd.prog 19 os).forCall (fun _ _ => 0) ⟨#[], args, []⟩).memory :=
  laidMetH_of_parts3 (fuel := 8) (laidMet_of_run' 8 (by kernel_rfl) (by kernel_rfl)) (by kernel_rfl) (by kernel_rfl)
end Go.Proofs.YtjpkngbjjgimjaaDoor
