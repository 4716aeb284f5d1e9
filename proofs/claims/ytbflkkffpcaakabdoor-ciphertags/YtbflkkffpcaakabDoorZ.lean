/- What the laid tables say to the walks. -/
import Derived.Test.YtbflkkffpcaakabDoorRows
import Derived.Test.YtbflkkffpcaakabDoorY
import Derived.ProofKit
import Derived.LaidMore
import Derived.OpenShut
import Derived.Stop.Joined
namespace Go.Proofs.YtbflkkffpcaakabDoor
open Go.ChangeShapes Go.WideShapes Go.ChangeAt Go.WideMaps Go.WideElems Go.RowKit
theorem own : ownKnob Tryd.prog.godebug = none := by kernel_rfl
def laid2 : List (String × DataW Unit) := [("strongroom/sha.firstState", Rows.laid_strongroom_sha_firstState), ("strongroom/sha.cubeWords", Rows.laid_strongroom_sha_cubeWords), ("strongroom/cipher.quarters", Rows.laid_strongroom_cipher_quarters)]
theorem gFirst : Tryd.prog.globalNamed "strongroom/sha.firstState" = some 1 := by kernel_rfl
theorem gCube : Tryd.prog.globalNamed "strongroom/sha.cubeWords" = some 2 := by kernel_rfl
theorem tFirst : (Tryd.prog.globals[1]?).map (·.type) = some 63 := by kernel_rfl
theorem tCube : (Tryd.prog.globals[2]?).map (·.type) = some 74 := by kernel_rfl
theorem first_is : (Rows.laid_strongroom_sha_firstState : DataW Unit) = .agg (ivL.map fun (x : Nat) => .lit (.int .u32 (x : Int))) := by kernel_rfl
theorem cube_is : (Rows.laid_strongroom_sha_cubeWords : DataW Unit) = .agg (kL.map fun (x : Nat) => .lit (.int .u32 (x : Int))) := by kernel_rfl
theorem gQuart : Tryd.prog.globalNamed "strongroom/cipher.quarters" = some 0 := by kernel_rfl
theorem tQuart : (Tryd.prog.globals[0]?).map (·.type) = some 57 := by kernel_rfl
theorem quart_is : (Rows.laid_strongroom_cipher_quarters : DataW Unit) = .agg (qPlaces.map fun p => .agg (p.map fun (x : Nat) => .lit (.int .i64 (x : Int)))) := by kernel_rfl
theorem quart_len : ∀ i, i < 8 → (qPlaces.getD i []).length = 4 := by decide
theorem quart_cells {H : Type} {enc : TypeId × Value → H} {W : World} {base fuel g : Nat} {spare : Nat → Bool} {held : Bool} {cs : Array Value} {name : String} {x : DataW H × List MemPlace}
    (hg : Tryd.prog.globalNamed name = some g) (hv : W.var? Tryd.prog name = some cs)
    (hd : DataW.trod enc Tryd.prog W base spare held fuel 57 cs.toList = some x) (hx : x.1 = .agg (qPlaces.map fun p => .agg (p.map fun (x : Nat) => .lit (.int .i64 (x : Int))))) (i : Nat) (hi : i < 8) (k : Nat) (hk : k < 4) :
    W.cell? ⟨g, i * 4 + k, none⟩ = some (.int .i64 (((qPlaces.getD i []).getD k 0 : Nat) : Int)) := by
  obtain ⟨xs, m, rfl, rfl, hlen, hn, hel⟩ := DataW.trod_array Tryd.underlying57 hd
  have h0 := hel i hi
  rw [show Tryd.prog.cellsOf 56 = 4 by kernel_rfl, List.getElem?_eq_getElem (by omega)] at h0
  obtain ⟨y, hy⟩ : ∃ y, xs[i]? = some y := ⟨_, List.getElem?_eq_getElem (by omega)⟩
  have hy2 : xs[i]'(by omega) = y := by
    have := List.getElem?_eq_getElem (l := xs) (i := i) (by omega)
    rw [hy] at this
    exact (Option.some.inj this).symm
  rw [hy2] at h0
  obtain ⟨ys, m2, rfl, rfl, hlen2, hn2, hel2⟩ := DataW.trod_array Tryd.underlying56 h0
  have h1 := hel2 k hk
  rw [show Tryd.prog.cellsOf 3 = 1 by kernel_rfl, Nat.mul_one, List.getElem?_eq_getElem (by omega)] at h1
  obtain ⟨v, e1, e2, _⟩ := DataW.trod_int Tryd.underlying3 h1
  have hc : cs[i * 4 + k]? = some (.int .i64 v) := by
    have : ((((cs.toList.drop (i * 4)).take 4).drop k).take 1)[0]? = some (.int .i64 v) := by rw [e1]; rfl
    rw [List.getElem?_take_of_lt (by omega), List.getElem?_drop, List.getElem?_take_of_lt (by omega), List.getElem?_drop] at this
    simpa using this
  rw [World.var?_cell hg hv, hc]
  have hx' : xs.map (·.1) = qPlaces.map fun p => .agg (p.map fun (x : Nat) => .lit (.int .i64 (x : Int))) := by simpa using hx
  have h2 : (xs.map (·.1))[i]? = some (.agg (ys.map (·.1))) := by rw [List.getElem?_map, hy]; rfl
  rw [hx', List.getElem?_map] at h2
  have hq : qPlaces[i]? = some (qPlaces.getD i []) := by
    rw [List.getD_eq_getElem?_getD, List.getElem?_eq_getElem (show i < qPlaces.length from hi)]; rfl
  rw [hq] at h2
  have h3 : (qPlaces.getD i []).map (fun (x : Nat) => (.lit (.int .i64 (x : Int)) : DataW H)) = ys.map (·.1) := by simpa using h2
  have h4 : (ys.map (·.1))[k]? = some (.lit (.int .i64 v)) := by rw [List.getElem?_map, List.getElem?_eq_getElem (by omega), e2]; rfl
  rw [← h3, List.getElem?_map] at h4
  have hl := quart_len i hi
  obtain ⟨z, hz⟩ : ∃ z, (qPlaces.getD i [])[k]? = some z := ⟨_, List.getElem?_eq_getElem (by omega)⟩
  rw [hz] at h4
  rw [List.getD_eq_getElem?_getD (l := qPlaces.getD i []), hz]
  simp at h4
  simp [h4]
theorem row_cells {H : Type} {enc : TypeId × Value → H} {W : World} {base fuel n g : Nat} {spare : Nat → Bool} {held : Bool} {t : TypeId} {cs : Array Value} {name : String} {x : DataW H × List MemPlace} (nums : List Nat)
    (hg : Tryd.prog.globalNamed name = some g) (hv : W.var? Tryd.prog name = some cs) (ht : Tryd.prog.underlying t = some (.array n 32))
    (hd : DataW.trod enc Tryd.prog W base spare held fuel t cs.toList = some x) (hx : x.1 = .agg (nums.map fun (x : Nat) => .lit (.int .u32 (x : Int)))) (i : Nat) (hi : i < n) :
    W.cell? ⟨g, i, none⟩ = some (.int .u32 ((nums.getD i 0 : Nat) : Int)) := by
  obtain ⟨xs, m, rfl, rfl, hlen, hn, hel⟩ := DataW.trod_array ht hd
  have h0 := hel i hi
  rw [show Tryd.prog.cellsOf 32 = 1 by kernel_rfl, Nat.mul_one, List.getElem?_eq_getElem (by omega)] at h0
  obtain ⟨k, e1, e2, _⟩ := DataW.trod_int Tryd.underlying32 h0
  have hc : cs[i]? = some (.int .u32 k) := by
    have : ((cs.toList.drop i).take 1)[0]? = some (.int .u32 k) := by rw [e1]; rfl
    rw [List.getElem?_take_of_lt (by omega), List.getElem?_drop] at this
    simpa using this
  rw [World.var?_cell hg hv i, hc]
  have hx' : xs.map (·.1) = nums.map fun (x : Nat) => .lit (.int .u32 (x : Int)) := by simpa using hx
  have h1 : (xs.map (·.1))[i]? = some (.lit (.int .u32 k)) := by
    rw [List.getElem?_map, List.getElem?_eq_getElem (by omega), e2]; rfl
  rw [hx', List.getElem?_map] at h1
  cases hq : nums[i]? with
  | none => rw [hq] at h1; cases h1
  | some y =>
    rw [hq] at h1
    rw [List.getD_eq_getElem?_getD, hq]
    simp at h1
    simp [h1]
theorem of_laid {W : World} (h : laidMetH Tryd.prog laid2 W) : Laid W := by
  rw [MakeChecks.laidMetH_plain _ _ _ (by kernel_rfl)] at h
  obtain ⟨ps, ⟨g0, t0, cs0, f0, p0, q0, hg0, ht0, hv0, hd0, ⟨g1, t1, cs1, f1, p1, q1, hg1, ht1, hv1, hd1, ⟨g2, t2, cs2, f2, p2, q2, hg2, ht2, hv2, hd2, _, _⟩, _⟩, _⟩, _, _⟩ := h
  obtain rfl := Option.some.inj (gFirst.symm.trans hg0)
  obtain rfl := Option.some.inj (gCube.symm.trans hg1)
  obtain rfl := Option.some.inj (gQuart.symm.trans hg2)
  obtain rfl := Option.some.inj (tQuart.symm.trans ht2)
  obtain rfl := Option.some.inj (tFirst.symm.trans ht0)
  obtain rfl := Option.some.inj (tCube.symm.trans ht1)
  exact ⟨fun i hi => row_cells ivL gFirst hv0 Tryd.underlying63 hd0 first_is i hi, fun i hi => row_cells kL gCube hv1 Tryd.underlying74 hd1 cube_is i hi, fun i hi k hk => quart_cells gQuart hv2 hd2 quart_is i hi k hk⟩
end Go.Proofs.YtbflkkffpcaakabDoor
