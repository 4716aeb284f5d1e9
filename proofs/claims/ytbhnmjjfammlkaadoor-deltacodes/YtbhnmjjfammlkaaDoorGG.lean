/- What the laws' frames want; blocks put together. A map of places; an index in memory. -/
import Derived.Test.YtbhnmjjfammlkaaDoorGE
import Derived.Test.YtbhnmjjfammlkaaDoorBA
import Derived.SliceStrings
import Derived.SizedLaws
import Derived.WalkKit
import Derived.ProofKit
import Derived.OpenShut
import Derived.ShutString
import Derived.Maps.OwnRows
import Derived.Maps.Views
namespace Go.Proofs.YtbhnmjjfammlkaaDoor
open Go.ChangeShapes Go.WideShapes Go.ChangeAt Go.RowKit
theorem laidOut : laidOutB Tryd.prog = true := by kernel_rfl
theorem wf_i64 {n : Int} (h : (Lit.int .i64 n).wf = true) : -9223372036854775808 ≤ n ∧ n ≤ 9223372036854775807 := by
  simp [Lit.wf, IntKind.min, IntKind.max, IntKind.signed, IntKind.bits] at h
  omega
theorem ext_l (u : ByteArray) (i k : Nat) : (u.extract i k).data.toList = (u.data.toList.drop i).take (k - i) := by
  rw [ByteArray.data_extract, Array.toList_extract, List.extract_eq_take_drop]
theorem ba_ext {a b : ByteArray} (h : a.data.toList = b.data.toList) : a = b := by
  apply ByteArray.ext
  exact Array.toList_inj.1 h
def catL (l : List ByteArray) : ByteArray := l.foldl (· ++ ·) ⟨#[]⟩
theorem catL_snoc (l : List ByteArray) (s : ByteArray) : catL (l ++ [s]) = catL l ++ s := by unfold catL; rw [List.foldl_append]; rfl
theorem cat_to (t : ByteArray) (z : Nat) : ∀ i, (i = 0 ∨ (i - 1) * z < t.size) → catL ((List.range i).map (blk t z)) = t.extract 0 (min (i * z) t.size)
  | 0, _ => by
    apply ba_ext
    rw [ext_l]
    simp [catL]
  | i + 1, h => by
    have hi : i * z < t.size := by
      rcases h with h | h
      · omega
      · exact h
    have ih := cat_to t z i (by
      rcases Nat.eq_zero_or_pos i with h0 | h0
      · exact .inl h0
      · refine .inr (Nat.lt_of_le_of_lt (Nat.mul_le_mul_right _ (by omega)) hi))
    rw [range_next, catL_snoc, ih]
    unfold blk
    apply ba_ext
    have e : (t.extract 0 (min (i * z) t.size) ++ t.extract (i * z) (min (i * z + z) t.size)).data.toList = (t.extract 0 (min (i * z) t.size)).data.toList ++ (t.extract (i * z) (min (i * z + z) t.size)).data.toList := by simp
    rw [e, ext_l, ext_l, ext_l, Nat.succ_mul, Nat.min_eq_left (Nat.le_of_lt hi)]
    simp only [List.drop_zero, Nat.sub_zero]
    obtain ⟨p, hp⟩ : ∃ p, i * z = p := ⟨_, rfl⟩
    rw [hp]
    obtain ⟨q, hq⟩ : ∃ q, min (p + z) t.size = p + q := ⟨min (p + z) t.size - p, by omega⟩
    rw [hq, Nat.add_sub_cancel_left, List.take_add]
theorem cat_all {t : ByteArray} {x : Int} (h : (blocksF t x).2 = 0) : catL (blocksF t x).1 = t := by
  unfold blocksF at h ⊢
  split at h
  · simp at h
  · split at h
    · simp at h
    · rename_i h1 h2
      rw [if_neg h1, if_neg h2]
      simp only
      obtain ⟨z, hz⟩ : ∃ z, x.toNat = z := ⟨_, rfl⟩
      have hz1 : 1 ≤ z := by omega
      rw [hz]
      obtain ⟨k, hk⟩ : ∃ k, nBl t z = k := ⟨_, rfl⟩
      have h5 : t.size ≤ k * z := by
        rw [← hk]
        unfold nBl
        have h6 := Nat.div_add_mod (t.size + z - 1) z
        have h7 := Nat.mod_lt (t.size + z - 1) hz1
        rw [Nat.mul_comm] at h6
        omega
      have h6 : k * z ≤ t.size + z - 1 := by
        rw [← hk]
        unfold nBl
        exact Nat.div_mul_le_self _ _
      unfold blocksL
      rw [hk, cat_to t z k (by
        rcases Nat.eq_zero_or_pos k with h0 | h0
        · exact .inl h0
        · right
          obtain ⟨j, rfl⟩ : ∃ j, k = j + 1 := ⟨k - 1, by omega⟩
          rw [Nat.succ_mul] at h6
          simp only [Nat.add_sub_cancel]
          omega), Nat.min_eq_right h5]
      apply ba_ext
      rw [ext_l]
      simp
      exact List.take_of_length_le (Nat.le_refl _)
end Go.Proofs.YtbhnmjjfammlkaaDoor
namespace Go.Proofs.YtbhnmjjfammlkaaDoor
open Go.RowKit Go.Maps Go.ChangeShapes
open Go.WideElems (Fit rd rg pl rd_val elemAt)
theorem keyedW : Keyed Tryd.prog 63 := int_keyed Tryd.underlying63
theorem zeroInts (w : World) : (zeroValue 98).run Tryd.prog w = .ok (.slice none 0 0) w := by kernel_rfl
theorem wfW {n : Nat} (h : n < 4294967296) : (Lit.int .u32 (n : Int)).wf = true := by
  simp [Lit.wf, IntKind.min, IntKind.max, IntKind.signed, IntKind.bits]
  omega
theorem wfI {n : Nat} (h : n < 9223372036854775807) : (Lit.int .i64 (n : Int)).wf = true := by
  simp [Lit.wf, IntKind.min, IntKind.max, IntKind.signed, IntKind.bits]
  omega
/-- A map of rows of numbers. -/
def Grp (w : World) (base mb n : Nat) (D : DataW Unit) : Prop := w.ownsGroups Tryd.prog 63 base 3 .i64 mb n D
theorem Grp.below {w w' : World} {base mb n : Nat} {D : DataW Unit} (h : Grp w base mb n D) (hb : Below w.heap.size w w') : Grp w' base mb n D := by
  obtain ⟨es, clock, h1, F, h2, h3, h4, h5, h6⟩ := h
  have owned : ∀ x ∈ es.toList, ∃ zs, w.ownsInts base 3 .i64 x.val zs := fun x hx => by
    obtain ⟨y, hy⟩ := F.reads x hx
    obtain ⟨z, hz, _⟩ := rd_val hy
    obtain ⟨zs, ho, _⟩ := rowElem_inv hz
    exact ⟨zs, ho⟩
  have keep : ∀ v zs, w.ownsInts base 3 .i64 v zs → w'.ownsInts base 3 .i64 v zs := fun v zs ho => ⟨own_keep ho.1 (fun k hk => hb.block k (ho.1.lt k hk).2), ho.2⟩
  obtain ⟨F2, hmap, _⟩ := F.stay (R' := rowElem (H := Unit) w' base 3 .i64) (fun x _ z hz => by
    obtain ⟨zs, ho, rfl⟩ := rowElem_inv hz
    exact rowElem_mk (keep _ _ ho))
  refine ⟨es, clock, (hb.block mb (lt_of_some h1)).trans h1, F2, h2, by rw [hmap]; exact h3, h4, fun x hx zs ho => ?_, h6⟩
  obtain ⟨ys, hy⟩ := owned x hx
  rw [ho.unique (keep _ _ hy)]
  exact h5 x hx ys hy
def items : DataW Unit → List (DataW Unit)
  | .slice es _ => es
  | _ => []
/-- The places, below i, of a weak sum. -/
def plN (L : List Sg) (key : Nat) : Nat → List Int
  | 0 => []
  | i + 1 => plN L key i ++ if (L[i]?.map Prod.fst) = some key then [(i : Int)] else []
def PlD (L : List Sg) (i : Nat) (D : DataW Unit) : Prop := IsMap D ∧ ∀ key : Nat, key < 4294967296 → items (D.atKey (.int .u32 (key : Int)) .nil) = lits .i64 (plN L key i)
theorem PlD.nil (L : List Sg) : PlD L 0 (.map []) := ⟨isMap_empty, fun _ _ => rfl⟩
theorem lits_inj {a b : List Int} (h : (lits .i64 a : List (DataW Unit)) = lits .i64 b) : a = b := (List.map_inj_right (fun x y hxy => by cases hxy; rfl)).1 h
theorem plN_wf (L : List Sg) (key : Nat) : ∀ i, i < 9223372036854775807 → ∀ z ∈ plN L key i, (Lit.int .i64 z).wf = true
  | 0, _, z, hz => by cases hz
  | i + 1, hi, z, hz => by
    unfold plN at hz
    rcases List.mem_append.1 hz with hz | hz
    · exact plN_wf L key i (by omega) z hz
    · split at hz
      · simp only [List.mem_cons, List.not_mem_nil, or_false] at hz
        subst hz
        exact wfI (by omega)
      · cases hz
theorem plN_len (L : List Sg) (key : Nat) : ∀ i, (plN L key i).length ≤ i
  | 0 => Nat.le_refl _
  | i + 1 => by
    unfold plN
    rw [List.length_append]
    have := plN_len L key i
    split <;> simp <;> omega
section
variable {w : World} {base mb n i : Nat} {D : DataW Unit} {L : List Sg}
set_option maxRecDepth 100000 in
theorem Grp.look (h : Grp w base mb n D) (hp : PlD L i D) (hn : n < maxLen) (key : Nat) (hk : key < 4294967296) :
    ∃ va vc, (Instr.lookup 95 (.map (some mb)) (.int .u32 (key : Int)) false).run Tryd.prog w = .ok (.slice va (plN L key i).length vc) w ∧ w.ownsInts base 3 .i64 (.slice va (plN L key i).length vc) (plN L key i) ∧ w.groupBack Tryd.prog 95 63 base 3 .i64 mb n D (.int .u32 (key : Int)) (.int .u32 (key : Int)) (.slice va (plN L key i).length vc) := by
  obtain ⟨v, zs, hrun, hat, hoi, hzl, hback⟩ := World.ownsGroups.at h keyedW Tryd.underlying95 (zeroInts w) hn (keyOf_int_mk Tryd.underlying63 (wfW hk))
  have e : items (D.atKey (.int .u32 (key : Int)) .nil) = lits .i64 zs := by
    rw [hat]
    rcases hoi.datum (H := Unit) with ⟨h1, h2⟩ | h1
    · rw [h1, h2]; rfl
    · rw [h1]; rfl
  rw [hp.2 key hk] at e
  have e := lits_inj e
  subst e
  rcases hoi.1.2 with ⟨rfl, h0⟩ | ⟨g, cap, cur, rfl, _⟩
  · rw [h0] at *
    exact ⟨none, 0, hrun, hoi, hback⟩
  · exact ⟨_, cap, hrun, hoi, hback⟩
set_option maxRecDepth 100000 in
theorem Grp.put {w1 : World} {key m c' : Nat} {va a' : Option Addr} {v : Value} (hp : PlD L i D) (hk : key < 4294967296) (hs : L[i]?.map Prod.fst = some key) (hback : w.groupBack Tryd.prog 95 63 base 3 .i64 mb n D (.int .u32 (key : Int)) (.int .u32 (key : Int)) v) (hv : v.ownBlock = ob va) (hg : w.grownBy w1 (ob va)) (ho : w1.ownsInts base 3 .i64 (.slice a' m c') (plN L key i ++ [(i : Int)])) (hl : (plN L key i).length ≤ n) (hloc : ob a' = ob va ∨ ∃ g, ob a' = some g ∧ w.heap.size ≤ g) :
    ∃ w2 D', (Instr.mapUpdate 95 (.map (some mb)) (.int .u32 (key : Int)) (.slice a' m c')).run Tryd.prog w1 = .ok () w2 ∧ Grp w2 base mb (n + 1) D' ∧ PlD L (i + 1) D' ∧ w1.grownBy w2 (some mb) := by
  obtain ⟨w2, h1, h2, h3⟩ := hback w1 (.slice a' m c') _ (by rw [hv]; exact hg) ho (by simp; omega) (by rw [hv, ob_slice]; exact hloc)
  refine ⟨w2, _, h1, h2, ⟨hp.1.put _ _, fun key' hk' => ?_⟩, h3⟩
  by_cases he : key' = key
  · subst he
    rw [atKey_put_same (k := .int .u32 (key' : Int)) hp.1 (by trivial), ho.datum_pos (by simp)]
    have e : plN L key' (i + 1) = plN L key' i ++ [(i : Int)] := by
      show plN L key' i ++ _ = _
      rw [if_pos hs]
    rw [e]
    rfl
  · rw [atKey_put_other (fun e => he (by injection e with _ e2; omega)), hp.2 key' hk']
    have : plN L key' (i + 1) = plN L key' i := by
      show plN L key' i ++ _ = _
      rw [if_neg (fun e => he (Option.some.inj (e.symm.trans hs)))]
      exact List.append_nil _
    rw [this]
end
/-- An index in memory: its signatures, and their places by their weak sums. -/
def Inx (w : World) (B g : Nat) (L : List Sg) : Prop :=
  ∃ (a : Option Addr) (c mb base : Nat) (D : DataW Unit), w.heap[g]? = some (.cells #[.slice a L.length c, .map (some mb)] 97 (0, 0)) ∧ w.ownsRow B 65 2 (.slice a L.length c) L.length (sgR L) ∧ Grp w base mb L.length D ∧ PlD L L.length D ∧ L.length ≤ 1024
theorem Inx.below {w w' : World} {B g : Nat} {L : List Sg} (h : Inx w B g L) (hb : Below w.heap.size w w') : Inx w' B g L := by
  obtain ⟨a, c, mb, base, D, h1, h2, h3, h4, h5⟩ := h
  exact ⟨a, c, mb, base, D, (hb.block g (lt_of_some h1)).trans h1, own_keep h2 (fun k hk => hb.block k (h2.lt k hk).2), h3.below hb, h4, h5⟩
/-- Which places a weak sum has. -/
theorem pl_mem (L : List Sg) (key : Nat) : ∀ (n : Nat) (i : Nat), (i : Int) ∈ plN L key n ↔ i < n ∧ L[i]?.map Prod.fst = some key
  | 0, i => by simp [plN]
  | n + 1, i => by
    unfold plN
    rw [List.mem_append, pl_mem L key n i]
    constructor
    · rintro (⟨h1, h2⟩ | h)
      · exact ⟨by omega, h2⟩
      · split at h
        · rename_i hh
          simp only [List.mem_cons, List.not_mem_nil, or_false] at h
          have : i = n := by omega
          subst this
          exact ⟨by omega, hh⟩
        · cases h
    · rintro ⟨h1, h2⟩
      by_cases he : i = n
      · subst he
        right
        rw [if_pos h2]
        simp
      · exact .inl ⟨by omega, h2⟩
theorem pl_nat (L : List Sg) (key : Nat) : ∀ (n : Nat) (z : Int), z ∈ plN L key n → ∃ i : Nat, z = (i : Int) ∧ i < n
  | 0, z, h => by cases h
  | n + 1, z, h => by
    unfold plN at h
    rcases List.mem_append.1 h with h | h
    · obtain ⟨i, h1, h2⟩ := pl_nat L key n z h
      exact ⟨i, h1, by omega⟩
    · split at h
      · simp only [List.mem_cons, List.not_mem_nil, or_false] at h
        exact ⟨n, h, by omega⟩
      · cases h
theorem pl_rise (L : List Sg) (key : Nat) : ∀ n : Nat, (plN L key n).Pairwise (· < ·)
  | 0 => List.Pairwise.nil
  | n + 1 => by
    unfold plN
    rw [List.pairwise_append]
    refine ⟨pl_rise L key n, by split <;> simp, fun a ha b hb => ?_⟩
    obtain ⟨i, rfl, hi⟩ := pl_nat L key n a ha
    split at hb
    · simp only [List.mem_cons, List.not_mem_nil, or_false] at hb
      subst hb
      omega
    · cases hb
/-- The first place of a signature. -/
def fnd (L : List Sg) (s : Sg) : Option Nat := L.findIdx? fun x => decide (x = s)
theorem fnd_some {L : List Sg} {s : Sg} {k : Nat} (h1 : L[k]? = some s) (h2 : ∀ i, i < k → L[i]? ≠ some s) : fnd L s = some k := by
  unfold fnd
  rw [List.findIdx?_eq_some_iff_getElem]
  obtain ⟨hk, e⟩ := List.getElem?_eq_some_iff.1 h1
  refine ⟨hk, by simp [e], fun j hj => ?_⟩
  have := h2 j hj
  rw [List.getElem?_eq_getElem (by omega)] at this
  simpa using this
theorem fnd_none {L : List Sg} {s : Sg} (h : ∀ i : Nat, L[i]? ≠ some s) : fnd L s = none := by
  unfold fnd
  rw [List.findIdx?_eq_none_iff]
  intro x hx
  obtain ⟨i, hi, e⟩ := List.getElem_of_mem hx
  refine decide_eq_false fun e' => h i ?_
  rw [List.getElem?_eq_getElem hi, e, e']
/-- Where the places of a weak sum end. -/
theorem fnd_at {L : List Sg} {s : Sg} {j p : Nat} (h : (plN L s.1 L.length)[j]? = some (p : Int)) (hp : L[p]? = some s) (hb : ∀ i q : Nat, i < j → (plN L s.1 L.length)[i]? = some (q : Int) → L[q]? ≠ some s) : fnd L s = some p := by
  refine fnd_some hp fun i hi he => ?_
  have hm : (i : Int) ∈ plN L s.1 L.length := (pl_mem L s.1 L.length i).2 ⟨(List.getElem?_eq_some_iff.1 he).1, by rw [he]; rfl⟩
  obtain ⟨k, hk, e⟩ := List.getElem_of_mem hm
  have hr := pl_rise L s.1 L.length
  obtain ⟨hj, ej⟩ := List.getElem?_eq_some_iff.1 h
  by_cases hkj : k < j
  · exact hb k i hkj (by rw [List.getElem?_eq_getElem hk, e]) he
  · rcases Nat.lt_or_eq_of_le (Nat.le_of_not_lt hkj) with h5 | h5
    · have := List.pairwise_iff_getElem.1 hr j k hj hk h5
      rw [e, ej] at this
      omega
    · subst h5
      rw [ej] at e
      omega
theorem fnd_not {L : List Sg} {s : Sg} (hb : ∀ i q : Nat, (plN L s.1 L.length)[i]? = some (q : Int) → L[q]? ≠ some s) : fnd L s = none := by
  refine fnd_none fun i he => ?_
  have hm : (i : Int) ∈ plN L s.1 L.length := (pl_mem L s.1 L.length i).2 ⟨(List.getElem?_eq_some_iff.1 he).1, by rw [he]; rfl⟩
  obtain ⟨k, hk, e⟩ := List.getElem_of_mem hm
  exact hb k i (by rw [List.getElem?_eq_getElem hk, e]) he
end Go.Proofs.YtbhnmjjfammlkaaDoor
