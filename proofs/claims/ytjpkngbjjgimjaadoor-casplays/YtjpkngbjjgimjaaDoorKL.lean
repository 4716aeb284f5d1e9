/- Contents in a table, in plain mathematics; a walk over the statements' lives. -/
import Derived.Test.YtjpkngbjjgimjaaDoorKJ
namespace Go.Proofs.YtjpkngbjjgimjaaDoor
open Go.RowKit
theorem keyB_list (sum : ByteArray) (n : Nat) : (keyB sum n).data.toList = 99 :: (sum.data.toList ++ [UInt8.ofNat n]) := by
  unfold keyB strOf
  simp
theorem valB_list (r : Nat) (data : ByteArray) : (valB r data).data.toList = [UInt8.ofNat (r / 16777216 % 256), UInt8.ofNat (r / 65536 % 256), UInt8.ofNat (r / 256 % 256), UInt8.ofNat (r % 256)] ++ data.data.toList := by
  unfold valB strOf
  simp
theorem size_l (s : ByteArray) : s.data.toList.length = s.size := rfl
theorem keyB_size (sum : ByteArray) (n : Nat) : (keyB sum n).size = sum.size + 2 := by
  rw [← size_l, keyB_list, ← size_l]
  simp
theorem valB_size (r : Nat) (data : ByteArray) : (valB r data).size = 4 + data.size := by
  rw [← size_l, valB_list, ← size_l]
  simp
  omega
theorem ext_l (u : ByteArray) (i k : Nat) : (u.extract i k).data.toList = (u.data.toList.drop i).take (k - i) := by
  rw [ByteArray.data_extract, Array.toList_extract, List.extract_eq_take_drop]
theorem ba_ext {a b : ByteArray} (h : a.data.toList = b.data.toList) : a = b := by
  apply ByteArray.ext
  exact Array.toList_inj.1 h
theorem ofNat_toNat (x : Nat) (h : x < 256) : (UInt8.ofNat x).toNat = x := by rw [UInt8.toNat_ofNat']; omega
theorem parse_enc {W : Nat} {sum : ByteArray} {n r : Nat} {data : ByteArray} (hs : sum.size = W) (hn : n < 256) (hr1 : 1 ≤ r) (hr : r < 4294967296) (hd : data.size ≤ 128) : parseF W (keyB sum n, valB r data) = some ⟨sum, n, r, data⟩ := by
  have hb : beU (valB r data) 4 = r := by
    have e : ∀ k, (valB r data).data.toList.getD k 0 = ([UInt8.ofNat (r / 16777216 % 256), UInt8.ofNat (r / 65536 % 256), UInt8.ofNat (r / 256 % 256), UInt8.ofNat (r % 256)] ++ data.data.toList).getD k 0 := fun k => by rw [valB_list]
    simp only [beU, e]
    simp only [List.cons_append, List.getD_cons_zero, List.getD_cons_succ]
    rw [ofNat_toNat _ (by omega), ofNat_toNat _ (by omega), ofNat_toNat _ (by omega), ofNat_toNat _ (by omega)]
    omega
  unfold parseF
  have hks := keyB_size sum n
  have hvs := valB_size r data
  rw [if_pos ⟨by show (keyB sum n).size = _; omega, by show 4 ≤ (valB r data).size; omega, by show (valB r data).size ≤ 132; omega, by show beU (valB r data) 4 ≠ 0; omega⟩]
  have e1 : (keyB sum n).extract 1 (W + 1) = sum := by
    apply ba_ext
    rw [ext_l, keyB_list]
    simp only [List.drop_succ_cons, List.drop_zero]
    rw [List.take_append_of_le_length (by rw [size_l]; omega), List.take_of_length_le (by rw [size_l]; omega)]
  have e2 : ((keyB sum n).data.toList.getD (W + 1) 0).toNat = n := by
    rw [keyB_list, List.getD_cons_succ, List.getD_eq_getElem?_getD, List.getElem?_append_right (by rw [size_l]; omega), size_l, hs, Nat.sub_self]
    exact ofNat_toNat n hn
  have e3 : (valB r data).extract 4 (valB r data).size = data := by
    apply ba_ext
    rw [ext_l, valB_list]
    have : ([UInt8.ofNat (r / 16777216 % 256), UInt8.ofNat (r / 65536 % 256), UInt8.ofNat (r / 256 % 256), UInt8.ofNat (r % 256)] ++ data.data.toList).drop 4 = data.data.toList := rfl
    rw [this, List.take_of_length_le (by rw [size_l]; omega)]
  simp only [e1, e2, e3, hb]
theorem bl_app (p a b : List UInt8) : Op.bytesLess (p ++ a) (p ++ b) = Op.bytesLess a b := by
  induction p with
  | nil => rfl
  | cons x p ih =>
    have e : Op.bytesLess (x :: (p ++ a)) (x :: (p ++ b)) = (decide (x < x) || x == x && Op.bytesLess (p ++ a) (p ++ b)) := by rw [Op.bytesLess]
    show Op.bytesLess (x :: (p ++ a)) (x :: (p ++ b)) = _
    rw [e, ih]
    simp
theorem bl_last : ∀ (k : Nat) (l : List UInt8), l.length ≤ k → Op.bytesLess (List.replicate k 255) l = false
  | 0, l, h => by
    have : l = [] := List.eq_nil_of_length_eq_zero (by omega)
    subst this
    rfl
  | k + 1, [], _ => by simp [List.replicate_succ, Op.bytesLess]
  | k + 1, b :: l, h => by
    have ih := bl_last k l (by simpa using h)
    rw [List.replicate_succ]
    unfold Op.bytesLess
    have hb : ¬ (255 : UInt8) < b := by
      intro h5
      have h6 : (255 : UInt8).toNat < b.toNat := h5
      have h7 := b.toNat_lt
      have h8 : (255 : UInt8).toNat = 255 := rfl
      omega
    simp [hb, ih]
theorem bl_zero : ∀ (k : Nat) (l : List UInt8), k ≤ l.length → Op.bytesLess l (List.replicate k 0) = false
  | 0, l, _ => by cases l <;> rfl
  | k + 1, [], h => by simp at h
  | k + 1, b :: l, h => by
    have ih := bl_zero k l (by simpa using h)
    rw [List.replicate_succ]
    unfold Op.bytesLess
    have hb : ¬ b < (0 : UInt8) := by
      intro h5
      have h6 : b.toNat < (0 : UInt8).toNat := h5
      have h8 : (0 : UInt8).toNat = 0 := rfl
      omega
    simp [hb, ih]
theorem sl_list (a b : ByteArray) : sl a b = Op.bytesLess a.data.toList b.data.toList := by unfold sl; rw [ByteArray.toList_eq, ByteArray.toList_eq]
theorem rep_one (b : UInt8) : ∀ c, Lib.repeatL [b] c = List.replicate c b
  | 0 => rfl
  | c + 1 => by
    have := rep_one b c
    simp [Lib.repeatL, this, List.replicate_succ]
theorem key_last (sum : ByteArray) (n : Nat) : sl (keyB sum 255) (keyB sum n) = false := by
  rw [sl_list, keyB_list, keyB_list]
  have := bl_app (99 :: sum.data.toList) [UInt8.ofNat 255] [UInt8.ofNat n]
  simp only [List.cons_append] at this
  rw [this]
  exact bl_last 1 [UInt8.ofNat n] (by simp)
theorem key_first (sum : ByteArray) (n : Nat) : sl (keyB sum n) (keyB sum 0) = false := by
  rw [sl_list, keyB_list, keyB_list]
  have := bl_app (99 :: sum.data.toList) [UInt8.ofNat n] [UInt8.ofNat 0]
  simp only [List.cons_append] at this
  rw [this]
  exact bl_zero 1 [UInt8.ofNat n] (by simp)
theorem key_least (W : Nat) (sum : ByteArray) (n : Nat) (hs : sum.size = W) : sl (keyB sum n) (keyB ⟨(Lib.repeatL [0] W).toArray⟩ 0) = false := by
  rw [sl_list, keyB_list, keyB_list]
  have := bl_app [99] (sum.data.toList ++ [UInt8.ofNat n]) ((⟨(Lib.repeatL [0] W).toArray⟩ : ByteArray).data.toList ++ [UInt8.ofNat 0])
  simp only [List.cons_append, List.nil_append] at this
  rw [this]
  have e : ((⟨(Lib.repeatL [0] W).toArray⟩ : ByteArray).data.toList ++ [UInt8.ofNat 0]) = List.replicate (W + 1) 0 := by
    show Lib.repeatL [0] W ++ [0] = _
    rw [rep_one, List.replicate_succ']
  rw [e]
  exact bl_zero _ _ (by rw [List.length_append, size_l]; simp; omega)
theorem key_most (W : Nat) (sum : ByteArray) (n : Nat) (hs : sum.size = W) : sl (keyB ⟨(Lib.repeatL [255] W).toArray⟩ 255) (keyB sum n) = false := by
  rw [sl_list, keyB_list, keyB_list]
  have := bl_app [99] ((⟨(Lib.repeatL [255] W).toArray⟩ : ByteArray).data.toList ++ [UInt8.ofNat 255]) (sum.data.toList ++ [UInt8.ofNat n])
  simp only [List.cons_append, List.nil_append] at this
  rw [this]
  have e : ((⟨(Lib.repeatL [255] W).toArray⟩ : ByteArray).data.toList ++ [UInt8.ofNat 255]) = List.replicate (W + 1) 255 := by
    show Lib.repeatL [255] W ++ [255] = _
    rw [rep_one, List.replicate_succ']
  rw [e]
  exact bl_last _ _ (by rw [List.length_append, size_l]; simp; omega)
/-- A table of one content. -/
def oneT (d : ByteArray) (r : Nat) (x : ByteArray) : List Pr := [(keyB d 0, valB r x)]
section
variable {d x : ByteArray} {r : Nat}
theorem one_parse (hd : d.size = 32) (hr1 : 1 ≤ r) (hr : r < 4294967296) (hx : x.size ≤ 128) : parseF 32 (keyB d 0, valB r x) = some ⟨d, 0, r, x⟩ := parse_enc hd (by omega) hr1 hr hx
theorem one_alike (hd : d.size = 32) (hr1 : 1 ≤ r) (hr : r < 4294967296) (hx : x.size ≤ 128) : alikeL 32 (oneT d r x) d = [⟨d, 0, r, x⟩] := by
  unfold alikeL betw oneT rangeT
  rw [if_pos hd]
  simp [key_first d 0, key_last d 0, one_parse hd hr1 hr hx]
theorem one_all (hd : d.size = 32) (hr1 : 1 ≤ r) (hr : r < 4294967296) (hx : x.size ≤ 128) : allC 32 (oneT d r x) = [⟨d, 0, r, x⟩] := by
  unfold allC betw oneT rangeT
  simp [key_least 32 d 0 hd, key_most 32 d 0 hd, one_parse hd hr1 hr hx]
theorem one_put (v : ByteArray) : putT (oneT d r x) (keyB d 0) v = [(keyB d 0, v)] := by
  unfold putT restT isT lowT highT oneT
  simp [sl_irr, hasK]
theorem one_get : isT (oneT d r x) (keyB d 0) = true ∧ getT (oneT d r x) (keyB d 0) = some (valB r x) := by
  unfold getT isT highT oneT
  simp [sl_irr, hasK]
theorem one_look (hd : d.size = 32) (hr1 : 1 ≤ r) (hr : r < 4294967296) (hx : x.size ≤ 128) : lookF 32 (oneT d r x) d 0 = some ⟨d, 0, r, x⟩ := by
  unfold lookF
  rw [if_pos ⟨hd, by omega, by omega, one_get.1⟩]
  show parseF 32 (keyB d 0, (getT (oneT d r x) (keyB d 0)).getD ByteArray.empty) = _
  rw [one_get.2]
  exact one_parse hd hr1 hr hx
theorem named_first (x : ByteArray) : namedF 32 [] x = ⟨digW 32 x, 0, 0, x⟩ := by
  unfold namedF alikeL betw rangeT
  simp [namedL]
theorem named_again (hd : digW 32 x = d) (hr1 : 1 ≤ r) (hr : r < 4294967296) (hx : x.size ≤ 128) : namedF 32 (oneT d r x) x = ⟨d, 0, r, x⟩ := by
  unfold namedF
  rw [hd, one_alike (by rw [← hd]; exact digW_size 32 (by omega) x) hr1 hr hx]
  simp [namedL]
end
end Go.Proofs.YtjpkngbjjgimjaaDoor
