/- Plain mathematics of layer 14: a head's bytes, and what they tell. No program is named here. Plain mathematics of layer 14: sets of pages as sixteen bytes; heads that may be; what a page 0 tells. -/
import Derived.Lib.BitFns
namespace Go.Proofs.YtdgffocmdkadpaaGreat
namespace Pg
/-- The magic text. -/
def magic : List UInt8 := [115, 116, 114, 111, 110, 103, 114, 111, 111, 109]
/-- A number in eight bytes, the highest first. -/
def be8 (n : Nat) : List UInt8 := [UInt8.ofNat (n / 72057594037927936 % 256), UInt8.ofNat (n / 281474976710656 % 256), UInt8.ofNat (n / 1099511627776 % 256), UInt8.ofNat (n / 4294967296 % 256), UInt8.ofNat (n / 16777216 % 256), UInt8.ofNat (n / 65536 % 256), UInt8.ofNat (n / 256 % 256), UInt8.ofNat (n % 256)]
/-- A root in two. -/
def be2 (r : Nat) : List UInt8 := [UInt8.ofNat (r / 256 % 256), UInt8.ofNat (r % 256)]
def rootsL (r0 r1 r2 r3 : Nat) : List UInt8 := be2 r0 ++ be2 r1 ++ be2 r2 ++ be2 r3
/-- A bit's worth. -/
def bitW (u : List Bool) (i : Nat) (w : Nat) : Nat := if u.getD i false then w else 0
/-- Eight pages in a byte. -/
def bitN (u : List Bool) (j : Nat) : Nat := bitW u (8 * j) 1 + bitW u (8 * j + 1) 2 + bitW u (8 * j + 2) 4 + bitW u (8 * j + 3) 8 + bitW u (8 * j + 4) 16 + bitW u (8 * j + 5) 32 + bitW u (8 * j + 6) 64 + bitW u (8 * j + 7) 128
theorem bitW_le (u : List Bool) (i w : Nat) : bitW u i w ≤ w := by unfold bitW; split <;> omega
theorem bitN_lt (u : List Bool) (j : Nat) : bitN u j < 256 := by
  have h0 := bitW_le u (8 * j) 1
  have h1 := bitW_le u (8 * j + 1) 2
  have h2 := bitW_le u (8 * j + 2) 4
  have h3 := bitW_le u (8 * j + 3) 8
  have h4 := bitW_le u (8 * j + 4) 16
  have h5 := bitW_le u (8 * j + 5) 32
  have h6 := bitW_le u (8 * j + 6) 64
  have h7 := bitW_le u (8 * j + 7) 128
  unfold bitN
  omega
def mapL (u : List Bool) : List UInt8 := (List.range 16).map fun j => UInt8.ofNat (bitN u j)
def tail0 : List UInt8 := List.replicate 982 0
/-- A head's bytes. -/
def headL (s r0 r1 r2 r3 : Nat) (u : List Bool) : List UInt8 := magic ++ be8 s ++ rootsL r0 r1 r2 r3 ++ mapL u ++ tail0
theorem head_len (s r0 r1 r2 r3 : Nat) (u : List Bool) : (headL s r0 r1 r2 r3 u).length = 1024 := by
  unfold headL tail0 mapL
  simp only [List.length_append, List.length_map, List.length_range, List.length_replicate]
  rfl
/-- What bytes tell. -/
def byteN (b : List UInt8) (i : Nat) : Nat := (b.getD i 0).toNat
def serOf (b : List UInt8) : Nat := ((((((byteN b 10 * 256 + byteN b 11) * 256 + byteN b 12) * 256 + byteN b 13) * 256 + byteN b 14) * 256 + byteN b 15) * 256 + byteN b 16) * 256 + byteN b 17
def rootOf (b : List UInt8) (k : Nat) : Nat := byteN b (18 + 2 * k) * 256 + byteN b (19 + 2 * k)
def usedOf (b : List UInt8) (i : Nat) : Bool := decide (byteN b (26 + i / 8) / 2 ^ (i % 8) % 2 = 1)
theorem toNat_ofNat {n : Nat} (h : n < 256) : (UInt8.ofNat n).toNat = n := by
  rw [UInt8.toNat_ofNat']
  omega
theorem byte_in (p q : List UInt8) (i : Nat) (h : i < p.length) : byteN (p ++ q) i = byteN p i := by
  unfold byteN
  rw [List.getD_eq_getElem?_getD, List.getD_eq_getElem?_getD, List.getElem?_append_left h]
theorem byte_off (p q : List UInt8) (i : Nat) : byteN (p ++ q) (p.length + i) = byteN q i := by
  unfold byteN
  rw [List.getD_eq_getElem?_getD, List.getD_eq_getElem?_getD, List.getElem?_append_right (by omega)]
  congr 2
  congr 1
  omega
theorem head_ser (s r0 r1 r2 r3 : Nat) (u : List Bool) (i : Nat) (hi : i < 8) : byteN (headL s r0 r1 r2 r3 u) (10 + i) = byteN (be8 s) i := by
  unfold headL
  rw [byte_in _ _ _ (by simp [magic, be8, rootsL, be2, mapL]; omega), byte_in _ _ _ (by simp [magic, be8, rootsL, be2]; omega), byte_in _ _ _ (by simp [magic, be8]; omega)]
  exact byte_off magic (be8 s) i
theorem head_root (s r0 r1 r2 r3 : Nat) (u : List Bool) (i : Nat) (hi : i < 8) : byteN (headL s r0 r1 r2 r3 u) (18 + i) = byteN (rootsL r0 r1 r2 r3) i := by
  unfold headL
  rw [byte_in _ _ _ (by simp [magic, be8, rootsL, be2, mapL]; omega), byte_in _ _ _ (by simp [magic, be8, rootsL, be2]; omega)]
  exact byte_off (magic ++ be8 s) (rootsL r0 r1 r2 r3) i
theorem head_map (s r0 r1 r2 r3 : Nat) (u : List Bool) (i : Nat) (hi : i < 16) : byteN (headL s r0 r1 r2 r3 u) (26 + i) = bitN u i := by
  unfold headL
  rw [byte_in _ _ _ (by simp [magic, be8, rootsL, be2, mapL]; omega)]
  have h := byte_off (magic ++ be8 s ++ rootsL r0 r1 r2 r3) (mapL u) i
  rw [show (magic ++ be8 s ++ rootsL r0 r1 r2 r3).length = 26 by simp [magic, be8, rootsL, be2]] at h
  rw [h]
  unfold byteN mapL
  rw [List.getD_eq_getElem?_getD, List.getElem?_map, List.getElem?_range hi]
  exact toNat_ofNat (bitN_lt u i)
theorem be8_at (s : Nat) : byteN (be8 s) 0 = s / 72057594037927936 % 256 ∧ byteN (be8 s) 1 = s / 281474976710656 % 256 ∧ byteN (be8 s) 2 = s / 1099511627776 % 256 ∧ byteN (be8 s) 3 = s / 4294967296 % 256 ∧ byteN (be8 s) 4 = s / 16777216 % 256 ∧ byteN (be8 s) 5 = s / 65536 % 256 ∧ byteN (be8 s) 6 = s / 256 % 256 ∧ byteN (be8 s) 7 = s % 256 :=
  ⟨toNat_ofNat (by omega), toNat_ofNat (by omega), toNat_ofNat (by omega), toNat_ofNat (by omega), toNat_ofNat (by omega), toNat_ofNat (by omega), toNat_ofNat (by omega), toNat_ofNat (by omega)⟩
theorem ser_head (s r0 r1 r2 r3 : Nat) (u : List Bool) (hs : s < 18446744073709551616) : serOf (headL s r0 r1 r2 r3 u) = s := by
  obtain ⟨h0, h1, h2, h3, h4, h5, h6, h7⟩ := be8_at s
  have g := head_ser s r0 r1 r2 r3 u
  have g0 := g 0 (by omega)
  have g1 := g 1 (by omega)
  have g2 := g 2 (by omega)
  have g3 := g 3 (by omega)
  have g4 := g 4 (by omega)
  have g5 := g 5 (by omega)
  have g6 := g 6 (by omega)
  have g7 := g 7 (by omega)
  simp only [Nat.add_zero, Nat.reduceAdd] at g0 g1 g2 g3 g4 g5 g6 g7
  unfold serOf
  rw [g0, g1, g2, g3, g4, g5, g6, g7, h0, h1, h2, h3, h4, h5, h6, h7]
  omega
theorem root_head (s r0 r1 r2 r3 : Nat) (u : List Bool) (k0 : r0 < 65536) (k1 : r1 < 65536) (k2 : r2 < 65536) (k3 : r3 < 65536) : rootOf (headL s r0 r1 r2 r3 u) 0 = r0 ∧ rootOf (headL s r0 r1 r2 r3 u) 1 = r1 ∧ rootOf (headL s r0 r1 r2 r3 u) 2 = r2 ∧ rootOf (headL s r0 r1 r2 r3 u) 3 = r3 := by
  have g := head_root s r0 r1 r2 r3 u
  have g0 := g 0 (by omega)
  have g1 := g 1 (by omega)
  have g2 := g 2 (by omega)
  have g3 := g 3 (by omega)
  have g4 := g 4 (by omega)
  have g5 := g 5 (by omega)
  have g6 := g 6 (by omega)
  have g7 := g 7 (by omega)
  simp only [Nat.add_zero, Nat.reduceAdd] at g0 g1 g2 g3 g4 g5 g6 g7
  have e : ∀ r, (UInt8.ofNat (r / 256 % 256)).toNat = r / 256 % 256 ∧ (UInt8.ofNat (r % 256)).toNat = r % 256 := fun r => ⟨toNat_ofNat (by omega), toNat_ofNat (by omega)⟩
  refine ⟨?_, ?_, ?_, ?_⟩
  · unfold rootOf
    simp only [Nat.mul_zero, Nat.add_zero]
    rw [g0, g1]
    show (UInt8.ofNat (r0 / 256 % 256)).toNat * 256 + (UInt8.ofNat (r0 % 256)).toNat = r0
    rw [(e r0).1, (e r0).2]; omega
  · unfold rootOf
    simp only [Nat.mul_one, Nat.reduceAdd]
    rw [g2, g3]
    show (UInt8.ofNat (r1 / 256 % 256)).toNat * 256 + (UInt8.ofNat (r1 % 256)).toNat = r1
    rw [(e r1).1, (e r1).2]; omega
  · unfold rootOf
    simp only [Nat.reduceMul, Nat.reduceAdd]
    rw [g4, g5]
    show (UInt8.ofNat (r2 / 256 % 256)).toNat * 256 + (UInt8.ofNat (r2 % 256)).toNat = r2
    rw [(e r2).1, (e r2).2]; omega
  · unfold rootOf
    simp only [Nat.reduceMul, Nat.reduceAdd]
    rw [g6, g7]
    show (UInt8.ofNat (r3 / 256 % 256)).toNat * 256 + (UInt8.ofNat (r3 % 256)).toNat = r3
    rw [(e r3).1, (e r3).2]; omega
set_option maxHeartbeats 4000000 in
theorem bit_at (u : List Bool) (j k : Nat) (hk : k < 8) : decide (bitN u j / 2 ^ k % 2 = 1) = u.getD (8 * j + k) false := by
  have w : ∀ i v, bitW u i v = (if u.getD i false then v else 0) := fun _ _ => rfl
  have c : ∀ i v, bitW u i v = 0 ∧ u.getD i false = false ∨ bitW u i v = v ∧ u.getD i false = true := fun i v => by
    unfold bitW
    cases u.getD i false <;> simp
  have h0 := c (8 * j) 1
  have h1 := c (8 * j + 1) 2
  have h2 := c (8 * j + 2) 4
  have h3 := c (8 * j + 3) 8
  have h4 := c (8 * j + 4) 16
  have h5 := c (8 * j + 5) 32
  have h6 := c (8 * j + 6) 64
  have h7 := c (8 * j + 7) 128
  clear w c
  unfold bitN
  generalize bitW u (8 * j) 1 = b0 at *
  generalize bitW u (8 * j + 1) 2 = b1 at *
  generalize bitW u (8 * j + 2) 4 = b2 at *
  generalize bitW u (8 * j + 3) 8 = b3 at *
  generalize bitW u (8 * j + 4) 16 = b4 at *
  generalize bitW u (8 * j + 5) 32 = b5 at *
  generalize bitW u (8 * j + 6) 64 = b6 at *
  generalize bitW u (8 * j + 7) 128 = b7 at *
  have hk' : k = 0 ∨ k = 1 ∨ k = 2 ∨ k = 3 ∨ k = 4 ∨ k = 5 ∨ k = 6 ∨ k = 7 := by omega
  rcases hk' with rfl | rfl | rfl | rfl | rfl | rfl | rfl | rfl
  · rw [Nat.add_zero]; rcases h0 with ⟨a, e⟩ | ⟨a, e⟩ <;> rw [e] <;> simp only [decide_eq_true_eq, decide_eq_false_iff_not, Nat.reducePow] <;> omega
  · rcases h1 with ⟨a, e⟩ | ⟨a, e⟩ <;> rw [e] <;> simp only [decide_eq_true_eq, decide_eq_false_iff_not, Nat.reducePow] <;> omega
  · rcases h2 with ⟨a, e⟩ | ⟨a, e⟩ <;> rw [e] <;> simp only [decide_eq_true_eq, decide_eq_false_iff_not, Nat.reducePow] <;> omega
  · rcases h3 with ⟨a, e⟩ | ⟨a, e⟩ <;> rw [e] <;> simp only [decide_eq_true_eq, decide_eq_false_iff_not, Nat.reducePow] <;> omega
  · rcases h4 with ⟨a, e⟩ | ⟨a, e⟩ <;> rw [e] <;> simp only [decide_eq_true_eq, decide_eq_false_iff_not, Nat.reducePow] <;> omega
  · rcases h5 with ⟨a, e⟩ | ⟨a, e⟩ <;> rw [e] <;> simp only [decide_eq_true_eq, decide_eq_false_iff_not, Nat.reducePow] <;> omega
  · rcases h6 with ⟨a, e⟩ | ⟨a, e⟩ <;> rw [e] <;> simp only [decide_eq_true_eq, decide_eq_false_iff_not, Nat.reducePow] <;> omega
  · rcases h7 with ⟨a, e⟩ | ⟨a, e⟩ <;> rw [e] <;> simp only [decide_eq_true_eq, decide_eq_false_iff_not, Nat.reducePow] <;> omega
theorem used_head (s r0 r1 r2 r3 : Nat) (u : List Bool) (i : Nat) (hi : i < 128) : usedOf (headL s r0 r1 r2 r3 u) i = u.getD i false := by
  unfold usedOf
  rw [head_map _ _ _ _ _ _ _ (by omega), bit_at u (i / 8) (i % 8) (by omega), show 8 * (i / 8) + i % 8 = i by omega]
/-- A head tells what it is made of. -/
theorem head_inj {s r0 r1 r2 r3 s' r0' r1' r2' r3' : Nat} {u u' : List Bool} (h : headL s r0 r1 r2 r3 u = headL s' r0' r1' r2' r3' u') (hs : s < 18446744073709551616) (hs' : s' < 18446744073709551616) (k0 : r0 < 65536) (k1 : r1 < 65536) (k2 : r2 < 65536) (k3 : r3 < 65536) (k0' : r0' < 65536) (k1' : r1' < 65536) (k2' : r2' < 65536) (k3' : r3' < 65536) : s = s' ∧ r0 = r0' ∧ r1 = r1' ∧ r2 = r2' ∧ r3 = r3' ∧ ∀ i, i < 128 → u.getD i false = u'.getD i false := by
  have e1 := ser_head s r0 r1 r2 r3 u hs
  rw [h, ser_head _ _ _ _ _ _ hs'] at e1
  obtain ⟨a0, a1, a2, a3⟩ := root_head s r0 r1 r2 r3 u k0 k1 k2 k3
  obtain ⟨b0, b1, b2, b3⟩ := root_head s' r0' r1' r2' r3' u' k0' k1' k2' k3'
  rw [h] at a0 a1 a2 a3
  refine ⟨e1.symm, a0.symm.trans b0, a1.symm.trans b1, a2.symm.trans b2, a3.symm.trans b3, fun i hi => ?_⟩
  rw [← used_head s r0 r1 r2 r3 u i hi, h, used_head _ _ _ _ _ _ i hi]
end Pg
end Go.Proofs.YtdgffocmdkadpaaGreat
namespace Go.Proofs.YtdgffocmdkadpaaGreat
namespace Pg
/-- A head. -/
structure Hd where
  ser : Nat
  r0 : Nat
  r1 : Nat
  r2 : Nat
  r3 : Nat
  u : List Bool
deriving DecidableEq
def Hd.root (h : Hd) (k : Nat) : Nat := match k with
  | 0 => h.r0
  | 1 => h.r1
  | 2 => h.r2
  | _ => h.r3
def Hd.point (h : Hd) (k : Nat) (id : Nat) : Hd := match k with
  | 0 => { h with r0 := id }
  | 1 => { h with r1 := id }
  | 2 => { h with r2 := id }
  | _ => { h with r3 := id }
theorem Hd.point_u (h : Hd) (k id : Nat) : (h.point k id).u = h.u := by unfold Hd.point; split <;> rfl
theorem Hd.point_ser (h : Hd) (k id : Nat) : (h.point k id).ser = h.ser := by unfold Hd.point; split <;> rfl
def Hd.has (h : Hd) (i : Nat) : Bool := h.u.getD i false
def Hd.text (h : Hd) : List UInt8 := headL h.ser h.r0 h.r1 h.r2 h.r3 h.u
theorem Hd.text_len (h : Hd) : h.text.length = 1024 := head_len _ _ _ _ _ _
/-- The bytes of a set are numbers below 256; a bit more, a bit less. -/
theorem or_bit : ∀ k : Fin 8, ∀ x : Fin 256, (x.val ||| 2 ^ k.val) = (if x.val / 2 ^ k.val % 2 = 1 then x.val else x.val + 2 ^ k.val) := by decide +kernel
theorem not_bit : ∀ k : Fin 8, ∀ x : Fin 256, (x.val &&& (255 - 2 ^ k.val)) = (if x.val / 2 ^ k.val % 2 = 1 then x.val - 2 ^ k.val else x.val) := by decide +kernel
theorem getD_set (u : List Bool) (i j : Nat) (b : Bool) (hi : i < u.length) : (u.set i b).getD j false = if j = i then b else u.getD j false := by
  simp only [List.getD_eq_getElem?_getD, List.getElem?_set]
  by_cases e : i = j
  · subst e; simp [hi]
  · rw [if_neg e, if_neg (fun x => e x.symm)]
theorem bitN_other (u : List Bool) (i j : Nat) (b : Bool) (hi : i < u.length) (hj : j ≠ i / 8) : bitN (u.set i b) j = bitN u j := by
  have w : ∀ k v, k < 8 → bitW (u.set i b) (8 * j + k) v = bitW u (8 * j + k) v := fun k v hk => by
    unfold bitW
    rw [getD_set u i _ b hi, if_neg (show ¬ 8 * j + k = i by omega)]
  have w0 := w 0 1 (by omega)
  rw [Nat.add_zero] at w0
  unfold bitN
  rw [w0, w 1 2 (by omega), w 2 4 (by omega), w 3 8 (by omega), w 4 16 (by omega), w 5 32 (by omega), w 6 64 (by omega), w 7 128 (by omega)]
theorem bitN_same (u : List Bool) (i : Nat) (b : Bool) (hi : i < u.length) : bitN (u.set i b) (i / 8) + (if u.getD i false then 2 ^ (i % 8) else 0) = bitN u (i / 8) + (if b then 2 ^ (i % 8) else 0) := by
  have w : ∀ k v, k < 8 → k ≠ i % 8 → bitW (u.set i b) (8 * (i / 8) + k) v = bitW u (8 * (i / 8) + k) v := fun k v hk e => by
    unfold bitW
    rw [getD_set u i _ b hi, if_neg (show ¬ 8 * (i / 8) + k = i by omega)]
  have x : ∀ k v, k < 8 → k = i % 8 → bitW (u.set i b) (8 * (i / 8) + k) v = if b then v else 0 := fun k v hk e => by
    unfold bitW
    rw [getD_set u i _ b hi, if_pos (show 8 * (i / 8) + k = i by omega)]
  have y : ∀ k v, k < 8 → k = i % 8 → bitW u (8 * (i / 8) + k) v = if u.getD i false then v else 0 := fun k v hk e => by
    unfold bitW
    rw [show 8 * (i / 8) + k = i by omega]
  have z : ∀ (v : List Bool) x, bitW v (8 * (i / 8)) x = bitW v (8 * (i / 8) + 0) x := fun _ _ => rfl
  unfold bitN
  rw [z, z u]
  have hk : i % 8 = 0 ∨ i % 8 = 1 ∨ i % 8 = 2 ∨ i % 8 = 3 ∨ i % 8 = 4 ∨ i % 8 = 5 ∨ i % 8 = 6 ∨ i % 8 = 7 := by omega
  rcases hk with hk | hk | hk | hk | hk | hk | hk | hk
  · rw [x 0 1 (by omega) (by omega), w 1 2 (by omega) (by omega), w 2 4 (by omega) (by omega), w 3 8 (by omega) (by omega), w 4 16 (by omega) (by omega), w 5 32 (by omega) (by omega), w 6 64 (by omega) (by omega), w 7 128 (by omega) (by omega), y 0 1 (by omega) (by omega), hk]
    show _ + (if u.getD i false = true then 1 else 0) = _ + (if b = true then 1 else 0)
    omega
  · rw [w 0 1 (by omega) (by omega), x 1 2 (by omega) (by omega), w 2 4 (by omega) (by omega), w 3 8 (by omega) (by omega), w 4 16 (by omega) (by omega), w 5 32 (by omega) (by omega), w 6 64 (by omega) (by omega), w 7 128 (by omega) (by omega), y 1 2 (by omega) (by omega), hk]
    show _ + (if u.getD i false = true then 2 else 0) = _ + (if b = true then 2 else 0)
    omega
  · rw [w 0 1 (by omega) (by omega), w 1 2 (by omega) (by omega), x 2 4 (by omega) (by omega), w 3 8 (by omega) (by omega), w 4 16 (by omega) (by omega), w 5 32 (by omega) (by omega), w 6 64 (by omega) (by omega), w 7 128 (by omega) (by omega), y 2 4 (by omega) (by omega), hk]
    show _ + (if u.getD i false = true then 4 else 0) = _ + (if b = true then 4 else 0)
    omega
  · rw [w 0 1 (by omega) (by omega), w 1 2 (by omega) (by omega), w 2 4 (by omega) (by omega), x 3 8 (by omega) (by omega), w 4 16 (by omega) (by omega), w 5 32 (by omega) (by omega), w 6 64 (by omega) (by omega), w 7 128 (by omega) (by omega), y 3 8 (by omega) (by omega), hk]
    show _ + (if u.getD i false = true then 8 else 0) = _ + (if b = true then 8 else 0)
    omega
  · rw [w 0 1 (by omega) (by omega), w 1 2 (by omega) (by omega), w 2 4 (by omega) (by omega), w 3 8 (by omega) (by omega), x 4 16 (by omega) (by omega), w 5 32 (by omega) (by omega), w 6 64 (by omega) (by omega), w 7 128 (by omega) (by omega), y 4 16 (by omega) (by omega), hk]
    show _ + (if u.getD i false = true then 16 else 0) = _ + (if b = true then 16 else 0)
    omega
  · rw [w 0 1 (by omega) (by omega), w 1 2 (by omega) (by omega), w 2 4 (by omega) (by omega), w 3 8 (by omega) (by omega), w 4 16 (by omega) (by omega), x 5 32 (by omega) (by omega), w 6 64 (by omega) (by omega), w 7 128 (by omega) (by omega), y 5 32 (by omega) (by omega), hk]
    show _ + (if u.getD i false = true then 32 else 0) = _ + (if b = true then 32 else 0)
    omega
  · rw [w 0 1 (by omega) (by omega), w 1 2 (by omega) (by omega), w 2 4 (by omega) (by omega), w 3 8 (by omega) (by omega), w 4 16 (by omega) (by omega), w 5 32 (by omega) (by omega), x 6 64 (by omega) (by omega), w 7 128 (by omega) (by omega), y 6 64 (by omega) (by omega), hk]
    show _ + (if u.getD i false = true then 64 else 0) = _ + (if b = true then 64 else 0)
    omega
  · rw [w 0 1 (by omega) (by omega), w 1 2 (by omega) (by omega), w 2 4 (by omega) (by omega), w 3 8 (by omega) (by omega), w 4 16 (by omega) (by omega), w 5 32 (by omega) (by omega), w 6 64 (by omega) (by omega), x 7 128 (by omega) (by omega), y 7 128 (by omega) (by omega), hk]
    show _ + (if u.getD i false = true then 128 else 0) = _ + (if b = true then 128 else 0)
    omega
theorem bitN_bit (u : List Bool) (i : Nat) : (bitN u (i / 8) / 2 ^ (i % 8) % 2 = 1) = (u.getD i false = true) := by
  have := bit_at u (i / 8) (i % 8) (by omega)
  rw [show 8 * (i / 8) + i % 8 = i by omega] at this
  rw [← this]
  simp
theorem bitN_add (u : List Bool) (i : Nat) (hi : i < u.length) : bitN (u.set i true) (i / 8) = (bitN u (i / 8) ||| 2 ^ (i % 8)) := by
  have h := or_bit ⟨i % 8, by omega⟩ ⟨bitN u (i / 8), bitN_lt u _⟩
  have s := bitN_same u i true hi
  have e := bitN_bit u i
  simp only at h
  rw [h]
  cases hu : u.getD i false
  · rw [hu] at s e
    rw [if_neg (by rw [e]; simp)]
    simpa using s
  · rw [hu] at s e
    rw [if_pos (by rw [e])]
    simpa using s
theorem bitN_drop (u : List Bool) (i : Nat) (hi : i < u.length) : bitN (u.set i false) (i / 8) = (bitN u (i / 8) &&& (255 - 2 ^ (i % 8))) := by
  have h := not_bit ⟨i % 8, by omega⟩ ⟨bitN u (i / 8), bitN_lt u _⟩
  have s := bitN_same u i false hi
  have e := bitN_bit u i
  simp only at h
  rw [h]
  cases hu : u.getD i false
  · rw [hu] at s e
    rw [if_neg (by rw [e]; simp)]
    simpa using s
  · rw [hu] at s e
    rw [if_pos (by rw [e])]
    simp at s
    omega
/-- How many are in a set. -/
def cntTo (u : List Bool) : Nat → Nat
  | 0 => 0
  | k + 1 => cntTo u k + (if u.getD k false then 1 else 0)
theorem ones8 : ∀ b0 b1 b2 b3 b4 b5 b6 b7 : Bool, Lib.onesCount ((if b0 then 1 else 0) + (if b1 then 2 else 0) + (if b2 then 4 else 0) + (if b3 then 8 else 0) + (if b4 then 16 else 0) + (if b5 then 32 else 0) + (if b6 then 64 else 0) + (if b7 then 128 else 0)) = (if b0 then 1 else 0) + (if b1 then 1 else 0) + (if b2 then 1 else 0) + (if b3 then 1 else 0) + (if b4 then 1 else 0) + (if b5 then 1 else 0) + (if b6 then 1 else 0) + (if b7 then 1 else 0) := by decide +kernel
theorem cnt_eight (u : List Bool) (j : Nat) : cntTo u (8 * j + 8) = cntTo u (8 * j) + Lib.onesCount (bitN u j) := by
  have := ones8 (u.getD (8 * j) false) (u.getD (8 * j + 1) false) (u.getD (8 * j + 2) false) (u.getD (8 * j + 3) false) (u.getD (8 * j + 4) false) (u.getD (8 * j + 5) false) (u.getD (8 * j + 6) false) (u.getD (8 * j + 7) false)
  unfold bitN bitW
  rw [this]
  show cntTo u (8 * j) + _ + _ + _ + _ + _ + _ + _ + _ = _
  omega
theorem cntTo_nil (k : Nat) : cntTo [] k = 0 := by
  induction k with
  | zero => rfl
  | succ k ih => show cntTo [] k + 0 = 0; omega
theorem cntTo_cons (b : Bool) (u : List Bool) (k : Nat) : cntTo (b :: u) (k + 1) = (if b then 1 else 0) + cntTo u k := by
  induction k with
  | zero => show 0 + _ = _ + 0; simp
  | succ k ih =>
    show cntTo (b :: u) (k + 1) + _ = _ + (cntTo u k + _)
    rw [ih, List.getD_cons_succ]
    omega
theorem cntTo_all (u : List Bool) (k : Nat) (h : u.length ≤ k) : cntTo u k = u.count true := by
  induction u generalizing k with
  | nil => rw [cntTo_nil]; rfl
  | cons b u ih =>
    cases k with
    | zero => simp at h
    | succ k =>
      rw [cntTo_cons, ih k (by simpa using h)]
      cases b <;> simp <;> omega
theorem count_free (u : List Bool) : u.count true + u.count false = u.length := by
  induction u with
  | nil => rfl
  | cons b u ih => cases b <;> simp <;> omega
theorem count_set (u : List Bool) (i : Nat) (b : Bool) (hi : i < u.length) : (u.set i b).count false + (if u.getD i false = false then 1 else 0) = u.count false + (if b = false then 1 else 0) := by
  induction u generalizing i with
  | nil => simp at hi
  | cons c u ih =>
    cases i with
    | zero => cases b <;> cases c <;> simp
    | succ i =>
      have := ih i (by simpa using hi)
      rw [List.set_cons_succ, List.getD_cons_succ, List.count_cons, List.count_cons]
      omega
/-- A new head. -/
def newHd (n : Nat) : Hd := ⟨0, 0, 0, 0, 0, true :: List.replicate (n - 1) false⟩
/-- A head that may be. -/
structure Hd.Ok (n : Nat) (h : Hd) : Prop where
  len : h.u.length = n
  u0 : h.has 0 = true
  k : ∀ k, k < 4 → h.root k < n ∧ h.has (h.root k) = true
  ser : h.ser ≤ 9223372036854775807
theorem newHd_ok (n : Nat) (hn : 1 ≤ n) : (newHd n).Ok n :=
  ⟨by simp [newHd]; omega, rfl, fun k hk => by
    have : (newHd n).root k = 0 := by unfold Hd.root newHd; split <;> rfl
    rw [this]
    exact ⟨hn, rfl⟩, by show 0 ≤ _; omega⟩
/-- What bytes tell, all of it. -/
def hdOf (b : List UInt8) : Hd := ⟨serOf b, rootOf b 0, rootOf b 1, rootOf b 2, rootOf b 3, (List.range 128).map (usedOf b)⟩
def Hd.cut (n : Nat) (h : Hd) : Hd := { h with u := h.u.take n }
def rightB (n : Nat) (h : Hd) : Bool := decide (h.ser ≤ 9223372036854775807) && (h.has 0 && ((List.range 128).all (fun i => decide (i < n) || !h.has i) && (List.range 4).all (fun k => decide (h.root k < n) && h.has (h.root k))))
def zeroL : List UInt8 := List.replicate 1024 0
def parseH (n : Nat) (b : List UInt8) : Option Hd := if b = zeroL then some (newHd n) else if (hdOf b).text = b ∧ rightB n (hdOf b) = true then some ((hdOf b).cut n) else none
theorem magic_ne (h : Hd) : h.text ≠ zeroL := fun e => by
  have h1 : h.text.getD 0 0 = 115 := rfl
  rw [e] at h1
  unfold zeroL at h1
  rw [List.getD_eq_getElem?_getD, List.getElem?_replicate, if_pos (by omega)] at h1
  exact absurd h1 (by decide)
theorem take_getD (u : List Bool) (n i : Nat) : (u.take n).getD i false = if i < n then u.getD i false else false := by
  rw [List.getD_eq_getElem?_getD, List.getD_eq_getElem?_getD, List.getElem?_take]
  split <;> rfl
theorem range_used (b : List UInt8) (i : Nat) (hi : i < 128) : ((List.range 128).map (usedOf b)).getD i false = usedOf b i := by
  rw [List.getD_eq_getElem?_getD, List.getElem?_map, List.getElem?_range hi]
  rfl
theorem bitN_eq {u v : List Bool} (j : Nat) (h : ∀ k, k < 8 → u.getD (8 * j + k) false = v.getD (8 * j + k) false) : bitN u j = bitN v j := by
  have w : ∀ k x, k < 8 → bitW u (8 * j + k) x = bitW v (8 * j + k) x := fun k x hk => by unfold bitW; rw [h k hk]
  have w0 := w 0 1 (by omega)
  rw [Nat.add_zero] at w0
  unfold bitN
  rw [w0, w 1 2 (by omega), w 2 4 (by omega), w 3 8 (by omega), w 4 16 (by omega), w 5 32 (by omega), w 6 64 (by omega), w 7 128 (by omega)]
theorem mapL_eq {u v : List Bool} (h : ∀ i, i < 128 → u.getD i false = v.getD i false) : mapL u = mapL v := by
  unfold mapL
  apply List.map_congr_left
  intro j hj
  have hj : j < 16 := by simpa using hj
  rw [bitN_eq j (fun k hk => h _ (by omega))]
theorem Hd.text_eq {h g : Hd} (e : h.ser = g.ser ∧ h.r0 = g.r0 ∧ h.r1 = g.r1 ∧ h.r2 = g.r2 ∧ h.r3 = g.r3) (hu : ∀ i, i < 128 → h.has i = g.has i) : h.text = g.text := by
  unfold Hd.text headL
  rw [e.1, e.2.1, e.2.2.1, e.2.2.2.1, e.2.2.2.2, mapL_eq hu]
theorem rightB_iff (n : Nat) (h : Hd) : rightB n h = true ↔ h.ser ≤ 9223372036854775807 ∧ h.has 0 = true ∧ (∀ i, i < 128 → n ≤ i → h.has i = false) ∧ ∀ k, k < 4 → h.root k < n ∧ h.has (h.root k) = true := by
  unfold rightB
  simp only [Bool.and_eq_true, decide_eq_true_eq, List.all_eq_true, List.mem_range, Bool.or_eq_true, Bool.not_eq_true']
  constructor
  · rintro ⟨h1, h2, h3, h4⟩
    exact ⟨h1, h2, fun i hi hn => (h3 i hi).resolve_left (by omega), h4⟩
  · rintro ⟨h1, h2, h3, h4⟩
    refine ⟨h1, h2, fun i hi => ?_, h4⟩
    by_cases e : i < n
    · exact .inl e
    · exact .inr (h3 i hi (by omega))
theorem Hd.cut_root (n : Nat) (h : Hd) (k : Nat) : (h.cut n).root k = h.root k := rfl
theorem Hd.cut_has (n : Nat) (h : Hd) (i : Nat) : (h.cut n).has i = if i < n then h.has i else false := take_getD _ _ _
theorem hdOf_len (b : List UInt8) : (hdOf b).u.length = 128 := by simp [hdOf]
/-- What is parsed may be, and has these bytes. -/
theorem parse_ok {n : Nat} {b : List UInt8} {h : Hd} (hn : 1 ≤ n) (hn2 : n ≤ 128) (e : parseH n b = some h) : h.Ok n ∧ (b = zeroL ∧ h = newHd n ∨ h.text = b) := by
  unfold parseH at e
  split at e
  · obtain rfl := Option.some.inj e
    rename_i h0
    exact ⟨newHd_ok n hn, .inl ⟨h0, rfl⟩⟩
  · split at e
    · rename_i h2
      obtain ⟨h2, h3⟩ := h2
      obtain ⟨k1, k2, k3, k4⟩ := (rightB_iff n _).1 h3
      obtain rfl := Option.some.inj e
      refine ⟨⟨?_, ?_, fun k hk => ?_, k1⟩, .inr ?_⟩
      · show ((hdOf b).u.take n).length = n
        rw [List.length_take, hdOf_len]; omega
      · rw [Hd.cut_has, if_pos (by omega)]; exact k2
      · obtain ⟨a, c⟩ := k4 k hk
        rw [Hd.cut_root]
        exact ⟨a, by rw [Hd.cut_has, if_pos a]; exact c⟩
      · rw [Hd.text_eq (h := (hdOf b).cut n) (g := hdOf b) ⟨rfl, rfl, rfl, rfl, rfl⟩ (fun i hi => ?_)]
        · exact h2
        · rw [Hd.cut_has]
          split
          · rfl
          · rename_i hh; exact (k3 i hi (by omega)).symm
    · cases e
theorem Hd.root_lt {n : Nat} {h : Hd} (ok : h.Ok n) (hn : n ≤ 128) : h.r0 < 65536 ∧ h.r1 < 65536 ∧ h.r2 < 65536 ∧ h.r3 < 65536 := by
  have h0 := (ok.k 0 (by omega)).1
  have h1 := (ok.k 1 (by omega)).1
  have h2 := (ok.k 2 (by omega)).1
  have h3 := (ok.k 3 (by omega)).1
  simp only [Hd.root] at h0 h1 h2 h3
  omega
theorem Hd.has_out {n : Nat} {h : Hd} (hl : h.u.length = n) {i : Nat} (hi : n ≤ i) : h.has i = false := by
  unfold Hd.has
  rw [List.getD_eq_getElem?_getD, List.getElem?_eq_none (by omega)]
  rfl
theorem hdOf_text {n : Nat} {h : Hd} (ok : h.Ok n) (hn : n ≤ 128) : (hdOf h.text).ser = h.ser ∧ (hdOf h.text).r0 = h.r0 ∧ (hdOf h.text).r1 = h.r1 ∧ (hdOf h.text).r2 = h.r2 ∧ (hdOf h.text).r3 = h.r3 ∧ ∀ i, i < 128 → (hdOf h.text).has i = h.has i := by
  obtain ⟨a0, a1, a2, a3⟩ := Hd.root_lt ok hn
  have hs : h.ser < 18446744073709551616 := by have := ok.ser; omega
  obtain ⟨b0, b1, b2, b3⟩ := root_head h.ser h.r0 h.r1 h.r2 h.r3 h.u a0 a1 a2 a3
  refine ⟨ser_head h.ser h.r0 h.r1 h.r2 h.r3 h.u hs, b0, b1, b2, b3, fun i hi => ?_⟩
  unfold Hd.has hdOf
  simp only
  rw [range_used _ _ hi]
  exact used_head _ _ _ _ _ _ i hi
/-- What was written is parsed again. -/
theorem parse_text {n : Nat} {h : Hd} (ok : h.Ok n) (hn1 : 1 ≤ n) (hn : n ≤ 128) : parseH n h.text = some h := by
  obtain ⟨e0, e1, e2, e3, e4, e5⟩ := hdOf_text ok hn
  have ht : (hdOf h.text).text = h.text := Hd.text_eq ⟨e0, e1, e2, e3, e4⟩ e5
  have hr : ∀ k, (hdOf h.text).root k = h.root k := fun k => by
    unfold Hd.root
    split
    · exact e1
    · exact e2
    · exact e3
    · exact e4
  have hR : rightB n (hdOf h.text) = true := (rightB_iff n _).2 ⟨by rw [e0]; exact ok.ser, by rw [e5 0 (by omega)]; exact ok.u0, fun i hi hni => by rw [e5 i hi]; exact Hd.has_out ok.len hni, fun k hk => by
    rw [hr]
    have := ok.k k hk
    exact ⟨this.1, by rw [e5 _ (by omega)]; exact this.2⟩⟩
  unfold parseH
  rw [if_neg (magic_ne h), if_pos ⟨ht, hR⟩]
  congr 1
  have hu : (hdOf h.text).u.take n = h.u := by
    apply List.ext_getElem?
    intro i
    rw [List.getElem?_take]
    by_cases hi : i < n
    · rw [if_pos hi]
      have := e5 i (by omega)
      unfold Hd.has at this
      rw [List.getD_eq_getElem?_getD, List.getD_eq_getElem?_getD, List.getElem?_eq_getElem (by rw [hdOf_len]; omega), List.getElem?_eq_getElem (by rw [ok.len]; omega)] at this
      rw [List.getElem?_eq_getElem (by rw [hdOf_len]; omega), List.getElem?_eq_getElem (by rw [ok.len]; omega)]
      simp only [Option.getD_some] at this
      rw [this]
    · rw [if_neg hi, List.getElem?_eq_none (by rw [ok.len]; omega)]
  unfold Hd.cut
  rw [hu]
  cases h
  simp only at e0 e1 e2 e3 e4 ⊢
  rw [e0, e1, e2, e3, e4]
end Pg
end Go.Proofs.YtdgffocmdkadpaaGreat
