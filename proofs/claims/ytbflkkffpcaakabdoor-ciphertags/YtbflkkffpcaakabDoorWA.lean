/- Quarter rounds, blocks, the stream and hidden bytes as mathematics. -/
import Derived.Test.YtbflkkffpcaakabDoorR
import Derived.Test.YtbflkkffpcaakabDoorJ
namespace Go.Proofs.YtbflkkffpcaakabDoor
open Go.RowKit
def addW (x y : Nat) : Nat := (x + y) % 4294967296
theorem addW_lt (x y : Nat) : addW x y < 4294967296 := Nat.mod_lt _ (by omega)
/-- A quarter round of four words. -/
def quarterL (a b c d : Nat) : List Nat :=
  let a1 := addW a b
  let d1 := rotr (d ^^^ a1) 16
  let c1 := addW c d1
  let b1 := rotr (b ^^^ c1) 20
  let a2 := addW a1 b1
  let d2 := rotr (d1 ^^^ a2) 24
  let c2 := addW c1 d2
  let b2 := rotr (b1 ^^^ c2) 25
  [a2, b2, c2, d2]
theorem quarterL_len (a b c d : Nat) : (quarterL a b c d).length = 4 := rfl
theorem quarterL_wd {a b c d : Nat} (hb : b < 4294967296) (hd : d < 4294967296) : Wd (quarterL a b c d) := by
  have h1 : rotr (d ^^^ addW a b) 16 < 4294967296 := rotr_lt (xor_lt hd (addW_lt _ _))
  have h2 : rotr (b ^^^ addW c (rotr (d ^^^ addW a b) 16)) 20 < 4294967296 := rotr_lt (xor_lt hb (addW_lt _ _))
  intro x hx
  simp only [quarterL, List.mem_cons, List.not_mem_nil, or_false] at hx
  rcases hx with rfl | rfl | rfl | rfl
  · exact addW_lt _ _
  · exact rotr_lt (xor_lt h2 (addW_lt _ _))
  · exact addW_lt _ _
  · exact rotr_lt (xor_lt h1 (addW_lt _ _))
/-- A quarter round on four of sixteen words. -/
def atL (s : List Nat) (i j k l : Nat) : List Nat :=
  let q := quarterL (s.getD i 0) (s.getD j 0) (s.getD k 0) (s.getD l 0)
  (((s.set i (q.getD 0 0)).set j (q.getD 1 0)).set k (q.getD 2 0)).set l (q.getD 3 0)
theorem atL_len (s : List Nat) (i j k l : Nat) : (atL s i j k l).length = s.length := by simp [atL]
theorem Wd.set {l : List Nat} (h : Wd l) (i : Nat) {x : Nat} (hx : x < 4294967296) : Wd (l.set i x) := by
  intro y hy
  rcases List.mem_or_eq_of_mem_set hy with h1 | h1
  · exact h y h1
  · rw [h1]; exact hx
theorem atL_wd {s : List Nat} (h : Wd s) (i j k l : Nat) : Wd (atL s i j k l) := by
  have hq : Wd (quarterL (s.getD i 0) (s.getD j 0) (s.getD k 0) (s.getD l 0)) := quarterL_wd (h.getD j) (h.getD l)
  exact (((h.set i (hq.getD 0)).set j (hq.getD 1)).set k (hq.getD 2)).set l (hq.getD 3)
def atP (s : List Nat) (p : List Nat) : List Nat := atL s (p.getD 0 0) (p.getD 1 0) (p.getD 2 0) (p.getD 3 0)
/-- The first n quarter rounds of a round. -/
def roundN (s : List Nat) (n : Nat) : List Nat := (qPlaces.take n).foldl atP s
theorem roundN_0 (s : List Nat) : roundN s 0 = s := rfl
theorem roundN_step (s : List Nat) (n : Nat) (h : n < 8) : roundN s (n + 1) = atP (roundN s n) (qPlaces.getD n []) := by
  unfold roundN
  have h2 : n < qPlaces.length := h
  rw [List.take_add_one, List.getElem?_eq_getElem h2, List.foldl_append, List.getD_eq_getElem?_getD, List.getElem?_eq_getElem h2]
  rfl
theorem fold_at_len (ps : List (List Nat)) : ∀ s : List Nat, (ps.foldl atP s).length = s.length := by
  induction ps with
  | nil => intro s; rfl
  | cons p ps ih => intro s; rw [List.foldl_cons, ih]; exact atL_len _ _ _ _ _
theorem fold_at_wd (ps : List (List Nat)) : ∀ {s : List Nat}, Wd s → Wd (ps.foldl atP s) := by
  induction ps with
  | nil => intro s h; exact h
  | cons p ps ih => intro s h; rw [List.foldl_cons]; exact ih (atL_wd h _ _ _ _)
theorem roundN_len (s : List Nat) (n : Nat) : (roundN s n).length = s.length := fold_at_len _ s
theorem roundN_wd {s : List Nat} (h : Wd s) (n : Nat) : Wd (roundN s n) := fold_at_wd _ h
def roundsL (s : List Nat) : Nat → List Nat
  | 0 => s
  | n + 1 => roundN (roundsL s n) 8
theorem roundsL_len (s : List Nat) (n : Nat) : (roundsL s n).length = s.length := by
  induction n with
  | zero => rfl
  | succ n ih => rw [roundsL, roundN_len, ih]
theorem roundsL_wd {s : List Nat} (h : Wd s) (n : Nat) : Wd (roundsL s n) := by
  induction n with
  | zero => exact h
  | succ n ih => exact roundN_wd ih 8
/-- The words of the block that begins with some words. -/
def blockWs (f : List Nat) : List Nat := (List.range 16).map fun i => addW ((roundsL f 10).getD i 0) (f.getD i 0)
theorem blockWs_len (f : List Nat) : (blockWs f).length = 16 := by simp [blockWs]
theorem blockWs_at (f : List Nat) (i : Nat) (h : i < 16) : (blockWs f).getD i 0 = addW ((roundsL f 10).getD i 0) (f.getD i 0) := by
  simp [blockWs, List.getD_eq_getElem?_getD, List.getElem?_map, List.getElem?_range h]
/-- The bytes of words, each word's lowest first: the byte i. -/
def byteAt (ws : List Nat) (i : Nat) : UInt8 := UInt8.ofNat (ws.getD (i / 4) 0 / 2 ^ (8 * (i % 4)))
def blockL (f : List Nat) : List UInt8 := (List.range 64).map (byteAt (blockWs f))
theorem blockL_len (f : List Nat) : (blockL f).length = 64 := by simp [blockL]
theorem blockL_at (f : List Nat) (i : Nat) (h : i < 64) : (blockL f).getD i 0 = byteAt (blockWs f) i := by
  simp [blockL, List.getD_eq_getElem?_getD, List.getElem?_map, List.getElem?_range h]
/-- A word of a text. -/
def wordAt (t : List UInt8) (i : Nat) : Nat := (t.getD (4 * i) 0).toNat + 256 * (t.getD (4 * i + 1) 0).toNat + 65536 * (t.getD (4 * i + 2) 0).toNat + 16777216 * (t.getD (4 * i + 3) 0).toNat
theorem wordAt_lt (t : List UInt8) (i : Nat) : wordAt t i < 4294967296 := by
  have h0 := (t.getD (4 * i) 0).toNat_lt
  have h1 := (t.getD (4 * i + 1) 0).toNat_lt
  have h2 := (t.getD (4 * i + 2) 0).toNat_lt
  have h3 := (t.getD (4 * i + 3) 0).toNat_lt
  unfold wordAt
  omega
def wordsL (t : List UInt8) : List Nat := (List.range 16).map (wordAt t)
theorem wordsL_len (t : List UInt8) : (wordsL t).length = 16 := by simp [wordsL]
theorem wordsL_at (t : List UInt8) (i : Nat) (h : i < 16) : (wordsL t).getD i 0 = wordAt t i := by
  simp [wordsL, List.getD_eq_getElem?_getD, List.getElem?_map, List.getElem?_range h]
theorem wordsL_wd (t : List UInt8) : Wd (wordsL t) := by
  intro x hx
  simp only [wordsL, List.mem_map] at hx
  obtain ⟨i, _, rfl⟩ := hx
  exact wordAt_lt _ _
/-- 'expand 32-byte k' -/
def expandL : List UInt8 := [101, 120, 112, 97, 110, 100, 32, 51, 50, 45, 98, 121, 116, 101, 32, 107]
def beginT (key z nonce : List UInt8) : List UInt8 := expandL ++ key ++ z ++ nonce
/-- The words that a block begins with, but its number. -/
def firstL (key nonce : List UInt8) : List Nat := wordsL (beginT key [0, 0, 0, 0] nonce)
theorem firstL_len (key nonce : List UInt8) : (firstL key nonce).length = 16 := wordsL_len _
theorem firstL_wd (key nonce : List UInt8) : Wd (firstL key nonce) := wordsL_wd _
def numBytes (n : Nat) : List UInt8 := [UInt8.ofNat n, UInt8.ofNat (n / 256), UInt8.ofNat (n / 65536), UInt8.ofNat (n / 16777216)]
theorem beginT_at (key z nonce : List UInt8) (hk : key.length = 32) (hz : z.length = 4) (i : Nat) :
    (beginT key z nonce).getD i 0 = if i < 48 then (expandL ++ key).getD i 0 else if i < 52 then z.getD (i - 48) 0 else nonce.getD (i - 52) 0 := by
  have he : expandL.length = 16 := rfl
  unfold beginT
  split
  · next h => rw [List.append_assoc (expandL ++ key), List.getD_eq_getElem?_getD, List.getElem?_append_left (by simp [he, hk]; omega), List.getD_eq_getElem?_getD]
  · next h =>
    rw [List.append_assoc (expandL ++ key), List.getD_eq_getElem?_getD, List.getElem?_append_right (by simp [he, hk]; omega)]
    have e : i - (expandL ++ key).length = i - 48 := by simp [he, hk]
    rw [e]
    split
    · next h2 => rw [List.getElem?_append_left (by omega), List.getD_eq_getElem?_getD]
    · next h2 => rw [List.getElem?_append_right (by omega), List.getD_eq_getElem?_getD, hz, show i - 48 - 4 = i - 52 by omega]
/-- The block's number stands in the word 12. -/
theorem words_num (key nonce : List UInt8) (n : Nat) (hk : key.length = 32) (hn : n < 4294967296) :
    wordsL (beginT key (numBytes n) nonce) = (firstL key nonce).set 12 n := by
  apply List.ext_getElem?
  intro i
  by_cases hi : i < 16
  · have e1 : (wordsL (beginT key (numBytes n) nonce))[i]? = some (wordAt (beginT key (numBytes n) nonce) i) := by simp [wordsL, List.getElem?_range hi]
    rw [e1, List.getElem?_set, firstL_len]
    by_cases h12 : 12 = i
    · subst h12
      rw [if_pos rfl, if_pos (by omega)]
      unfold wordAt
      simp only [beginT_at _ _ _ hk (show (numBytes n).length = 4 from rfl)]
      simp [numBytes, UInt8.toNat_ofNat']
      omega
    · rw [if_neg h12]
      have e2 : (firstL key nonce)[i]? = some (wordAt (beginT key [0, 0, 0, 0] nonce) i) := by simp [firstL, wordsL, List.getElem?_range hi]
      rw [e2]
      congr 1
      unfold wordAt
      simp only [beginT_at _ _ _ hk (show (numBytes n).length = 4 from rfl), beginT_at _ _ _ hk (show ([0, 0, 0, 0] : List UInt8).length = 4 from rfl)]
      by_cases h : i < 12
      · rw [if_pos (by omega), if_pos (by omega), if_pos (by omega), if_pos (by omega), if_pos (by omega), if_pos (by omega), if_pos (by omega), if_pos (by omega)]
      · have : ∀ k, k < 4 → ¬ (4 * i + k < 48) ∧ ¬ (4 * i + k < 52) := fun k hk => by omega
        have h0 := this 0 (by omega)
        rw [Nat.add_zero] at h0
        simp only [h0.1, h0.2, (this 1 (by omega)).1, (this 1 (by omega)).2, (this 2 (by omega)).1, (this 2 (by omega)).2, (this 3 (by omega)).1, (this 3 (by omega)).2, if_false]
  · rw [List.getElem?_eq_none (by rw [wordsL_len]; omega), List.getElem?_eq_none (by rw [List.length_set, firstL_len]; omega)]
/-- The words that the block n of a stream begins with. -/
def numbered (f : List Nat) (n : Nat) : List Nat := f.set 12 (n % 4294967296)
theorem numbered_len (f : List Nat) (n : Nat) : (numbered f n).length = f.length := by simp [numbered]
theorem numbered_wd {f : List Nat} (h : Wd f) (n : Nat) : Wd (numbered f n) := h.set 12 (Nat.mod_lt _ (by omega))
theorem numbered_next (f : List Nat) (n : Nat) (hf : f.length = 16) : (numbered f n).set 12 (addW ((numbered f n).getD 12 0) 1) = numbered f (n + 1) := by
  unfold numbered
  rw [List.set_set]
  congr 1
  rw [List.getD_eq_getElem?_getD, List.getElem?_set_self (by omega)]
  simp [addW]
/-- The stream's byte i. -/
def strmAt (f : List Nat) (i : Nat) : UInt8 := (blockL (numbered f (i / 64 + 1))).getD (i % 64) 0
/-- A text that is hidden from the stream's place o on. -/
def hideL (f : List Nat) : Nat → List UInt8 → List UInt8
  | _, [] => []
  | o, b :: t => (b ^^^ strmAt f o) :: hideL f (o + 1) t
theorem hideL_len (f : List Nat) (t : List UInt8) : ∀ o, (hideL f o t).length = t.length := by
  induction t with
  | nil => intro o; rfl
  | cons b t ih => intro o; simp [hideL, ih]
theorem hideL_append (f : List Nat) (u : List UInt8) (t : List UInt8) : ∀ o, hideL f o (t ++ u) = hideL f o t ++ hideL f (o + t.length) u := by
  induction t with
  | nil => intro o; simp [hideL]
  | cons b t ih => intro o; simp only [List.cons_append, hideL, ih, List.length_cons]; rw [show o + 1 + t.length = o + (t.length + 1) by omega]
theorem hideL_back (f : List Nat) (t : List UInt8) : ∀ o, hideL f o (hideL f o t) = t := by
  induction t with
  | nil => intro o; rfl
  | cons b t ih =>
    intro o
    simp only [hideL, ih]
    congr 1
    rw [UInt8.xor_assoc, UInt8.xor_self, UInt8.xor_zero]
theorem hideL_snoc (f : List Nat) (o : Nat) (t : List UInt8) (b : UInt8) : hideL f o (t ++ [b]) = hideL f o t ++ [b ^^^ strmAt f (o + t.length)] := by
  rw [hideL_append]; rfl
/-- A label's length in eight bytes. -/
def lenBytes (n : Nat) : List UInt8 := (List.range 8).map fun i => UInt8.ofNat (n / 2 ^ (8 * i))
theorem lenBytes_len (n : Nat) : (lenBytes n).length = 8 := by simp [lenBytes]
end Go.Proofs.YtbflkkffpcaakabDoor
