/- Weak sums: mathematics, and walks over the program's and the document's. Walks over One, Blocks, Same, the program's and the document's. -/
import Derived.Test.YtbhnmjjfammlkaaDoorBA
import Derived.Test.YtbhnmjjfammlkaaDoorNM
import Derived.BigQuiet
namespace Go.Proofs.YtbhnmjjfammlkaaDoor
open Go.RowKit
/-- The sum of bytes. -/
def wa : List UInt8 → Nat
  | [] => 0
  | x :: l => x.toNat + wa l
/-- The sum of each byte times how many stand from it on. -/
def wb : List UInt8 → Nat
  | [] => 0
  | x :: l => x.toNat * (l.length + 1) + wb l
/-- The weak sum. -/
def wsum (l : List UInt8) : Nat := wa l % 65536 + 65536 * (wb l % 65536)
theorem wsum_lt (l : List UInt8) : wsum l < 4294967296 := by unfold wsum; omega
theorem wa_append (l m : List UInt8) : wa (l ++ m) = wa l + wa m := by
  induction l with
  | nil => simp [wa]
  | cons x l ih => rw [List.cons_append, wa, wa, ih]; omega
theorem wb_append (l m : List UInt8) : wb (l ++ m) = wb l + wa l * m.length + wb m := by
  induction l with
  | nil => simp [wb, wa]
  | cons x l ih =>
    rw [List.cons_append, wb, wb, wa, ih, List.length_append, Nat.add_mul, show x.toNat * (l.length + m.length + 1) = x.toNat * (l.length + 1) + x.toNat * m.length by rw [← Nat.mul_add]; congr 1; omega]
    omega
theorem wa_snoc (l : List UInt8) (c : UInt8) : wa (l ++ [c]) = wa l + c.toNat := by rw [wa_append]; simp [wa]
theorem wb_snoc (l : List UInt8) (c : UInt8) : wb (l ++ [c]) = wb l + wa l + c.toNat := by rw [wb_append]; simp [wb]
theorem wa_le (l : List UInt8) : wa l ≤ 255 * l.length := by
  induction l with
  | nil => simp [wa]
  | cons x l ih => have := x.toNat_lt; rw [wa, List.length_cons]; omega
theorem wb_le (l : List UInt8) : wb l ≤ 255 * l.length * l.length := by
  induction l with
  | nil => simp [wb]
  | cons x l ih =>
    have hx : x.toNat ≤ 255 := by have := x.toNat_lt; omega
    rw [wb, List.length_cons]
    have h1 : x.toNat * (l.length + 1) ≤ 255 * (l.length + 1) := Nat.mul_le_mul_right _ hx
    have h2 : 255 * l.length * l.length ≤ 255 * (l.length + 1) * l.length := Nat.mul_le_mul_right _ (by omega)
    have h3 : 255 * (l.length + 1) * (l.length + 1) = 255 * (l.length + 1) * l.length + 255 * (l.length + 1) := by rw [Nat.mul_add, Nat.mul_one]
    omega
theorem wrap16 (x : Int) : IntKind.u16.wrap x = x % 65536 := by
  simp [IntKind.wrap, IntKind.signed, IntKind.bits]
theorem or_sum (a b : Nat) (ha : a < 65536) (hb : b < 65536) : bits .or .u32 ((65536 * b : Nat) : Int) (a : Int) = ((a + 65536 * b : Nat) : Int) := by
  rw [u32_or_nat _ _ (by omega) (by omega)]
  congr 1
  rw [show 65536 * b = 2 ^ 16 * b by rfl, ← Nat.two_pow_add_eq_or_of_lt (i := 16) (by simpa using ha)]
  omega
set_option maxHeartbeats 400000 in
theorem rollwhole_any (a b : Nat) (w : World) (ha : a < 65536) (hb : b < 65536) :
    Calls Tryd.prog 60 #[.int .u16 (a : Int), .int .u16 (b : Int)] w fun e w' => e = .returned (.int .u32 ((a + 65536 * b : Nat) : Int)) ∧ w' = w := by
  have ho := or_sum a b ha hb
  go_enter Tryd.func60, Tryd.ntmps60
  go_wp2
  go_ret
  refine ⟨ret_int ?_, rfl⟩
  rw [← ho]
  congr 1
  omega
set_option maxRecDepth 100000 in
set_option maxHeartbeats 400000 in
theorem rollsum_any (a : Option Addr) (len cap : Nat) (bs : List UInt8) (w : World) (hb : BsI w a len cap bs) :
    Calls Tryd.prog 48 #[.slice a len cap] w fun e w' => e = .returned (.int .u32 (wsum bs : Int)) ∧ w' = w := by
  have HB : Hid (BsI w a len cap bs) := hb
  have hm : len ≤ 9223372036854775807 := Nat.le_trans hb.2.1 hb.2.2.1
  clear hb
  go_enter Tryd.func48, Tryd.ntmps48
  go_wp2
  go_loop [3, 4, 9] (fun p q i => ∃ k x y : Nat, k ≤ len ∧ i = .int .i64 k ∧ p = .int .u16 (x : Int) ∧ q = .int .u16 (y : Int) ∧ x = wa (bs.take k) % 65536 ∧ y = wb (bs.take k) % 65536) (fun _ _ i => len - (intOf i).toNat)
  case atStart => exact ⟨0, 0, 0, by omega, rfl, rfl, rfl, by simp [wa], by simp [wb]⟩
  case round =>
    obtain ⟨k, x, y, hk, rfl, rfl, rfl, hx, hy⟩ := hrel
    have hx2 : x < 65536 := by omega
    have hy2 : y < 65536 := by omega
    by_cases hlt : k < len
    · obtain ⟨bb, bo, rfl, hbl, hc⟩ := HB.out.2.2.2 (by omega)
      have hl := HB.out.1
      obtain ⟨c, hcc⟩ : ∃ c : Nat, (bs.getD k 0).toNat = c := ⟨_, rfl⟩
      have hck := hc k hlt
      rw [hcc] at hck
      have hc256 : c < 256 := by rw [← hcc]; exact UInt8.toNat_lt _
      have hs : bs.take (k + 1) = bs.take k ++ [bs.getD k 0] := by
        rw [List.take_add_one, List.getElem?_eq_getElem (by omega)]
        simp [List.getElem?_eq_getElem (show k < bs.length by omega)]
      have HX : Hid ((x + c) % 65536 = wa (bs.take (k + 1)) % 65536) := by
        show _ = _
        rw [hs, wa_snoc, hcc]; omega
      have HY : Hid ((y + (x + c) % 65536) % 65536 = wb (bs.take (k + 1)) % 65536) := by
        show _ = _
        rw [hs, wb_snoc, hcc]; omega
      clear hx hy hs hcc hc hl
      go_wp2
      refine ⟨⟨k + 1, (x + c) % 65536, (y + (x + c) % 65536) % 65536, by omega, by go_num, ?_, ?_, HX.out, HY.out⟩, by simp [intOf]; omega⟩
      · rw [wrap16]; congr 1
      · rw [wrap16, wrap16]; congr 1
    · obtain rfl : k = len := by omega
      have HW : Hid (x + 65536 * y = wsum bs) := by
        show _ = _
        have hl := HB.out.1
        rw [List.take_of_length_le (by omega)] at hx hy
        rw [hx, hy, wsum]
      clear hx hy
      go_wp2_with (go_at_call 60; refine (rollwhole_any x y _ hx2 hy2).mono ?_; rintro e w' ⟨rfl, rfl⟩)
      go_ret
      exact ⟨ret_int (by have := HW.out; omega), rfl⟩
theorem wb_drop (bs : List UInt8) (k : Nat) (h : k < bs.length) : wb (bs.drop k) = (bs.getD k 0).toNat * (bs.length - k) + wb (bs.drop (k + 1)) := by
  rw [List.drop_eq_getElem_cons h, wb, List.length_drop, show bs.length - (k + 1) + 1 = bs.length - k by omega]
  congr 3
  simp [List.getElem?_eq_getElem h]
set_option maxRecDepth 100000 in
set_option maxHeartbeats 400000 in
theorem rsum_any (bs : List UInt8) (w : World) (hl : bs.length ≤ 5000) :
    Calls Tryd.prog 54 #[.string (strOf bs)] w fun e w' => e = .returned (.int .u32 (wsum bs : Int)) ∧ w' = w := by
  obtain ⟨L, hL⟩ : ∃ L, bs.length = L := ⟨_, rfl⟩
  have hsz : (strOf bs).size = L := by rw [strOf_size, hL]
  obtain ⟨S, hS⟩ : ∃ S, strOf bs = S := ⟨_, rfl⟩
  have HI : Hid (∀ i (h : i < S.size), S[i]'h = bs.getD i 0) := by
    intro i h
    subst hS
    have h' : i < bs.length := by rw [strOf_size] at h; exact h
    show bs.toArray[i] = _
    simp [List.getElem?_eq_getElem h']
  rw [hS] at hsz ⊢
  have HL : Hid (bs.length = L) := hL
  have hL5 : L ≤ 5000 := by omega
  have HA : Hid (wa bs ≤ 1275000) := by have := wa_le bs; show _ ≤ _; omega
  have HBd : Hid (wb bs ≤ 6375000000) := by
    have h1 := wb_le bs
    have h2 : 255 * bs.length * bs.length ≤ 255 * 5000 * 5000 := Nat.mul_le_mul (Nat.mul_le_mul_left _ hl) hl
    show _ ≤ _; omega
  clear hS hL hl
  go_enter Tryd.func54, Tryd.ntmps54
  go_wp2
  go_loop [3, 4, 5] (fun p q i => ∃ k x y : Nat, k ≤ L ∧ i = .int .i64 k ∧ p = .int .u64 (x : Int) ∧ q = .int .u64 (y : Int) ∧ x + wa (bs.drop k) = wa bs ∧ y + wb (bs.drop k) = wb bs) (fun _ _ i => L - (intOf i).toNat)
  case atStart => exact ⟨0, 0, 0, by omega, rfl, rfl, rfl, by simp, by simp⟩
  case round =>
    obtain ⟨k, x, y, hk, rfl, rfl, rfl, hx, hy⟩ := hrel
    have hx2 : x ≤ 1275000 := by have := HA.out; omega
    have hy2 : y ≤ 6375000000 := by have := HBd.out; omega
    by_cases hlt : k < L
    · have hl : k < bs.length := by rw [HL.out]; exact hlt
      have hks : k < S.size := by rw [hsz]; exact hlt
      obtain ⟨c, hcc⟩ : ∃ c : Nat, (bs.getD k 0).toNat = c := ⟨_, rfl⟩
      have hc256 : c < 256 := by rw [← hcc]; exact UInt8.toNat_lt _
      have hsi : (S[k]'hks).toNat = c := by rw [HI.out k hks, hcc]
      have hwb := wb_drop bs k hl
      have hwa : wa (bs.drop k) = c + wa (bs.drop (k + 1)) := by
        rw [List.drop_eq_getElem_cons hl, wa, ← hcc]
        congr 2
        simp [List.getElem?_eq_getElem hl]
      rw [hcc, HL.out] at hwb
      obtain ⟨P, hP⟩ : ∃ P, c * (L - k) = P := ⟨_, rfl⟩
      have hPi : (c : Int) * ((L : Int) - (k : Int)) = (P : Int) := by
        rw [← hP, ← Int.ofNat_sub (by omega)]; simp
      rw [hP] at hwb
      have HX : Hid (x + c + wa (bs.drop (k + 1)) = wa bs) := by show _ = _; omega
      have HY : Hid (y + P + wb (bs.drop (k + 1)) = wb bs) := by show _ = _; omega
      have hP2 : y + P ≤ 6375000000 := by have := HBd.out; omega
      clear hx hy hwa hwb hcc hP hl
      go_wp2
      exact ⟨⟨k + 1, x + c, y + P, by omega, by go_num, by go_num, by go_num, HX.out, HY.out⟩, by simp [intOf]; omega⟩
    · obtain rfl : k = L := by omega
      have hd : bs.drop k = [] := List.drop_eq_nil_of_le (by rw [HL.out]; omega)
      rw [hd] at hx hy
      have HW : Hid (x % 65536 + 65536 * (y % 65536) = wsum bs) := by
        show _ = _
        simp only [wa, wb, Nat.add_zero] at hx hy
        rw [hx, hy, wsum]
      clear hx hy hd
      go_wp2
      go_ret
      exact ⟨ret_int (by rw [← HW.out]; omega), rfl⟩
end Go.Proofs.YtbhnmjjfammlkaaDoor
namespace Go.Proofs.YtbhnmjjfammlkaaDoor
open Go.RowKit
theorem below_drewN {B : Nat} {a w : World} (h : Below B a w) : ∀ n : Nat, Below B a (w.drewN n)
  | 0 => h
  | n + 1 => (below_drewN h n).drew
/-- The strong part of a block's signature. -/
def stg (k b : ByteArray) : ByteArray := (strOf (sealL k.data.toList b.data.toList)).extract 0 16
theorem stg_size (k b : ByteArray) : (stg k b).size = 16 := by
  unfold stg
  rw [ByteArray.size_extract, strOf_size, sealL_len]
  rfl
def sgOf (k b : ByteArray) : Sg := (wsum b.data.toList, stg k b)
set_option maxRecDepth 100000 in
set_option maxHeartbeats 1000000 in
theorem one_any (k b : ByteArray) (w : World) (hk : k.size ≤ 1000000) (hb : b.size ≤ 1000000) (hL : Laid w) :
    Calls Tryd.prog 30 #[.string k, .string b] w fun e w' => e = .returned (.agg #[.int .u32 ((sgOf k b).1 : Int), .string (sgOf k b).2]) ∧ Below w.heap.size w w' := by
  obtain ⟨rb, hrb⟩ : ∃ rb, w.heap.size = rb := ⟨_, rfl⟩
  obtain ⟨W1, hW1⟩ : ∃ W1, w.alloc (.cells #[.int .u32 0, .string ⟨#[]⟩] 65) = W1 := ⟨_, rfl⟩
  have r1 : W1.heap[rb]? = some (.cells #[.int .u32 0, .string ⟨#[]⟩] 65 (0, 0)) := by rw [← hW1, ← hrb]; exact heap_alloc_new w _
  have hb1 : Below w.heap.size w W1 := by rw [← hW1]; exact (Below.refl _ w).alloc (Nat.le_refl _) _
  obtain ⟨cap, W2, hcv, hc1, hc2, hb2, hs2, hcl⟩ := bytes_of W1 b (by omega)
  have hbs : BsI W2 (some ⟨W1.heap.size, 0, none⟩) b.size cap b.data.toList := ⟨by rw [Array.length_toList]; rfl, hc1, hc2, fun _ => ⟨W1.heap.size, 0, rfl, hs2, fun i hi => by rw [Nat.zero_add]; exact hcl i hi⟩⟩
  have HS := rollsum_any _ _ _ _ W2 hbs
  have hbw2 : Below w.heap.size w W2 := hb1.trans (hb2.mono hb1.size)
  obtain ⟨O, hO⟩ : ∃ O, strOf (sealL k.data.toList b.data.toList) = O := ⟨_, rfl⟩
  have hOs : O.size = 32 := by rw [← hO, strOf_size, sealL_len]
  have HSE : Calls Tryd.prog 52 #[.string k, .string b] W2 fun e w' => e = .returned (.string O) ∧ Below W2.heap.size W2 w' := by rw [← hO]; exact seal_any k b W2 (by omega) (by omega) (hL.below hbw2)
  obtain ⟨s, hs⟩ : ∃ s, wsum b.data.toList = s := ⟨_, rfl⟩
  obtain ⟨Q, hQ⟩ : ∃ Q, O.extract 0 16 = Q := ⟨_, rfl⟩
  have e : sgOf k b = (s, Q) := by unfold sgOf stg; rw [hs, hO, hQ]
  rw [e]
  rw [hs] at HS
  have HH : Hid (Below w.heap.size w W2 ∧ W2.heap[rb]? = some (.cells #[.int .u32 0, .string ⟨#[]⟩] 65 (0, 0)) ∧ w.heap.size = rb) := ⟨hbw2, (hb2.block rb (lt_of_some r1)).trans r1, hrb⟩
  have k16 : (16 : Int) ≤ (O.size : Int) := by omega
  clear r1 hb1 hc1 hc2 hb2 hs2 hcl hbs hbw2 hO hs e hL
  go_enter Tryd.func30, Tryd.ntmps30
  go_wp2_with fail
  refine HS.mono ?_
  rintro e V ⟨rfl, hV⟩
  subst V
  clear HS
  go_wp2_with fail
  refine HSE.mono ?_
  rintro e V ⟨rfl, hb3⟩
  have HV : Hid (Below w.heap.size w V ∧ V.heap[rb]? = some (.cells #[.int .u32 0, .string ⟨#[]⟩] 65 (0, 0))) := ⟨HH.out.1.trans (hb3.mono HH.out.1.size), (hb3.block rb (lt_of_some HH.out.2.1)).trans HH.out.2.1⟩
  have z0 : V.cell? ⟨rb, 0, none⟩ = some (.int .u32 0) := by rw [cell_of_row _ _ _ _ _ _ HV.out.2]; rfl
  have z1 : V.cell? ⟨rb, 1, none⟩ = some (.string ⟨#[]⟩) := by rw [cell_of_row _ _ _ _ _ _ HV.out.2]; rfl
  have f0 := frozen_of_row V rb 0 _ _ HV.out.2
  have f1 := frozen_of_row V rb 1 _ _ HV.out.2
  clear HSE hb3
  go_wp2
  refine bodyPost_ret (v := .agg #[.int .u32 (s : Int), .string Q]) ?_ rfl ⟨rfl, (HV.out.1.setCell (by show _ ≤ rb; have := HH.out.2.2; omega) _).setCell (by show _ ≤ rb; have := HH.out.2.2; omega) _⟩
  exact res_sg (fn := Tryd.f30) (p := 4) (by rfl) _ _ rb _ (by rfl) (set2 HV.out.2 _ _) infoS2
/-- The blocks of a text. -/
def blk (t : ByteArray) (z i : Nat) : ByteArray := t.extract (i * z) (min (i * z + z) t.size)
def nBl (t : ByteArray) (z : Nat) : Nat := (t.size + z - 1) / z
def blocksL (t : ByteArray) (z : Nat) : List ByteArray := (List.range (nBl t z)).map (blk t z)
def blocksF (t : ByteArray) (z : Int) : List ByteArray × Int := if z < 1 ∨ 128 < z then ([], 9) else if 1024 < t.size then ([], 2) else (blocksL t z.toNat, 0)
theorem nbl_of {t : ByteArray} {z k : Nat} (h1 : t.size ≤ k * z) (h2 : k * z < t.size + z) : nBl t z = k := by
  unfold nBl
  refine Nat.div_eq_of_lt_le (by omega) ?_
  rw [Nat.succ_mul]
  omega
theorem range_next (f : Nat → ByteArray) (i : Nat) : (List.range (i + 1)).map f = (List.range i).map f ++ [f i] := by rw [List.range_succ, List.map_append]; rfl
/-- What Blocks leaves. -/
def BlTo (w : World) (r : List ByteArray × Int) (e : Ending) (w' : World) : Prop := ∃ (a : Option Addr) (n c : Nat), e = .returned (.tuple #[.slice a n c, .int .i64 r.2]) ∧ w'.ownsRow w.heap.size 9 1 (.slice a n c) n (stR r.1) ∧ Below w.heap.size w w'
theorem BlTo.tw {w w' : World} {r : List ByteArray × Int} {e : Ending} (h : BlTo w r e w') : ∃ (a : Option Addr) (n c : Nat), e = .returned (.tuple #[.slice a n c, .int .i64 r.2]) ∧ Tw (fun _ => True) w' a n c r.1 ∧ Below w.heap.size w w' := by
  obtain ⟨a, n, c, h1, h2, h3⟩ := h
  exact ⟨a, n, c, h1, Rw.own h2 (fun _ _ => trivial), h3⟩
set_option maxRecDepth 100000 in
set_option maxHeartbeats 1000000 in
theorem blocks_any (t : ByteArray) (x : Int) (w : World) (hx : t.size ≤ 9223372036854775807) : Calls Tryd.prog 20 #[.string t, .int .i64 x] w fun e w' => BlTo w (blocksF t x) e w' := by
  by_cases h1 : x < 1
  · have hF : blocksF t x = ([], 9) := by unfold blocksF; rw [if_pos (.inl h1)]
    rw [hF]
    go_enter Tryd.func20, Tryd.ntmps20
    go_wp2
    refine bodyPost_ret (v := .tuple #[.slice none 0 0, .int .i64 9]) ?_ rfl ⟨none, 0, 0, rfl, World.ownsRow_nil _ _ _ _, Below.refl _ _⟩
    simp [results, go_sem]
  · by_cases h2 : 128 < x
    · have hF : blocksF t x = ([], 9) := by unfold blocksF; rw [if_pos (.inr h2)]
      rw [hF]
      go_enter Tryd.func20, Tryd.ntmps20
      go_wp2
      refine bodyPost_ret (v := .tuple #[.slice none 0 0, .int .i64 9]) ?_ rfl ⟨none, 0, 0, rfl, World.ownsRow_nil _ _ _ _, Below.refl _ _⟩
      simp [results, go_sem]
    · by_cases h3 : 1024 < t.size
      · have hF : blocksF t x = ([], 2) := by unfold blocksF; rw [if_neg (by omega), if_pos h3]
        rw [hF]
        have h3' : (1024 : Int) < (t.size : Int) := by omega
        go_enter Tryd.func20, Tryd.ntmps20
        go_wp2
        refine bodyPost_ret (v := .tuple #[.slice none 0 0, .int .i64 2]) ?_ rfl ⟨none, 0, 0, rfl, World.ownsRow_nil _ _ _ _, Below.refl _ _⟩
        simp [results, go_sem]
      · have hF : blocksF t x = (blocksL t x.toNat, 0) := by unfold blocksF; rw [if_neg (by omega), if_neg h3]
        obtain ⟨z, hz⟩ : ∃ z : Nat, x = (z : Int) := ⟨x.toNat, by omega⟩
        subst hz
        rw [hF]
        have h3' : ¬ (1024 : Int) < (t.size : Int) := by omega
        have h1' : ¬ (z : Int) < 1 := by omega
        have h2' : ¬ (128 : Int) < (z : Int) := by omega
        obtain ⟨B, hB⟩ : ∃ B, w.heap.size = B := ⟨_, rfl⟩
        clear hF h1 h2
        go_enter Tryd.func20, Tryd.ntmps20
        go_wp2
        go_loopw [6, 7] (fun vl vp wr => ∃ (i p lc : Nat) (la : Option Addr), i * z = p ∧ i ≤ p ∧ p < t.size + z ∧ vp = .int .i64 p ∧ vl = .slice la i lc ∧ wr.ownsRow B 9 1 (.slice la i lc) i (stR ((List.range i).map (blk t z))) ∧ Below w.heap.size w wr) (fun _ vp _ => t.size - (intOf vp).toNat)
        case atStart => exact ⟨0, 0, 0, none, by omega, by omega, by omega, rfl, rfl, World.ownsRow_nil _ _ _ _, Below.refl _ _⟩
        case round =>
          obtain ⟨i, p, lc, la, hip, hile, hpl, rfl, rfl, hown, hbw⟩ := hrel
          by_cases hlt : p < t.size
          · have kk : (p : Int) < (t.size : Int) := by omega
            obtain ⟨q, hq⟩ : ∃ q, p + z = q := ⟨_, rfl⟩
            have kq : (p : Int) + (z : Int) = (q : Int) := by omega
            obtain ⟨m, hm⟩ : ∃ m, min q t.size = m := ⟨_, rfl⟩
            have km : min (q : Int) (t.size : Int) = (m : Int) := by omega
            have hm1 : (p : Int) ≤ (m : Int) := by omega
            have hm2 : (m : Int) ≤ (t.size : Int) := by omega
            obtain ⟨s, hs⟩ : ∃ s, t.extract p m = s := ⟨_, rfl⟩
            have HST : Hid ((List.range (i + 1)).map (blk t z) = (List.range i).map (blk t z) ++ [s]) := by
              show _ = _
              rw [range_next]
              unfold blk
              rw [hip, hq, hm, hs]
            obtain ⟨V4, hV4⟩ : ∃ V4, wr.alloc (.cells #[.string s] 9) = V4 := ⟨_, rfl⟩
            have hB4 : Below wr.heap.size wr V4 := by rw [← hV4]; exact (Below.refl _ wr).alloc (Nat.le_refl _) _
            have r4 : V4.heap[wr.heap.size]? = some (.cells #[.string s] 9 (0, 0)) := by rw [← hV4]; exact heap_alloc_new wr _
            have hBw : B ≤ wr.heap.size := by rw [← hB]; exact hbw.size
            have ho4 := own_keep hown (W' := V4) (fun k hk => hB4.block k (hown.lt k hk).2)
            obtain ⟨aA, cA, VA, hrA, hoA, hgA, _⟩ := addT_own V4 ho4 (txtRow r4) (by omega) (Nat.le_trans hBw hB4.size)
            have HE : Hid (VA.ownsRow B 9 1 (.slice aA (i + 1) cA) (i + 1) (stR ((List.range i).map (blk t z) ++ [s])) ∧ Below w.heap.size w VA) := by
              refine ⟨hoA, (hbw.trans (hB4.mono hbw.size)).grown hgA (Nat.le_trans hbw.size hB4.size) (fun k hk => ?_)⟩
              have := (ho4.lt k (by rw [ob_slice]; exact hk)).1
              omega
            have HQ : Hid ((i + 1) * z = q ∧ i + 1 ≤ q ∧ q < t.size + z ∧ t.size - q < t.size - p) := ⟨by rw [Nat.succ_mul, hip, hq], by omega, by omega, by omega⟩
            clear hown hbw hB4 r4 ho4 hoA hgA hBw hm hip hq
            go_wp2_with ((at_builtin; refine wpList_app V4 rfl _ _ _ _ rfl rfl rfl (hrA _) ?_))
            refine ⟨⟨i + 1, q, cA, aA, HQ.out.1, HQ.out.2.1, HQ.out.2.2.1, by go_num, by go_num, ?_, HE.out.2⟩, by simp [intOf]; have := HQ.out.2.2.2; omega⟩
            rw [HST.out]
            exact HE.out.1
          · have kk : ¬ (p : Int) < (t.size : Int) := by omega
            have HE : Hid (wr.ownsRow B 9 1 (.slice la i lc) i (stR (blocksL t z)) ∧ Below w.heap.size w wr) := ⟨by unfold blocksL; rw [nbl_of (k := i) (by omega) (by omega)]; exact hown, hbw⟩
            clear hown hbw hip
            go_wp2
            refine bodyPost_ret (v := .tuple #[.slice la i lc, .int .i64 0]) ?_ rfl ⟨la, i, lc, rfl, by rw [hB]; exact HE.out.1, HE.out.2⟩
            simp [results, go_sem]
end Go.Proofs.YtbhnmjjfammlkaaDoor
