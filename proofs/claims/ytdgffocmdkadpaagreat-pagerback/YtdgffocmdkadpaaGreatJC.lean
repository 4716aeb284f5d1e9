/- A walk over a Journal's check. -/
import Derived.Test.YtdgffocmdkadpaaGreatJV
import Derived.Test.YtdgffocmdkadpaaGreatPJ
import Derived.Laws.BitsAllLaws
import Derived.Laws.ShiftsVarLaws
namespace Go.Proofs.YtdgffocmdkadpaaGreat
open Go.RowKit Go.Shelf
/-- A change as it comes: its page is any number. -/
abbrev Chi := Int × ByteArray
def Ci (w : World) (a : Option Addr) (len cap : Nat) (l : List Chi) : Prop :=
  l.length = len ∧ len ≤ cap ∧ cap ≤ 9223372036854775807 ∧ (0 < len → ∃ b o, a = some ⟨b, o, none⟩ ∧ b < w.heap.size ∧ ∀ i (h : i < l.length), w.cell? ⟨b, o + i * 2, none⟩ = some (.int .i64 l[i].1) ∧ w.cell? ⟨b, o + i * 2 + 1, none⟩ = some (.string l[i].2))
theorem Ci.keep {w w' : World} {a : Option Addr} {len cap : Nat} {l : List Chi} (h : Ci w a len cap l) (hsz : w.heap.size ≤ w'.heap.size) (hk : ∀ x, ob a = some x → x < w.heap.size → w'.heap[x]? = w.heap[x]?) : Ci w' a len cap l := by
  obtain ⟨h1, h2, h3, h4⟩ := h
  refine ⟨h1, h2, h3, fun h0 => ?_⟩
  obtain ⟨b, o, rfl, hb, hc⟩ := h4 h0
  refine ⟨b, o, rfl, by omega, fun i hi => ?_⟩
  have e := hk b rfl hb
  have k : ∀ z, w'.cell? ⟨b, z, none⟩ = w.cell? ⟨b, z, none⟩ := fun z => World.cell?_of_block (w := w) e
  rw [k, k]
  exact hc i hi
theorem Ci.below {w w' : World} {a : Option Addr} {len cap : Nat} {l : List Chi} (h : Ci w a len cap l) (hb : Below w.heap.size w w') : Ci w' a len cap l := h.keep hb.size fun x _ hx => hb.block x hx
def natC (c : Chi) : Chg := (c.1.toNat, c.2)
theorem Ci.cs {w : World} {a : Option Addr} {len cap : Nat} {l : List Chi} (h : Ci w a len cap l) (hp : ∀ c ∈ l, 0 ≤ c.1) : Cs w a len cap (l.map natC) := by
  obtain ⟨h1, h2, h3, h4⟩ := h
  refine ⟨by simpa using h1, h2, h3, fun h0 => ?_⟩
  obtain ⟨b, o, rfl, hb, hc⟩ := h4 h0
  refine ⟨b, o, rfl, hb, fun i hi => ?_⟩
  have hi' : i < l.length := by simpa using hi
  obtain ⟨c1, c2⟩ := hc i hi'
  have := hp l[i] (List.getElem_mem hi')
  rw [List.getElem_map]
  refine ⟨?_, c2⟩
  rw [c1]
  show _ = some (Value.int .i64 ((l[i].1.toNat : Nat) : Int))
  rw [Int.toNat_of_nonneg this]
/-- Why changes may not be, or 0. -/
def chk (n : Nat) (l : List Chi) : Nat := if (∀ c ∈ l, 0 ≤ c.1 ∧ c.1 < (n : Int)) then (if (l.map Prod.fst).Nodup then (if (∀ c ∈ l, c.2.size = 1024) then 0 else 1) else 7) else 9
def pagesL (l : List Chi) : List Nat := l.map fun c => c.1.toNat
def chkS (n : Nat) (l : List Chi) : ByteArray := if chk n l = 0 then markOf (pagesL l) else ⟨#[]⟩
theorem chk_range {n : Nat} {l : List Chi} {c : Chi} (hc : c ∈ l) (h : ¬ (0 ≤ c.1 ∧ c.1 < (n : Int))) : chk n l = 9 := by
  unfold chk
  rw [if_neg (fun e => h (e c hc))]
theorem chk_twice {n : Nat} {l : List Chi} (h1 : ∀ c ∈ l, 0 ≤ c.1 ∧ c.1 < (n : Int)) (h : ¬ (l.map Prod.fst).Nodup) : chk n l = 7 := by
  unfold chk
  rw [if_pos h1, if_neg h]
theorem chk_size {n : Nat} {l : List Chi} (h1 : ∀ c ∈ l, 0 ≤ c.1 ∧ c.1 < (n : Int)) (h2 : (l.map Prod.fst).Nodup) {c : Chi} (hc : c ∈ l) (h : ¬ c.2.size = 1024) : chk n l = 1 := by
  unfold chk
  rw [if_pos h1, if_pos h2, if_neg (fun e => h (e c hc))]
theorem chk_ok {n : Nat} {l : List Chi} (h1 : ∀ c ∈ l, 0 ≤ c.1 ∧ c.1 < (n : Int)) (h2 : (l.map Prod.fst).Nodup) (h3 : ∀ c ∈ l, c.2.size = 1024) : chk n l = 0 := by
  unfold chk
  rw [if_pos h1, if_pos h2, if_pos h3]
theorem chk_zero {n : Nat} {l : List Chi} (h : chk n l = 0) : (∀ c ∈ l, 0 ≤ c.1 ∧ c.1 < (n : Int)) ∧ (l.map Prod.fst).Nodup ∧ ∀ c ∈ l, c.2.size = 1024 := by
  unfold chk at h
  split at h
  · split at h
    · split at h
      · exact ⟨by assumption, by assumption, by assumption⟩
      · omega
    · omega
  · omega
theorem chkS_bad {n : Nat} {l : List Chi} {k : Nat} (h : chk n l = k) (hk : ¬ k = 0) : chkS n l = ⟨#[]⟩ := by
  unfold chkS
  rw [if_neg (by rw [h]; exact hk)]
theorem take_all {α : Type} {P : α → Prop} {l : List α} {i : Nat} (hi : i < l.length) (h : ∀ c ∈ l.take i, P c) (hc : P l[i]) : ∀ c ∈ l.take (i + 1), P c := by
  intro c hm
  rw [List.take_succ_eq_append_getElem hi, List.mem_append, List.mem_singleton] at hm
  rcases hm with hm | rfl
  · exact h c hm
  · exact hc
/-- The cells of a row of bytes. -/
def u8s (L : List UInt8) : Array Value := (L.map fun u => Value.int .u8 (u.toNat : Int)).toArray
theorem u8s_get (L : List UInt8) (i : Nat) (h : i < L.length) : (u8s L)[i]? = some (.int .u8 ((L.getD i 0).toNat : Int)) := by
  simp [u8s, List.getD, h]
theorem u8s_set (L : List UInt8) (i : Nat) (u : UInt8) : (u8s L).setIfInBounds i (.int .u8 (u.toNat : Int)) = u8s (L.set i u) := by
  simp [u8s, List.map_set]
theorem u8s_made (n : Nat) : madeCells #[Value.int .u8 0] n = u8s (List.replicate n 0) := by
  apply Array.ext
  · simp [madeCells, u8s]
  · intro i h1 h2
    simp [madeCells, u8s, Nat.mod_one]
theorem markB_nat (L : List UInt8) (p y z : Nat) (hy : (L.getD (p / 8) 0).toNat = y) (hz : y ||| 2 ^ (p % 8) = z) : markB L p = L.set (p / 8) (UInt8.ofNat z) ∧ (UInt8.ofNat z).toNat = z := by
  have h8 : 2 ^ (p % 8) < 2 ^ 8 := Nat.pow_lt_pow_right (by omega) (Nat.mod_lt _ (by omega))
  have hy8 : y < 2 ^ 8 := by rw [← hy]; exact UInt8.toNat_lt _
  have hz8 : z < 2 ^ 8 := by rw [← hz]; exact Nat.or_lt_two_pow hy8 h8
  have e : (UInt8.ofNat z).toNat = z := by rw [UInt8.toNat_ofNat']; exact Nat.mod_eq_of_lt hz8
  refine ⟨?_, e⟩
  unfold markB
  congr 1
  apply UInt8.toNat_inj.1
  rw [e, UInt8.toNat_or, hy, unit_nat _ (Nat.mod_lt _ (by omega)), hz]
theorem and_bit (y r : Nat) : (y &&& 2 ^ r = 0) ↔ y.testBit r = false := by
  constructor
  · intro h
    have e : (y &&& 2 ^ r).testBit r = false := by rw [h]; exact Nat.zero_testBit r
    rw [Nat.testBit_and, Nat.testBit_two_pow_self, Bool.and_true] at e
    exact e
  · intro h
    apply Nat.eq_of_testBit_eq
    intro i
    rw [Nat.testBit_and, Nat.testBit_two_pow, Nat.zero_testBit]
    by_cases e : r = i
    · rw [← e, h]; rfl
    · simp [e]
set_option maxRecDepth 100000 in
set_option maxHeartbeats 2000000 in
theorem check_any {w : World} {jb g n : Nat} (hj : Jat w jb g n) (hn : n ≤ 128) (a : Option Addr) (len cap : Nat) (l : List Chi) (hl : Ci w a len cap l) (hlen : len ≤ 1000) :
    Calls Tryz.prog 40 #[.pointer (some ⟨jb, 0, none⟩), .slice a len cap] w fun e w' => e = .returned (.tuple #[.string (chkS n l), .int .i64 (chk n l : Int)]) ∧ Below w.heap.size w w' := by
  have hll := hl.1
  have HJ : Hid (Jat w jb g n) := hj
  have HL : Hid (Ci w a len cap l) := hl
  clear hj hl
  go_enter Tryz.func40, Tryz.ntmps40
  go_wp2
  go_loopw [16] (fun v wr => ∃ i : Nat, i ≤ len ∧ v = .int .i64 i ∧ (∀ c ∈ l.take i, 0 ≤ c.1 ∧ c.1 < (n : Int)) ∧ Below w.heap.size w wr) (fun v _ => len - (intOf v).toNat)
  case atStart => exact ⟨0, by omega, rfl, fun c hc => by simp at hc, Below.refl _ _⟩
  case round =>
    obtain ⟨i, hi, rfl, hall, hbel⟩ := hrel
    have HA : Hid (∀ c ∈ l.take i, 0 ≤ c.1 ∧ c.1 < (n : Int)) := hall
    have HB : Hid (Below w.heap.size w wr) := hbel
    clear hall
    by_cases hlt : i < len
    · have kk : (i : Int) < (len : Int) := by omega
      have hil : i < l.length := by omega
      obtain ⟨b, o, rfl, hb, hcell⟩ := (HL.out.below hbel).2.2.2 (by omega)
      obtain ⟨c1, c2⟩ := hcell i hil
      have hmem : l[i] ∈ l := List.getElem_mem hil
      obtain ⟨⟨p, s⟩, hc⟩ : ∃ c, l[i] = c := ⟨_, rfl⟩
      rw [hc] at c1 c2 hmem
      simp only at c1 c2
      obtain ⟨W1, hW1⟩ : ∃ W1, (wr.alloc (.cells #[.int .i64 p, .string s] 32)) = W1 := ⟨_, rfl⟩
      obtain ⟨B, hB⟩ : ∃ B, wr.heap.size = B := ⟨_, rfl⟩
      have hr1 : W1.heap[B]? = some (.cells #[.int .i64 p, .string s] 32 (0, 0)) := by rw [← hW1, ← hB]; exact heap_alloc_new wr _
      have d1 : W1.cell? ⟨B, 0, none⟩ = some (.int .i64 p) := by rw [cell_of_row W1 B _ _ _ _ hr1]; rfl
      have hbel1 : Below w.heap.size w W1 := by rw [← hW1]; exact hbel.alloc hbel.size _
      have HH := has_any (HJ.out.below hbel1) p
      have HB1 : Hid (Below w.heap.size w W1) := hbel1
      clear hbel hcell hr1 hbel1
      by_cases hp : 0 ≤ p ∧ p < (n : Int)
      · rw [decide_eq_true hp] at HH
        have HN : Hid (∀ c ∈ l.take (i + 1), 0 ≤ c.1 ∧ c.1 < (n : Int)) := take_all hil HA.out (by rw [hc]; exact hp)
        clear hp HA HB
        go_wp2_with fail
        refine HH.mono ?_
        rintro e V1 ⟨rfl, hV⟩
        subst V1
        clear HH
        go_wp2
        exact ⟨⟨i + 1, by omega, by go_num, HN.out, HB1.out⟩, by simp [intOf]; omega⟩
      · rw [decide_eq_false hp] at HH
        have HE : Hid (chk n l = 9) := chk_range hmem hp
        clear hp HA HB
        go_wp2_with fail
        refine HH.mono ?_
        rintro e V1 ⟨rfl, hV⟩
        subst V1
        clear HH
        go_wp2
        go_ret2
        refine ⟨?_, HB1.out⟩
        rw [HE.out, chkS_bad HE.out (by omega)]
        rfl
    · obtain rfl : i = len := by omega
      have kk : ¬ (i : Int) < (i : Int) := by omega
      have HALL : Hid (∀ c ∈ l, 0 ≤ c.1 ∧ c.1 < (n : Int)) := by
        have := HA.out
        rwa [List.take_of_length_le (by omega)] at this
      have hmk : (Instr.makeSlice 22 (.int .i64 256) (.int .i64 256)).run Tryz.prog wr = .ok (.slice (some ⟨wr.heap.size, 0, none⟩) 256 256) (wr.alloc (.cells (u8s (markBs [])) 5)) := by
        have := run_make (P := Tryz.prog) wr 22 5 _ (.int .u8 0) Tryz.underlying22 rfl rfl .i64 .i64 256 256 (by omega) (by omega) (by show (1 : Int) * _ ≤ _; omega) (by omega)
        rw [this, show (256 : Int).toNat = 256 by omega, show u8s (markBs []) = _ from (u8s_made 256).symm, show Tryz.prog.types[5].size = 1 from rfl, Nat.mul_one]
        rfl
      obtain ⟨mb, hmb⟩ : ∃ mb, wr.heap.size = mb := ⟨_, rfl⟩
      obtain ⟨W1, hW1⟩ : ∃ W1, wr.alloc (.cells (u8s (markBs [])) 5) = W1 := ⟨_, rfl⟩
      have HI2 : Hid (W1.heap[mb]? = some (.cells (u8s (markBs (pagesL (l.take 0)))) 5 (0, 0)) ∧ Below w.heap.size w W1) := by
        rw [← hW1, ← hmb]
        exact ⟨heap_alloc_new wr _, HB.out.alloc HB.out.size _⟩
      have hmbw : w.heap.size ≤ mb := by rw [← hmb]; exact HB.out.size
      rw [hW1, hmb] at hmk
      clear HA hbel HB
      go_wp2
      go_loopw [29] (fun v wr => ∃ i2 : Nat, i2 ≤ i ∧ v = .int .i64 i2 ∧ (pagesL (l.take i2)).Nodup ∧ wr.heap[mb]? = some (.cells (u8s (markBs (pagesL (l.take i2)))) 5 (0, 0)) ∧ Below w.heap.size w wr) (fun v _ => i - (intOf v).toNat)
      case atStart => exact ⟨0, by omega, rfl, by simp [pagesL], HI2.out⟩
      case round =>
        clear HI2 hmk
        obtain ⟨k, hk, rfl, hnd, hmark, hbel⟩ := hrel
        have HND : Hid (pagesL (l.take k)).Nodup := hnd
        have HMK : Hid (wr.heap[mb]? = some (.cells (u8s (markBs (pagesL (l.take k)))) 5 (0, 0))) := hmark
        have HB : Hid (Below w.heap.size w wr) := hbel
        clear hnd
        by_cases hlt : k < i
        · have kk : (k : Int) < (i : Int) := by omega
          have hil : k < l.length := by omega
          obtain ⟨b, o, rfl, hb, hcell⟩ := (HL.out.below hbel).2.2.2 (by omega)
          obtain ⟨c1, c2⟩ := hcell k hil
          have hmem : l[k] ∈ l := List.getElem_mem hil
          obtain ⟨⟨p, s⟩, hc⟩ : ∃ c, l[k] = c := ⟨_, rfl⟩
          rw [hc] at c1 c2 hmem
          simp only at c1 c2
          obtain ⟨hp0, hp1⟩ := HALL.out _ hmem
          simp only at hp0 hp1
          obtain ⟨P, rfl⟩ := Int.eq_ofNat_of_zero_le hp0
          have hP : P < 128 := by omega
          obtain ⟨W1, hW1⟩ : ∃ W1, (wr.alloc (.cells #[.int .i64 (P : Int), .string s] 32)) = W1 := ⟨_, rfl⟩
          obtain ⟨B, hB⟩ : ∃ B, wr.heap.size = B := ⟨_, rfl⟩
          have hr1 : W1.heap[B]? = some (.cells #[.int .i64 (P : Int), .string s] 32 (0, 0)) := by rw [← hW1, ← hB]; exact heap_alloc_new wr _
          have d1 : W1.cell? ⟨B, 0, none⟩ = some (.int .i64 (P : Int)) := by rw [cell_of_row W1 B _ _ _ _ hr1]; rfl
          have hm1 : W1.heap[mb]? = some (.cells (u8s (markBs (pagesL (l.take k)))) 5 (0, 0)) := by rw [← hW1, Below.heap_alloc _ _ _ (lt_of_some hmark)]; exact hmark
          obtain ⟨L, hL⟩ : ∃ L, markBs (pagesL (l.take k)) = L := ⟨_, rfl⟩
          have hLl : L.length = 256 := by rw [← hL]; exact markBs_len _
          obtain ⟨y, hy⟩ : ∃ y, (L.getD (P / 8) 0).toNat = y := ⟨_, rfl⟩
          have hy8 : y < 256 := by rw [← hy]; exact UInt8.toNat_lt _
          rw [hL] at hm1
          have cm : W1.cell? ⟨mb, P / 8, none⟩ = some (.int .u8 (y : Int)) := by rw [cell_of_row W1 mb _ _ _ _ hm1, u8s_get L _ (by omega), hy]
          obtain ⟨u, hu⟩ : ∃ u, 2 ^ (P % 8) = u := ⟨_, rfl⟩
          have hu8 : u < 256 := by
            have : 2 ^ (P % 8) < 2 ^ 8 := Nat.pow_lt_pow_right (by omega) (Nat.mod_lt _ (by omega))
            omega
          have kb : (2 : Int) ^ (P % 8) % 256 = (u : Int) := by
            have e : ((2 ^ (P % 8) : Nat) : Int) = (2 : Int) ^ (P % 8) := by simp
            rw [← e, hu]
            omega
          have hpm : pagesL (l.take (k + 1)) = pagesL (l.take k) ++ [P] := by
            unfold pagesL
            rw [List.take_succ_eq_append_getElem hil, List.map_append, hc]
            simp
          have htl : tellsB L P = decide (P ∈ pagesL (l.take k)) := by
            have := tells_mark (pagesL (l.take k)) (fun q hq => by
              unfold pagesL at hq
              obtain ⟨c, hcm, rfl⟩ := List.mem_map.1 hq
              have := HALL.out c (List.mem_of_mem_take hcm)
              omega) P
            rw [← hL]
            exact this
          have hya := and_bit y (P % 8)
          rw [hu] at hya
          have htb : tellsB L P = y.testBit (P % 8) := by unfold tellsB; rw [hy]
          obtain ⟨t, ht⟩ : ∃ t : Nat, y &&& u = t := ⟨_, rfl⟩
          have hand : bits BinOp.and IntKind.u8 (y : Int) (u : Int) = (t : Int) := by rw [← ht]; exact u8_and_nat y u hy8 hu8
          have hb1 : Below w.heap.size w W1 := by rw [← hW1]; exact hbel.alloc hbel.size _
          by_cases htw : P ∈ pagesL (l.take k)
          · have ht0 : ¬ (t : Int) = 0 := by
              intro e
              have : t = 0 := by omega
              rw [htb, decide_eq_true htw] at htl
              rw [← ht] at this
              rw [hya.1 this] at htl
              cases htl
            have HE : Hid (chk n l = 7) := chk_twice HALL.out (fun hnd => by
              have h1 : ((l.take (k + 1)).map Prod.fst).Nodup := by
                rw [List.map_take]
                exact hnd.sublist (List.take_sublist _ _)
              rw [List.take_succ_eq_append_getElem hil, List.map_append, List.nodup_append, hc] at h1
              obtain ⟨c, hcm, hcP⟩ := List.mem_map.1 htw
              have hc0 := HALL.out c (List.mem_of_mem_take hcm)
              exact h1.2.2 c.1 (List.mem_map_of_mem hcm) (P : Int) (by simp) (by omega))
            have HB1 : Hid (Below w.heap.size w W1) := hb1
            clear hya htl htb hpm hmark hbel HND HMK HB hr1 hm1 hcell hb1
            go_wp2
            go_ret2
            refine ⟨?_, HB1.out⟩
            rw [HE.out, chkS_bad HE.out (by omega)]
            rfl
          · have ht0 : (t : Int) = 0 := by
              rw [htb, decide_eq_false htw] at htl
              have := hya.2 htl
              omega
            obtain ⟨z, hz⟩ : ∃ z : Nat, y ||| u = z := ⟨_, rfl⟩
            have hor : bits BinOp.or IntKind.u8 (y : Int) (u : Int) = (z : Int) := by rw [← hz]; exact u8_or_nat y u hy8 hu8
            obtain ⟨hmB, hzn⟩ := markB_nat L P y z hy (by rw [hu]; exact hz)
            have fm := frozen_of_row W1 mb (P / 8) _ _ hm1
            have HN : Hid ((pagesL (l.take (k + 1))).Nodup ∧ (W1.setCell ⟨mb, P / 8, none⟩ (.int .u8 (z : Int))).heap[mb]? = some (.cells (u8s (markBs (pagesL (l.take (k + 1))))) 5 (0, 0)) ∧ Below w.heap.size w (W1.setCell ⟨mb, P / 8, none⟩ (.int .u8 (z : Int)))) := by
              refine ⟨?_, ?_, hb1.setCell hmbw _⟩
              · rw [hpm, List.nodup_append]
                refine ⟨HND.out, by simp, fun x hx y hy e => ?_⟩
                simp only [List.mem_singleton] at hy
                exact htw (by rw [← hy, ← e]; exact hx)
              · rw [hpm, markBs_snoc, hL, hmB, heap_setCell_same W1 mb (P / 8) _ _ _ hm1, ← u8s_set, hzn]
            clear hya htl htb hpm hmark hbel HND HMK HB hr1 hm1 hcell hb1 hmB hzn
            go_wp2
            exact ⟨⟨k + 1, by omega, by go_num, HN.out⟩, by simp [intOf]; omega⟩
        · obtain rfl : k = i := by omega
          have kk : ¬ (k : Int) < (k : Int) := by omega
          have HND2 : Hid (l.map Prod.fst).Nodup := by
            have h1 := HND.out
            rw [List.take_of_length_le (by omega)] at h1
            unfold pagesL at h1
            refine List.pairwise_map.2 (List.Pairwise.imp_of_mem (fun {a b} ha hb hab e => hab (by rw [e])) (List.pairwise_map.1 h1))
          have HMK2 : Hid (wr.heap[mb]? = some (.cells (u8s (markBs (pagesL l))) 5 (0, 0))) := by
            have h1 := HMK.out
            rwa [List.take_of_length_le (by omega)] at h1
          clear HND HMK hmark
          go_wp2
          go_loopw [58] (fun v wr => ∃ i2 : Nat, i2 ≤ k ∧ v = .int .i64 i2 ∧ (∀ c ∈ l.take i2, c.2.size = 1024) ∧ wr.heap[mb]? = some (.cells (u8s (markBs (pagesL l))) 5 (0, 0)) ∧ Below w.heap.size w wr) (fun v _ => k - (intOf v).toNat)
          case atStart => exact ⟨0, by omega, rfl, fun c hc => by simp at hc, HMK2.out, HB.out⟩
          case round =>
            clear HMK2 HB hbel
            obtain ⟨q, hq, rfl, hall, hmark, hbel⟩ := hrel
            have HA : Hid (∀ c ∈ l.take q, c.2.size = 1024) := hall
            clear hall
            by_cases hlt : q < k
            · have kk : (q : Int) < (k : Int) := by omega
              have hil : q < l.length := by omega
              obtain ⟨b, o, rfl, hb, hcell⟩ := (HL.out.below hbel).2.2.2 (by omega)
              obtain ⟨c1, c2⟩ := hcell q hil
              have hmem : l[q] ∈ l := List.getElem_mem hil
              obtain ⟨⟨p, s⟩, hc⟩ : ∃ c, l[q] = c := ⟨_, rfl⟩
              rw [hc] at c1 c2 hmem
              simp only at c1 c2
              obtain ⟨W1, hW1⟩ : ∃ W1, (wr.alloc (.cells #[.int .i64 p, .string s] 32)) = W1 := ⟨_, rfl⟩
              obtain ⟨B, hB⟩ : ∃ B, wr.heap.size = B := ⟨_, rfl⟩
              have hr1 : W1.heap[B]? = some (.cells #[.int .i64 p, .string s] 32 (0, 0)) := by rw [← hW1, ← hB]; exact heap_alloc_new wr _
              have d1 : W1.cell? ⟨B, 1, none⟩ = some (.string s) := by rw [cell_of_row W1 B _ _ _ _ hr1]; rfl
              have HN : Hid (W1.heap[mb]? = some (.cells (u8s (markBs (pagesL l))) 5 (0, 0)) ∧ Below w.heap.size w W1) := by
                rw [← hW1]
                exact ⟨by rw [Below.heap_alloc _ _ _ (lt_of_some hmark)]; exact hmark, hbel.alloc hbel.size _⟩
              clear hmark hbel hcell hr1
              by_cases hs : s.size = 1024
              · have HA2 : Hid (∀ c ∈ l.take (q + 1), c.2.size = 1024) := take_all hil HA.out (by rw [hc]; exact hs)
                have ks : (s.size : Int) = 1024 := by omega
                clear HA
                go_wp2
                exact ⟨⟨q + 1, by omega, by go_num, HA2.out, HN.out⟩, by simp [intOf]; omega⟩
              · have HE : Hid (chk n l = 1) := chk_size HALL.out HND2.out hmem hs
                have ks : ¬ (s.size : Int) = 1024 := by omega
                clear HA hs
                go_wp2
                go_ret2
                refine ⟨?_, HN.out.2⟩
                rw [HE.out, chkS_bad HE.out (by omega)]
                rfl
            · obtain rfl : q = k := by omega
              have kk : ¬ (q : Int) < (q : Int) := by omega
              have HE : Hid (chk n l = 0) := chk_ok HALL.out HND2.out (by
                have h1 := HA.out
                rwa [List.take_of_length_le (by omega)] at h1)
              have hcv := conv_row wr mb 256 (markBs (pagesL l)) (markBs_len _) (fun j hj => by
                rw [cell_of_row wr mb _ _ _ _ hmark, Nat.zero_add]
                exact u8s_get _ j (by rw [markBs_len]; exact hj))
              have HS : Hid (strOf (markBs (pagesL l)) = chkS n l) := by
                unfold chkS
                rw [if_pos HE.out]
                rfl
              obtain ⟨T, hT⟩ : ∃ T, strOf (markBs (pagesL l)) = T := ⟨_, rfl⟩
              rw [hT] at hcv HS
              have HB : Hid (Below w.heap.size w wr) := hbel
              clear hT hmark hbel HA
              go_wp2
              go_ret2
              refine ⟨?_, HB.out⟩
              rw [HE.out, ← HS.out]
              rfl
end Go.Proofs.YtdgffocmdkadpaaGreat
