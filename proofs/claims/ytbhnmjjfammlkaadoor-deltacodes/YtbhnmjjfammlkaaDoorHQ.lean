/- A walk over the statements' lives. Walks over the statements' last and the program's Cost; a basis' signatures. -/
import Derived.Test.YtbhnmjjfammlkaaDoorHK
import Derived.Test.YtbhnmjjfammlkaaDoorHB
namespace Go.Proofs.YtbhnmjjfammlkaaDoor
open Go.RowKit
def tAbcd : ByteArray := ⟨#[97, 98, 99, 100]⟩
def tCdxab : ByteArray := ⟨#[99, 100, 88, 97, 98]⟩
def tK : ByteArray := ⟨#[107]⟩
def livesP : List Pc := [⟨true, 1, ⟨#[]⟩⟩, ⟨false, 0, ⟨#[88]⟩⟩, ⟨true, 0, ⟨#[]⟩⟩]
theorem lives_blk : blocksF tAbcd 2 = ([⟨#[97, 98]⟩, ⟨#[99, 100]⟩], 0) := by decide +kernel
theorem fnd_two (A C s : Sg) : fndL [A, C] s = if A = s then some 0 else if C = s then some 1 else none := by
  unfold fndL
  rw [List.findIdx?_cons]
  by_cases h : A = s
  · simp [h]
  · simp [h, List.findIdx?_cons]
theorem sg_ne {k : ByteArray} {a b : List UInt8} (h : wsum a ≠ wsum b) : sgL k a ≠ sgL k b := fun e => h (congrArg Prod.fst e)
theorem lives_make : makeL tK [sgL tK [97, 98], sgL tK [99, 100]] 2 2 tCdxab = livesP := by
  have w1 : wsum [97, 98] ≠ wsum [99, 100] := by decide
  have w2 : wsum [97, 98] ≠ wsum [88, 97] := by decide
  have w3 : wsum [99, 100] ≠ wsum [88, 97] := by decide
  obtain ⟨nx, hnx⟩ : ∃ nx, nextP (sgL tK) [sgL tK [97, 98], sgL tK [99, 100]] 2 2 = nx := ⟨_, rfl⟩
  have n1 : nx [99, 100, 88, 97, 98] = some (1, 2) := by
    rw [← hnx]
    unfold nextP
    rw [if_pos (by decide), show List.take 2 [99, 100, 88, 97, 98] = [(99 : UInt8), 100] from rfl, fnd_two, if_neg (sg_ne w1), if_pos rfl]
    rfl
  have n2 : nx [88, 97, 98] = none := by
    rw [← hnx]
    unfold nextP
    rw [if_pos (by decide), show List.take 2 [88, 97, 98] = [(88 : UInt8), 97] from rfl, fnd_two, if_neg (sg_ne w2), if_neg (sg_ne w3)]
    rfl
  have n3 : nx [97, 98] = some (0, 2) := by
    rw [← hnx]
    unfold nextP
    rw [if_pos (by decide), show List.take 2 [97, 98] = [(97 : UInt8), 98] from rfl, fnd_two, if_pos rfl]
    rfl
  unfold makeL
  rw [hnx, show tCdxab.data.toList = [99, 100, 88, 97, 98] from rfl, makeP_some (by decide) n1 (by decide), show List.drop 2 [99, 100, 88, 97, 98] = [(88 : UInt8), 97, 98] from rfl, makeP_none n2, makeP_some (by decide) n3 (by decide), show List.drop 2 [97, 98] = ([] : List UInt8) from rfl, makeP_nil]
  decide +kernel
theorem pcRow3 {w : World} {b : Nat} {p q r : Pc} (h : w.heap[b]? = some (.cells #[.bool p.copy, .int .i64 p.n, .string p.data, .bool q.copy, .int .i64 q.n, .string q.data, .bool r.copy, .int .i64 r.n, .string r.data] 48 (0, 0))) : Hw (fun _ => True) w (some ⟨b, 0, none⟩) 3 3 [p, q, r] := by
  refine ⟨rfl, Nat.le_refl _, by unfold maxLen; omega, fun _ => ⟨b, 0, rfl, lt_of_some h, trivial, fun j u hu => ?_⟩⟩
  rw [Nat.zero_add, cell_of_row _ b _ _ _ _ h]
  simpa [pcR, pcC] using hu
set_option maxRecDepth 100000 in
set_option maxHeartbeats 2000000 in
theorem lives_any (w : World) (hL : Laid w) : Calls Tryd.prog 9 #[] w fun e w' => e = .returned (.bool true) ∧ Below w.heap.size w w' := by
  have HS := signs_any tK tAbcd 2 w (by decide) (by decide) hL
  rw [lives_blk] at HS
  have HS : Calls Tryd.prog 18 #[.string ⟨#[107]⟩, .string ⟨#[97, 98, 99, 100]⟩, .int .i64 2] w fun e w' => SgTo w [sgL tK [97, 98], sgL tK [99, 100]] 0 e w' := HS
  have HL : Hid (Laid w) := hL
  clear hL
  go_enter Tryd.func9, Tryd.ntmps9
  go_wp2_with fail
  refine HS.mono ?_
  rintro e V1 ⟨ga, gn, gc, rfl, hown, hb1⟩
  have hgw : Gw (fun _ => True) V1 ga gn gc [sgL tK [97, 98], sgL tK [99, 100]] := Rw.own hown (fun _ _ => trivial)
  have hgl : gn = 2 := hgw.len.symm
  subst hgl
  have HM := make_any hgw (fun s hs => by
    simp only [List.mem_cons, List.not_mem_nil, or_false] at hs
    rcases hs with rfl | rfl <;> exact wsum_lt _) tK tCdxab 2 2 (by omega) (by omega) (by omega) (by omega) (by omega) (by decide) (by decide) (HL.out.below hb1)
  rw [lives_make] at HM
  have HM : Calls Tryd.prog 10 #[.string ⟨#[107]⟩, .slice ga 2 gc, .int .i64 2, .int .i64 2, .string ⟨#[99, 100, 88, 97, 98]⟩] V1 fun e w' => MkTo V1 livesP 0 e w' := HM
  have H1 : Hid (Below w.heap.size w V1) := hb1
  clear HS hown hb1 hgw
  go_wp2_with fail
  refine HM.mono ?_
  rintro e V2 ⟨pa, pn, pc, rfl, hown, hb2⟩
  have hhw : Hw (fun _ => True) V2 pa pn pc livesP := Rw.own hown (fun _ _ => trivial)
  obtain ⟨V3, hV3⟩ : ∃ V3, V2.alloc (.cells #[.bool true, .int .i64 1, .string ⟨#[]⟩, .bool false, .int .i64 0, .string ⟨#[88]⟩, .bool true, .int .i64 0, .string ⟨#[]⟩] 48) = V3 := ⟨_, rfl⟩
  have r3 : V3.heap[V2.heap.size]? = some (.cells #[.bool true, .int .i64 1, .string ⟨#[]⟩, .bool false, .int .i64 0, .string ⟨#[88]⟩, .bool true, .int .i64 0, .string ⟨#[]⟩] 48 (0, 0)) := by rw [← hV3]; exact heap_alloc_new V2 _
  have hb3 : Below V2.heap.size V2 V3 := by rw [← hV3]; exact (Below.refl _ V2).alloc (Nat.le_refl _) _
  have HSM := samepc_any (hhw.below hb3) (pcRow3 (p := ⟨true, 1, ⟨#[]⟩⟩) (q := ⟨false, 0, ⟨#[88]⟩⟩) (r := ⟨true, 0, ⟨#[]⟩⟩) r3)
  have e : decide (livesP = [⟨true, 1, ⟨#[]⟩⟩, ⟨false, 0, ⟨#[88]⟩⟩, ⟨true, 0, ⟨#[]⟩⟩]) = true := decide_eq_true rfl
  rw [e] at HSM
  have hB2 : Below w.heap.size w V2 := H1.out.trans (hb2.mono H1.out.size)
  have H2 : Hid (Below w.heap.size w V3) := hB2.trans (hb3.mono hB2.size)
  clear HM hown hb2 hhw r3 hb3 e hB2
  go_wp2_with fail
  refine HSM.mono ?_
  rintro e V4 ⟨rfl, hb4⟩
  have H3 : Hid (Below w.heap.size w V4) := H2.out.trans (hb4.mono H2.out.size)
  clear HSM hb4
  go_wp2
  go_ret
  exact ⟨rfl, H3.out⟩
end Go.Proofs.YtbhnmjjfammlkaaDoor
namespace Go.Proofs.YtbhnmjjfammlkaaDoor
open Go.RowKit
set_option maxRecDepth 100000 in
set_option maxHeartbeats 1000000 in
theorem last_any (t : ByteArray) (z : Nat) (w : World) (hz1 : 1 ≤ z) (hz2 : z ≤ 128) (ht : t.size ≤ 1024) : Calls Tryd.prog 19 #[.string t, .int .i64 (z : Int)] w fun e w' => e = .returned (.int .i64 (lastL t.data.toList z : Int)) ∧ w' = w := by
  have hl : t.data.toList.length = t.size := Array.length_toList
  by_cases h0 : t.size = 0
  · have e : lastL t.data.toList z = 0 := by unfold lastL; rw [hl, if_pos h0]
    rw [e]
    have k0 : ((t.size : Int) == 0) = true := by simp [h0]
    clear e hl h0
    go_enter Tryd.func19, Tryd.ntmps19
    go_wp2
    go_ret
    exact ⟨rfl, rfl⟩
  · have e : lastL t.data.toList z = (t.size - 1) % z + 1 := by unfold lastL; rw [hl, if_neg h0]
    obtain ⟨r, hr⟩ : ∃ r, (t.size - 1) % z = r := ⟨_, rfl⟩
    have hrz : r < z := by rw [← hr]; exact Nat.mod_lt _ (by omega)
    rw [e, hr]
    obtain ⟨m, hm⟩ : ∃ m, t.size - 1 = m := ⟨_, rfl⟩
    have km : (t.size : Int) - 1 = (m : Int) := by omega
    have kt : Int.tmod (m : Int) (z : Int) = (r : Int) := by rw [← hr, hm]; exact Int.ofNat_tmod m z
    have kz : ((z : Int) == 0) = false := by simpa using (show ¬ (z : Int) = 0 by omega)
    have kz2 : ¬ (z : Int) = 0 := by omega
    have k0 : ((t.size : Int) == 0) = false := by simpa using (show ¬ (t.size : Int) = 0 by omega)
    have kz1 : ¬ (z : Int) = -1 := by omega
    have kr : (m : Int) % (z : Int) = (r : Int) := by rw [← hr, hm]; rfl
    clear e hl h0 hr hm
    go_enter Tryd.func19, Tryd.ntmps19
    go_wp2
    go_ret
    exact ⟨rfl, rfl⟩
theorem cost_all : ∀ {l : List Pc}, (∀ p ∈ l, p.data = ⟨#[]⟩) → costP l = 0
  | [], _ => rfl
  | p :: l, h => by
    have ih := cost_all (l := l) (fun q hq => h q (List.mem_cons_of_mem _ hq))
    have e : costP (p :: l) = p.data.size + costP l := rfl
    rw [e, ih, h p (List.mem_cons_self ..)]
    rfl
set_option maxRecDepth 100000 in
set_option maxHeartbeats 1000000 in
theorem cost_any {G : Nat → Prop} {w : World} {a : Option Addr} {n c : Nat} {l : List Pc} (h : Hw G w a n c l) (hc : costP l ≤ 1000000) (hn : n ≤ 100000) : Calls Tryd.prog 22 #[.slice a n c] w fun e w' => e = .returned (.int .i64 (costP l : Int)) ∧ Below w.heap.size w w' := by
  have hl := h.len
  have HA : Hid (∀ W, Below w.heap.size w W → Hw G W a n c l) := fun W hW => h.below hW
  clear h
  go_enter Tryd.func22, Tryd.ntmps22
  go_wp2
  go_loopw [3, 8] (fun vn vi wr => ∃ i s : Nat, i ≤ n ∧ vi = .int .i64 i ∧ vn = .int .i64 s ∧ s = costP (l.take i) ∧ Below w.heap.size w wr) (fun _ vi _ => n - (intOf vi).toNat)
  case atStart => exact ⟨0, 0, by omega, rfl, rfl, rfl, Below.refl _ _⟩
  case round =>
    obtain ⟨i, s, hi, rfl, rfl, hs, hbw⟩ := hrel
    have hsl : s ≤ 1000000 := by have := cost_le l i; omega
    by_cases hlt : i < n
    · have kk : (i : Int) < (n : Int) := by omega
      obtain ⟨ab, ao, rfl, _, hcl⟩ := (HA.out wr hbw).at (by omega)
      obtain ⟨⟨p1, p2, p3⟩, hp⟩ : ∃ p, l[i]? = some p := ⟨_, List.getElem?_eq_getElem (by omega)⟩
      obtain ⟨c1, c2, c3⟩ := hcl i _ hp
      have hcs := cost_snoc hp
      have hcl2 := cost_le l (i + 1)
      simp only at c1 c2 c3 hcs
      obtain ⟨pb, hpb⟩ : ∃ pb, wr.heap.size = pb := ⟨_, rfl⟩
      obtain ⟨V1, hV1, r1, hb1⟩ := box_pc (w := wr) p1 p2 p3
      rw [hpb] at r1
      have x2 : V1.cell? ⟨pb, 2, none⟩ = some (.string p3) := by rw [cell_of_row _ _ _ _ _ _ r1]; rfl
      obtain ⟨s1, hs1⟩ : ∃ s1, s + p3.size = s1 := ⟨_, rfl⟩
      have ks : (s : Int) + (p3.size : Int) = (s1 : Int) := by omega
      have h1s : s1 ≤ 1000000 := by omega
      have HE : Hid (s1 = costP (l.take (i + 1)) ∧ Below w.heap.size w V1) := ⟨by omega, hbw.trans (hb1.mono hbw.size)⟩
      clear hcl hp hcs hcl2 hbw hs hs1 r1 hb1
      go_wp2
      exact ⟨⟨i + 1, s1, by omega, by go_num, by go_num, HE.out⟩, by simp [intOf]; omega⟩
    · obtain rfl : i = n := by omega
      have kk : ¬ (i : Int) < (i : Int) := by omega
      rw [List.take_of_length_le (by omega)] at hs
      have HE : Hid (s = costP l ∧ Below w.heap.size w wr) := ⟨hs, hbw⟩
      clear hs hbw
      go_wp2
      go_ret
      exact ⟨by rw [← HE.out.1]; rfl, HE.out.2⟩
/-- A basis' blocks and signatures, as lists of bytes. -/
theorem blk_l (t : ByteArray) (z i : Nat) : (blk t z i).data.toList = blkL t.data.toList z i := by
  unfold blk blkL
  rw [ext_l]
  have hl : t.data.toList.length = t.size := Array.length_toList
  by_cases h : i * z + z ≤ t.size
  · rw [Nat.min_eq_left h, Nat.add_sub_cancel_left]
  · rw [Nat.min_eq_right (by omega), List.take_of_length_le (by rw [List.length_drop]; omega), List.take_of_length_le (by rw [List.length_drop]; omega)]
theorem nbl_cnt (t : ByteArray) (z : Nat) : nBl t z = cntL t.data.toList z := by unfold nBl cntL; rw [Array.length_toList]; rfl
theorem sigs_eq (k t : ByteArray) (z : Nat) : (blocksL t z).map (sgOf k) = sigsL (sgL k) t.data.toList z := by
  unfold blocksL sigsL
  rw [List.map_map, nbl_cnt]
  refine List.map_congr_left fun i _ => ?_
  show sgOf k (blk t z i) = _
  rw [← sgL_ba, blk_l]
theorem blocks_ok {t : ByteArray} {z : Nat} (hz1 : 1 ≤ z) (hz2 : z ≤ 128) (ht : t.size ≤ 1024) : blocksF t (z : Int) = (blocksL t z, 0) := by
  unfold blocksF
  rw [if_neg (by omega), if_neg (by omega), Int.toNat_natCast]
theorem cnt_le {b : List UInt8} {z : Nat} (hz : 1 ≤ z) : cntL b z ≤ b.length := by
  refine Nat.le_of_not_lt fun h => ?_
  have := (cnt_lt (b := b) (i := b.length) hz).1 h
  have h2 : b.length * 1 ≤ b.length * z := Nat.mul_le_mul_left _ hz
  omega
theorem last_cnt {b : List UInt8} {z : Nat} (hz : 1 ≤ z) : lastL b z = 0 ↔ cntL b z = 0 := by
  have h1 := cnt_lt (b := b) (s := z) (i := 0) hz
  by_cases h : b.length = 0
  · have : ¬ 0 < cntL b z := fun h2 => by have := h1.1 h2; omega
    unfold lastL
    rw [if_pos h]
    omega
  · have h3 := last_pos (s := z) h
    have : 0 < cntL b z := h1.2 (by omega)
    omega
theorem sigs_weak (k : ByteArray) (b : List UInt8) (z : Nat) : ∀ s ∈ sigsL (sgL k) b z, s.1 < 4294967296 := fun s hs => by
  obtain ⟨i, _, rfl⟩ := List.mem_map.1 hs
  exact wsum_lt _
/-- Signs and Make of a basis that is short. -/
theorem signs_short (k t : ByteArray) (z : Nat) (w : World) (hk : k.size ≤ 1000000) (hz1 : 1 ≤ z) (hz2 : z ≤ 128) (ht : t.size ≤ 1024) (hL : Laid w) : Calls Tryd.prog 18 #[.string k, .string t, .int .i64 (z : Int)] w fun e w' => ∃ (a : Option Addr) (n c : Nat), e = .returned (.tuple #[.slice a n c, .int .i64 0]) ∧ Gw (fun _ => True) w' a n c (sigsL (sgL k) t.data.toList z) ∧ n = cntL t.data.toList z ∧ Below w.heap.size w w' := by
  have HS := signs_any k t (z : Int) w hk (by omega) hL
  rw [blocks_ok hz1 hz2 ht] at HS
  simp only at HS
  rw [sigs_eq] at HS
  refine HS.mono ?_
  rintro e V1 ⟨ga, gn, gc, rfl, hown, hb1⟩
  have hgw : Gw (fun _ => True) V1 ga gn gc (sigsL (sgL k) t.data.toList z) := Rw.own hown (fun _ _ => trivial)
  have := hgw.len
  rw [sigs_len] at this
  exact ⟨ga, gn, gc, rfl, hgw, this.symm, hb1⟩
end Go.Proofs.YtbhnmjjfammlkaaDoor
