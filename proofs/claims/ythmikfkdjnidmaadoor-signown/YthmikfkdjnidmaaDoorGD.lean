/- Walks over One, Blocks, Same, the program's and the document's. -/
import Derived.Test.YthmikfkdjnidmaaDoorGC
import Derived.Test.YthmikfkdjnidmaaDoorGA
import Derived.Test.YthmikfkdjnidmaaDoorCD
import Derived.BigQuiet
namespace Go.Proofs.YthmikfkdjnidmaaDoor
open Go.RowKit
theorem below_drewN {B : Nat} {a w : World} (h : Below B a w) : ∀ n : Nat, Below B a (w.drewN n)
  | 0 => h
  | n + 1 => (below_drewN h n).drew
/-- The strong part of a block's signature. -/
def stg (k b : ByteArray) : ByteArray := (strOf (sealL k.data.toList b.data.toList)).extract 0 16
theorem stg_size (k b : ByteArray) : (stg k b).size = 16 := by
  unfold stg
  rw [ByteArray.size_extract, strOf_size, sealL_len]
  rfl
def sgOf (k b : ByteArray) : Sg := (wsum b.data.toList, stg k b)
set_option maxRecDepth 100000 in
set_option maxHeartbeats 1000000 in
theorem one_any (k b : ByteArray) (w : World) (hk : k.size ≤ 1000000) (hb : b.size ≤ 1000000) (hL : Laid w) :
    Calls Tryd.prog 10 #[.string k, .string b] w fun e w' => e = .returned (.agg #[.int .u32 ((sgOf k b).1 : Int), .string (sgOf k b).2]) ∧ Below w.heap.size w w' := by
  obtain ⟨rb, hrb⟩ : ∃ rb, w.heap.size = rb := ⟨_, rfl⟩
  obtain ⟨W1, hW1⟩ : ∃ W1, w.alloc (.cells #[.int .u32 0, .string ⟨#[]⟩] 25) = W1 := ⟨_, rfl⟩
  have r1 : W1.heap[rb]? = some (.cells #[.int .u32 0, .string ⟨#[]⟩] 25 (0, 0)) := by rw [← hW1, ← hrb]; exact heap_alloc_new w _
  have hb1 : Below w.heap.size w W1 := by rw [← hW1]; exact (Below.refl _ w).alloc (Nat.le_refl _) _
  obtain ⟨cap, W2, hcv, hc1, hc2, hb2, hs2, hcl⟩ := bytes_of W1 b (by omega)
  have hbs : BsI W2 (some ⟨W1.heap.size, 0, none⟩) b.size cap b.data.toList := ⟨by rw [Array.length_toList]; rfl, hc1, hc2, fun _ => ⟨W1.heap.size, 0, rfl, hs2, fun i hi => by rw [Nat.zero_add]; exact hcl i hi⟩⟩
  have HS := rollsum_any _ _ _ _ W2 hbs
  have hbw2 : Below w.heap.size w W2 := hb1.trans (hb2.mono hb1.size)
  obtain ⟨O, hO⟩ : ∃ O, strOf (sealL k.data.toList b.data.toList) = O := ⟨_, rfl⟩
  have hOs : O.size = 32 := by rw [← hO, strOf_size, sealL_len]
  have HSE : Calls Tryd.prog 23 #[.string k, .string b] W2 fun e w' => e = .returned (.string O) ∧ Below W2.heap.size W2 w' := by rw [← hO]; exact seal_any k b W2 (by omega) (by omega) (hL.below hbw2)
  obtain ⟨s, hs⟩ : ∃ s, wsum b.data.toList = s := ⟨_, rfl⟩
  obtain ⟨Q, hQ⟩ : ∃ Q, O.extract 0 16 = Q := ⟨_, rfl⟩
  have e : sgOf k b = (s, Q) := by unfold sgOf stg; rw [hs, hO, hQ]
  rw [e]
  rw [hs] at HS
  have HH : Hid (Below w.heap.size w W2 ∧ W2.heap[rb]? = some (.cells #[.int .u32 0, .string ⟨#[]⟩] 25 (0, 0)) ∧ w.heap.size = rb) := ⟨hbw2, (hb2.block rb (lt_of_some r1)).trans r1, hrb⟩
  have k16 : (16 : Int) ≤ (O.size : Int) := by omega
  clear r1 hb1 hc1 hc2 hb2 hs2 hcl hbs hbw2 hO hs e hL
  go_enter Tryd.func10, Tryd.ntmps10
  go_wp2_with fail
  refine HS.mono ?_
  rintro e V ⟨rfl, hV⟩
  subst V
  clear HS
  go_wp2_with fail
  refine HSE.mono ?_
  rintro e V ⟨rfl, hb3⟩
  have HV : Hid (Below w.heap.size w V ∧ V.heap[rb]? = some (.cells #[.int .u32 0, .string ⟨#[]⟩] 25 (0, 0))) := ⟨HH.out.1.trans (hb3.mono HH.out.1.size), (hb3.block rb (lt_of_some HH.out.2.1)).trans HH.out.2.1⟩
  have z0 : V.cell? ⟨rb, 0, none⟩ = some (.int .u32 0) := by rw [cell_of_row _ _ _ _ _ _ HV.out.2]; rfl
  have z1 : V.cell? ⟨rb, 1, none⟩ = some (.string ⟨#[]⟩) := by rw [cell_of_row _ _ _ _ _ _ HV.out.2]; rfl
  have f0 := frozen_of_row V rb 0 _ _ HV.out.2
  have f1 := frozen_of_row V rb 1 _ _ HV.out.2
  clear HSE hb3
  go_wp2
  refine bodyPost_ret (v := .agg #[.int .u32 (s : Int), .string Q]) ?_ rfl ⟨rfl, (HV.out.1.setCell (by show _ ≤ rb; have := HH.out.2.2; omega) _).setCell (by show _ ≤ rb; have := HH.out.2.2; omega) _⟩
  exact res_sg (fn := Tryd.f10) (p := 4) (by rfl) _ _ rb _ (by rfl) (set2 HV.out.2 _ _) infoS2
/-- The blocks of a text. -/
def blk (t : ByteArray) (z i : Nat) : ByteArray := t.extract (i * z) (min (i * z + z) t.size)
def nBl (t : ByteArray) (z : Nat) : Nat := (t.size + z - 1) / z
def blocksL (t : ByteArray) (z : Nat) : List ByteArray := (List.range (nBl t z)).map (blk t z)
def blocksF (t : ByteArray) (z : Int) : List ByteArray × Int := if z < 1 ∨ 128 < z then ([], 9) else if 1024 < t.size then ([], 2) else (blocksL t z.toNat, 0)
theorem nbl_of {t : ByteArray} {z k : Nat} (h1 : t.size ≤ k * z) (h2 : k * z < t.size + z) : nBl t z = k := by
  unfold nBl
  refine Nat.div_eq_of_lt_le (by omega) ?_
  rw [Nat.succ_mul]
  omega
theorem range_next (f : Nat → ByteArray) (i : Nat) : (List.range (i + 1)).map f = (List.range i).map f ++ [f i] := by rw [List.range_succ, List.map_append]; rfl
/-- What Blocks leaves. -/
def BlTo (w : World) (r : List ByteArray × Int) (e : Ending) (w' : World) : Prop := ∃ (a : Option Addr) (n c : Nat), e = .returned (.tuple #[.slice a n c, .int .i64 r.2]) ∧ w'.ownsRow w.heap.size 9 1 (.slice a n c) n (stR r.1) ∧ Below w.heap.size w w'
theorem BlTo.tw {w w' : World} {r : List ByteArray × Int} {e : Ending} (h : BlTo w r e w') : ∃ (a : Option Addr) (n c : Nat), e = .returned (.tuple #[.slice a n c, .int .i64 r.2]) ∧ Tw (fun _ => True) w' a n c r.1 ∧ Below w.heap.size w w' := by
  obtain ⟨a, n, c, h1, h2, h3⟩ := h
  exact ⟨a, n, c, h1, Rw.own h2 (fun _ _ => trivial), h3⟩
set_option maxRecDepth 100000 in
set_option maxHeartbeats 1000000 in
theorem blocks_any (t : ByteArray) (x : Int) (w : World) (hx : t.size ≤ 9223372036854775807) : Calls Tryd.prog 12 #[.string t, .int .i64 x] w fun e w' => BlTo w (blocksF t x) e w' := by
  by_cases h1 : x < 1
  · have hF : blocksF t x = ([], 9) := by unfold blocksF; rw [if_pos (.inl h1)]
    rw [hF]
    go_enter Tryd.func12, Tryd.ntmps12
    go_wp2
    refine bodyPost_ret (v := .tuple #[.slice none 0 0, .int .i64 9]) ?_ rfl ⟨none, 0, 0, rfl, World.ownsRow_nil _ _ _ _, Below.refl _ _⟩
    simp [results, go_sem]
  · by_cases h2 : 128 < x
    · have hF : blocksF t x = ([], 9) := by unfold blocksF; rw [if_pos (.inr h2)]
      rw [hF]
      go_enter Tryd.func12, Tryd.ntmps12
      go_wp2
      refine bodyPost_ret (v := .tuple #[.slice none 0 0, .int .i64 9]) ?_ rfl ⟨none, 0, 0, rfl, World.ownsRow_nil _ _ _ _, Below.refl _ _⟩
      simp [results, go_sem]
    · by_cases h3 : 1024 < t.size
      · have hF : blocksF t x = ([], 2) := by unfold blocksF; rw [if_neg (by omega), if_pos h3]
        rw [hF]
        have h3' : (1024 : Int) < (t.size : Int) := by omega
        go_enter Tryd.func12, Tryd.ntmps12
        go_wp2
        refine bodyPost_ret (v := .tuple #[.slice none 0 0, .int .i64 2]) ?_ rfl ⟨none, 0, 0, rfl, World.ownsRow_nil _ _ _ _, Below.refl _ _⟩
        simp [results, go_sem]
      · have hF : blocksF t x = (blocksL t x.toNat, 0) := by unfold blocksF; rw [if_neg (by omega), if_neg h3]
        obtain ⟨z, hz⟩ : ∃ z : Nat, x = (z : Int) := ⟨x.toNat, by omega⟩
        subst hz
        rw [hF]
        have h3' : ¬ (1024 : Int) < (t.size : Int) := by omega
        have h1' : ¬ (z : Int) < 1 := by omega
        have h2' : ¬ (128 : Int) < (z : Int) := by omega
        obtain ⟨B, hB⟩ : ∃ B, w.heap.size = B := ⟨_, rfl⟩
        clear hF h1 h2
        go_enter Tryd.func12, Tryd.ntmps12
        go_wp2
        go_loopw [6, 7] (fun vl vp wr => ∃ (i p lc : Nat) (la : Option Addr), i * z = p ∧ i ≤ p ∧ p < t.size + z ∧ vp = .int .i64 p ∧ vl = .slice la i lc ∧ wr.ownsRow B 9 1 (.slice la i lc) i (stR ((List.range i).map (blk t z))) ∧ Below w.heap.size w wr) (fun _ vp _ => t.size - (intOf vp).toNat)
        case atStart => exact ⟨0, 0, 0, none, by omega, by omega, by omega, rfl, rfl, World.ownsRow_nil _ _ _ _, Below.refl _ _⟩
        case round =>
          obtain ⟨i, p, lc, la, hip, hile, hpl, rfl, rfl, hown, hbw⟩ := hrel
          by_cases hlt : p < t.size
          · have kk : (p : Int) < (t.size : Int) := by omega
            obtain ⟨q, hq⟩ : ∃ q, p + z = q := ⟨_, rfl⟩
            have kq : (p : Int) + (z : Int) = (q : Int) := by omega
            obtain ⟨m, hm⟩ : ∃ m, min q t.size = m := ⟨_, rfl⟩
            have km : min (q : Int) (t.size : Int) = (m : Int) := by omega
            have hm1 : (p : Int) ≤ (m : Int) := by omega
            have hm2 : (m : Int) ≤ (t.size : Int) := by omega
            obtain ⟨s, hs⟩ : ∃ s, t.extract p m = s := ⟨_, rfl⟩
            have HST : Hid ((List.range (i + 1)).map (blk t z) = (List.range i).map (blk t z) ++ [s]) := by
              show _ = _
              rw [range_next]
              unfold blk
              rw [hip, hq, hm, hs]
            obtain ⟨V4, hV4⟩ : ∃ V4, wr.alloc (.cells #[.string s] 9) = V4 := ⟨_, rfl⟩
            have hB4 : Below wr.heap.size wr V4 := by rw [← hV4]; exact (Below.refl _ wr).alloc (Nat.le_refl _) _
            have r4 : V4.heap[wr.heap.size]? = some (.cells #[.string s] 9 (0, 0)) := by rw [← hV4]; exact heap_alloc_new wr _
            have hBw : B ≤ wr.heap.size := by rw [← hB]; exact hbw.size
            have ho4 := own_keep hown (W' := V4) (fun k hk => hB4.block k (hown.lt k hk).2)
            obtain ⟨aA, cA, VA, hrA, hoA, hgA, _⟩ := addT_own V4 ho4 (txtRow r4) (by omega) (Nat.le_trans hBw hB4.size)
            have HE : Hid (VA.ownsRow B 9 1 (.slice aA (i + 1) cA) (i + 1) (stR ((List.range i).map (blk t z) ++ [s])) ∧ Below w.heap.size w VA) := by
              refine ⟨hoA, (hbw.trans (hB4.mono hbw.size)).grown hgA (Nat.le_trans hbw.size hB4.size) (fun k hk => ?_)⟩
              have := (ho4.lt k (by rw [ob_slice]; exact hk)).1
              omega
            have HQ : Hid ((i + 1) * z = q ∧ i + 1 ≤ q ∧ q < t.size + z ∧ t.size - q < t.size - p) := ⟨by rw [Nat.succ_mul, hip, hq], by omega, by omega, by omega⟩
            clear hown hbw hB4 r4 ho4 hoA hgA hBw hm hip hq
            go_wp2_with ((at_builtin; refine wpList_app V4 rfl _ _ _ _ rfl rfl rfl (hrA _) ?_))
            refine ⟨⟨i + 1, q, cA, aA, HQ.out.1, HQ.out.2.1, HQ.out.2.2.1, by go_num, by go_num, ?_, HE.out.2⟩, by simp [intOf]; have := HQ.out.2.2.2; omega⟩
            rw [HST.out]
            exact HE.out.1
          · have kk : ¬ (p : Int) < (t.size : Int) := by omega
            have HE : Hid (wr.ownsRow B 9 1 (.slice la i lc) i (stR (blocksL t z)) ∧ Below w.heap.size w wr) := ⟨by unfold blocksL; rw [nbl_of (k := i) (by omega) (by omega)]; exact hown, hbw⟩
            clear hown hbw hip
            go_wp2
            refine bodyPost_ret (v := .tuple #[.slice la i lc, .int .i64 0]) ?_ rfl ⟨la, i, lc, rfl, by rw [hB]; exact HE.out.1, HE.out.2⟩
            simp [results, go_sem]
set_option maxRecDepth 100000 in
set_option maxHeartbeats 1000000 in
theorem same_any {G H : Nat → Prop} {w : World} {a : Option Addr} {n c : Nat} {la : List ByteArray} {b : Option Addr} {m d : Nat} {lb : List ByteArray} (ha : Tw G w a n c la) (hb : Tw H w b m d lb) :
    Calls Tryd.prog 14 #[.slice a n c, .slice b m d] w fun e w' => e = .returned (.bool (decide (la = lb))) ∧ Below w.heap.size w w' := by
  have hla := ha.len
  have hlb := hb.len
  have hmx : n ≤ 9223372036854775807 := ha.max
  by_cases hnm : n = m
  · subst hnm
    have HA : Hid (∀ W, Below w.heap.size w W → Tw G W a n c la ∧ Tw H W b n d lb) := fun W hW => ⟨ha.below hW, hb.below hW⟩
    clear ha hb
    go_enter Tryd.func14, Tryd.ntmps14
    go_wp2
    go_loopw [5] (fun v wr => ∃ i : Nat, i ≤ n ∧ v = .int .i64 i ∧ la.take i = lb.take i ∧ Below w.heap.size w wr) (fun v _ => n - (intOf v).toNat)
    case atStart => exact ⟨0, by omega, rfl, rfl, Below.refl _ _⟩
    case round =>
      obtain ⟨i, hi, rfl, htk, hbw⟩ := hrel
      by_cases hlt : i < n
      · have kk : (i : Int) < (n : Int) := by omega
        obtain ⟨h1, h2⟩ := HA.out wr hbw
        obtain ⟨ab, ao, rfl, _, hc⟩ := h1.at (by omega)
        obtain ⟨bb, bo, rfl, _, hd⟩ := h2.at (by omega)
        obtain ⟨p, hp⟩ : ∃ p, la[i]? = some p := ⟨_, List.getElem?_eq_getElem (by omega)⟩
        obtain ⟨q, hq⟩ : ∃ q, lb[i]? = some q := ⟨_, List.getElem?_eq_getElem (by omega)⟩
        have c1 := hc i _ hp
        have d1 := hd i _ hq
        have HE : Hid (la[i]? = some p ∧ lb[i]? = some q ∧ la.take i = lb.take i ∧ Below w.heap.size w wr) := ⟨hp, hq, htk, hbw⟩
        clear hc hd hp hq htk hbw h1 h2
        by_cases hpq : p = q
        · have hbe : (p.toList == q.toList) = true := by rw [hpq]; simp
          have HPQ : Hid (p = q) := hpq
          clear hpq
          go_wp2
          go_quiet (fail)
          go_wp2
          refine ⟨⟨i + 1, by omega, by go_num, ?_, below_drewN HE.out.2.2.2 _⟩, by simp [intOf]; omega⟩
          rw [take_snoc HE.out.1, take_snoc HE.out.2.1, HE.out.2.2.1, HPQ.out]
        · have hbe : (p.toList == q.toList) = false := str_nb hpq
          have HPQ : Hid (¬ p = q) := hpq
          clear hpq
          go_wp2
          go_quiet (fail)
          go_wp2
          go_ret
          have hd : decide (la = lb) = false := decide_eq_false fun e => by
            have h5 := HE.out.1
            rw [e, HE.out.2.1] at h5
            exact HPQ.out (Option.some.inj h5).symm
          rw [hd]
          exact ⟨rfl, below_drewN HE.out.2.2.2 _⟩
      · obtain rfl : i = n := by omega
        have kk : ¬ (i : Int) < (i : Int) := by omega
        have HE : Hid (la.take i = lb.take i ∧ Below w.heap.size w wr) := ⟨htk, hbw⟩
        clear htk hbw
        go_wp2
        go_ret
        have hd : decide (la = lb) = true := decide_eq_true (by
          have h5 := HE.out.1
          rw [List.take_of_length_le (by omega), List.take_of_length_le (by omega)] at h5
          exact h5)
        rw [hd]
        exact ⟨rfl, HE.out.2⟩
  · have hne : ¬ (n : Int) = (m : Int) := by omega
    have hnb : ((n : Int) == (m : Int)) = false := by simpa using hne
    clear ha hb
    go_enter Tryd.func14, Tryd.ntmps14
    go_wp2
    go_ret
    have hd : decide (la = lb) = false := decide_eq_false fun e => by rw [e] at hla; omega
    rw [hd]
    exact ⟨rfl, Below.refl _ _⟩
end Go.Proofs.YthmikfkdjnidmaaDoor
