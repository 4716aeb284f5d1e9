/- The document's contents in memory; walks over its At, Count, SameIDs, Find, Digest, with. -/
import Derived.Test.YtjpkngbjjgimjaaDoorLA
import Derived.Test.YtjpkngbjjgimjaaDoorKM
import Derived.Test.YtjpkngbjjgimjaaDoorS
namespace Go.Proofs.YtjpkngbjjgimjaaDoor
open Go.RowKit
/-- Contents as the document keeps them. -/
def dnC (c : Cn) : List Value := [.string c.sum, .int .i64 (c.n : Int), .int .i64 (c.refs : Int), .string c.data]
def dnR (l : List Cn) : List Value := l.flatMap dnC
theorem dnC_len (c : Cn) : (dnC c).length = 4 := rfl
theorem dnR_app (a b : List Cn) : dnR (a ++ b) = dnR a ++ dnR b := by simp [dnR]
theorem dnR_one (l : List Cn) : ∀ u ∈ dnR l, u.oneCell' = true := by
  intro u hu
  obtain ⟨c, _, hc⟩ := List.mem_flatMap.1 hu
  simp only [dnC, List.mem_cons, List.not_mem_nil, or_false] at hc
  rcases hc with rfl | rfl | rfl | rfl <;> rfl
def Dw (G : Nat → Prop) (w : World) (a : Option Addr) (len cap : Nat) (l : List Cn) : Prop := Rw G w 73 4 a len cap (dnR l)
section
variable {G : Nat → Prop} {w w' : World} {a : Option Addr} {ln cp : Nat} {l : List Cn}
theorem Dw.len (h : Dw G w a ln cp l) : l.length = ln := by
  have := h.1
  unfold dnR at this
  rw [fm_len dnC_len] at this
  omega
theorem Dw.max (h : Dw G w a ln cp l) : ln ≤ cp ∧ cp ≤ 9223372036854775807 := by
  have h1 := h.2.1
  have h2 := h.2.2.1
  unfold maxLen at h2
  omega
theorem Dw.below (h : Dw G w a ln cp l) (hb : Below w.heap.size w w') : Dw G w' a ln cp l := Rw.below h hb
theorem Dw.any (h : Dw G w a ln cp l) : Dw (fun _ => True) w a ln cp l := Rw.mono h (fun _ _ _ => trivial)
theorem Dw.at (h : Dw G w a ln cp l) (h0 : 0 < ln) : ∃ b o, a = some ⟨b, o, none⟩ ∧ b < w.heap.size ∧ ∀ i c, l[i]? = some c → w.cell? ⟨b, o + i * 4, none⟩ = some (.string c.sum) ∧ w.cell? ⟨b, o + i * 4 + 1, none⟩ = some (.int .i64 (c.n : Int)) ∧ w.cell? ⟨b, o + i * 4 + 2, none⟩ = some (.int .i64 (c.refs : Int)) ∧ w.cell? ⟨b, o + i * 4 + 3, none⟩ = some (.string c.data) := by
  obtain ⟨b, o, rfl, ⟨cur, fr, hb⟩, hg, hc⟩ := h.2.2.2 h0
  have key : ∀ i c, l[i]? = some c → ∀ j, j < 4 → (dnR l)[i * 4 + j]? = (dnC c)[j]? := fun i c hi j hj => fm_at dnC_len hi j hj
  refine ⟨b, o, rfl, lt_of_some hb, fun i c hi => ⟨?_, ?_, ?_, ?_⟩⟩
  · exact hc (i * 4) _ (key i c hi 0 (by omega))
  · rw [Nat.add_assoc]; exact hc (i * 4 + 1) _ (key i c hi 1 (by omega))
  · rw [Nat.add_assoc]; exact hc (i * 4 + 2) _ (key i c hi 2 (by omega))
  · rw [Nat.add_assoc]; exact hc (i * 4 + 3) _ (key i c hi 3 (by omega))
theorem Dw.pre (h : Dw G w a ln cp l) (i : Nat) (hi : i ≤ ln) : Dw G w (cutA a cp 0 4) i cp (l.take i) := by
  have := Rw.pre h i hi
  unfold dnR at this
  rw [fm_take dnC_len] at this
  exact this
theorem Dw.off (h : Dw G w a ln cp l) (i : Nat) (hi : i ≤ ln) : Dw G w (cutA a cp i 4) (ln - i) (cp - i) (l.drop i) := by
  have := Rw.drop h i hi
  unfold dnR at this
  rw [fm_drop dnC_len] at this
  exact this
end
theorem pre_cons (a : Option Addr) (len cap i : Nat) (hi : i ≤ cap) (W : World) : (Instr.sliceAt 32 (.slice a len cap) none (some (.int .i64 (i : Int))) none).run Tryd.prog W = .ok (.slice (cutA a cap 0 4) i cap) W := by
  have h1 : (sizeOf 73).run Tryd.prog W = .ok 4 W := by kernel_rfl
  simp [Instr.sliceAt, Instr.slice, run_underlying Tryd.underlying32, Instr.sliceBounds, Instr.sliceBound, asIntOf, h1, hi, cutA]
theorem off_cons (a : Option Addr) (len cap i : Nat) (hi : i ≤ len) (W : World) : (Instr.sliceAt 32 (.slice a len cap) (some (.int .i64 (i : Int))) none none).run Tryd.prog W = .ok (.slice (cutA a cap i 4) (len - i) (cap - i)) W := by
  have h1 : (sizeOf 73).run Tryd.prog W = .ok 4 W := by kernel_rfl
  simp [Instr.sliceAt, Instr.slice, run_underlying Tryd.underlying32, Instr.sliceBounds, Instr.sliceBound, asIntOf, h1, hi, cutA]
theorem infoDn : (Tryd.prog.info? 73).map (fun i => (i.zero, i.size, i.bytes)) = some (some (.agg #[.string ByteArray.empty, .int .i64 0, .int .i64 0, .string ByteArray.empty]), 4, 48) := by kernel_rfl
theorem addD_own {G2 : Nat → Prop} (w : World) {base : Nat} {a : Option Addr} {n c : Nat} {l : List Cn} (h : w.ownsRow base 73 4 (.slice a n c) n (dnR l)) {a2 : Option Addr} {m c2 : Nat} {k : List Cn} (h2 : Dw G2 w a2 m c2 k) (hN : n + m ≤ 1000000) (hb : base ≤ w.heap.size) :
    ∃ a' c' w', (∀ ty, (Builtin.append_ #[32, 32] ty #[.slice a n c, .slice a2 m c2]).run Tryd.prog w = .ok (.slice a' (n + m) c') w') ∧ w'.ownsRow base 73 4 (.slice a' (n + m) c') (n + m) (dnR (l ++ k)) ∧ w.grownBy w' (ob a) ∧ (ob a' = ob a ∨ ob a' = some w.heap.size) := by
  obtain ⟨i, hi, hz, hs, hbb⟩ := info_of infoDn
  rw [dnR_app]
  exact app_own w 32 73 i _ 4 48 Tryd.underlying32 hi hz hs hbb rfl (by omega) h h2 (dnR_one k) hN (by omega) hb
theorem dnRow {w : World} {b : Nat} {c : Cn} (h : w.heap[b]? = some (.cells #[.string c.sum, .int .i64 (c.n : Int), .int .i64 (c.refs : Int), .string c.data] 73 (0, 0))) : Dw (fun _ => True) w (some ⟨b, 0, none⟩) 1 1 [c] := by
  refine ⟨rfl, Nat.le_refl _, by unfold maxLen; omega, fun _ => ⟨b, 0, rfl, ⟨_, _, h⟩, trivial, fun j u hu => ?_⟩⟩
  rw [Nat.zero_add, cell_of_row _ b _ _ _ _ h]
  simpa [dnR, dnC] using hu
theorem box_id {w : World} (s : ByteArray) (n : Int) : ∃ W1, w.alloc (.cells #[.string s, .int .i64 n] 35) = W1 ∧ W1.heap[w.heap.size]? = some (.cells #[.string s, .int .i64 n] 35 (0, 0)) ∧ Below w.heap.size w W1 :=
  ⟨_, rfl, heap_alloc_new w _, (Below.refl _ w).alloc (Nat.le_refl _) _⟩
def atV : Option Nat → Int
  | some k => (k : Int)
  | none => -1
def AtTo (w : World) (r : Option Nat) (e : Ending) (w' : World) : Prop := e = .returned (.int .i64 (atV r)) ∧ Below w.heap.size w w'
set_option maxRecDepth 100000 in
set_option maxHeartbeats 2000000 in
theorem at_any {G : Nat → Prop} {w : World} {a : Option Addr} {n c : Nat} {l : List Cn} (h : Dw G w a n c l) (s : ByteArray) (m : Int) : Calls Tryd.prog 28 #[.slice a n c, .agg #[.string s, .int .i64 m]] w fun e w' => AtTo w (atF l s m) e w' := by
  have hl := h.len
  have hm : n ≤ 9223372036854775807 := by have := h.max; omega
  obtain ⟨bx, hbx⟩ : ∃ bx, w.heap.size = bx := ⟨_, rfl⟩
  obtain ⟨W1, hW1, r1, hb1⟩ := box_id (w := w) s m
  rw [hbx] at r1
  have HH : Hid (Dw G W1 a n c l ∧ W1.heap[bx]? = some (.cells #[.string s, .int .i64 m] 35 (0, 0)) ∧ Below w.heap.size w W1) := ⟨h.below hb1, r1, hb1⟩
  clear h r1 hb1
  go_enter Tryd.func28, Tryd.ntmps28
  go_wp2
  go_loopw [5] (fun vi wr => ∃ i : Nat, i ≤ n ∧ vi = .int .i64 i ∧ (∀ j, j < i → ∀ d, l[j]? = some d → ¬ (d.sum = s ∧ (d.n : Int) = m)) ∧ Below W1.heap.size W1 wr) (fun vi _ => n - (intOf vi).toNat)
  case atStart => exact ⟨0, by omega, rfl, fun j hj => by omega, Below.refl _ _⟩
  case round =>
    obtain ⟨i, hi, rfl, hbe, hbw⟩ := hrel
    have HW : Hid (Below w.heap.size w wr ∧ Below W1.heap.size W1 wr) := ⟨HH.out.2.2.trans (hbw.mono HH.out.2.2.size), hbw⟩
    by_cases hlt : i < n
    · have kk : (i : Int) < (n : Int) := by omega
      obtain ⟨sb, so, rfl, _, hc⟩ := (HH.out.1.below hbw).at (by omega)
      obtain ⟨⟨t1, t2, t3, t4⟩, ht⟩ : ∃ t, l[i]? = some t := ⟨_, List.getElem?_eq_getElem (by omega)⟩
      obtain ⟨c0, c1, _, _⟩ := hc i _ ht
      simp only at c0 c1
      have hbx2 := (hbw.block bx (lt_of_some HH.out.2.1)).trans HH.out.2.1
      have b0 : wr.cell? ⟨bx, 0, none⟩ = some (.string s) := by rw [cell_of_row _ _ _ _ _ _ hbx2]; rfl
      have b1 : wr.cell? ⟨bx, 1, none⟩ = some (.int .i64 m) := by rw [cell_of_row _ _ _ _ _ _ hbx2]; rfl
      have HEQ := fun V => eqin_id t1 s (t2 : Int) m V
      obtain ⟨y, hy⟩ : ∃ y, decide (t1 = s ∧ (t2 : Int) = m) = y := ⟨_, rfl⟩
      rw [hy] at HEQ
      have HP : Hid (l[i]? = some ⟨t1, t2, t3, t4⟩ ∧ (∀ j, j < i → ∀ d, l[j]? = some d → ¬ (d.sum = s ∧ (d.n : Int) = m)) ∧ decide (t1 = s ∧ (t2 : Int) = m) = y) := ⟨ht, hbe, hy⟩
      clear hbe hbw hbx2 hc ht hy
      cases y with
      | true =>
        have HF : Hid (atF l s m = some i) := at_mk HP.out.1 (of_decide_eq_true HP.out.2.2) HP.out.2.1
        go_wp2
        go_quiet (fail)
        go_wp2
        go_ret
        exact ⟨by rw [HF.out]; rfl, below_drewN HW.out.1 _⟩
      | false =>
        go_wp2
        go_quiet (fail)
        go_wp2
        refine ⟨⟨i + 1, by omega, by go_num, fun j hj d hd => ?_, below_drewN HW.out.2 _⟩, by simp [intOf]; omega⟩
        by_cases hij : j = i
        · subst hij
          rw [HP.out.1] at hd
          obtain rfl := Option.some.inj hd
          exact of_decide_eq_false HP.out.2.2
        · exact HP.out.2.1 j (by omega) d hd
    · have kk : ¬ (i : Int) < (n : Int) := by omega
      have HF : Hid (atF l s m = none) := at_no (fun d hd => by
        obtain ⟨j, hj, e⟩ := List.getElem_of_mem hd
        exact hbe j (by omega) d (by rw [List.getElem?_eq_getElem hj, e]))
      clear hbe hbw
      go_wp2
      go_ret
      exact ⟨by rw [HF.out]; rfl, HW.out.1⟩
set_option maxRecDepth 100000 in
set_option maxHeartbeats 1000000 in
theorem rcount_any {G : Nat → Prop} {w : World} {a : Option Addr} {n c : Nat} {l : List Cn} (h : Dw G w a n c l) (hs : ∀ d ∈ l, d.data.size ≤ 128) (hn : n ≤ 100000) : Calls Tryd.prog 34 #[.slice a n c] w fun e w' => e = .returned (.tuple #[.int .i64 (l.length : Int), .int .i64 (dataSum l : Int)]) ∧ w' = w := by
  have hl := h.len
  rw [hl]
  have HH : Hid (Dw G w a n c l ∧ ∀ d ∈ l, d.data.size ≤ 128) := ⟨h, hs⟩
  clear h hs
  go_enter Tryd.func34, Tryd.ntmps34
  go_wp2
  go_loopw [4, 5] (fun vs vi wr => ∃ i : Nat, i ≤ n ∧ vi = .int .i64 i ∧ vs = .int .i64 (dataSum (l.take i) : Nat) ∧ dataSum (l.take i) ≤ 128 * i ∧ wr = w) (fun _ vi _ => n - (intOf vi).toNat)
  case atStart => exact ⟨0, by omega, rfl, rfl, Nat.le_refl _, rfl⟩
  case round =>
    obtain ⟨i, hi, rfl, rfl, hle, hwr⟩ := hrel
    subst wr
    by_cases hlt : i < n
    · have kk : (i : Int) < (n : Int) := by omega
      obtain ⟨sb, so, rfl, _, hc⟩ := HH.out.1.at (by omega)
      obtain ⟨⟨t1, t2, t3, t4⟩, ht⟩ : ∃ t, l[i]? = some t := ⟨_, List.getElem?_eq_getElem (by omega)⟩
      obtain ⟨_, _, _, c3⟩ := hc i _ ht
      simp only at c3
      have h4 : t4.size ≤ 128 := HH.out.2 _ (List.mem_of_getElem? ht)
      have e : dataSum (l.take (i + 1)) = dataSum (l.take i) + t4.size := by
        rw [take_sn ht, dataSum_app]
        simp [dataSum]
      obtain ⟨q, hq⟩ : ∃ q, dataSum (l.take i) = q := ⟨_, rfl⟩
      rw [hq] at e hle ⊢
      have HE : Hid (dataSum (l.take (i + 1)) = q + t4.size) := e
      clear hc ht e hq
      go_wp2
      refine ⟨⟨i + 1, by omega, by go_num, by rw [HE.out]; go_num, by rw [HE.out]; omega, by first | trivial | rfl⟩, by simp [intOf]; omega⟩
    · have kk : ¬ (i : Int) < (n : Int) := by omega
      rw [List.take_of_length_le (by omega)]
      obtain rfl : i = n := by omega
      clear hle
      go_wp2
      refine bodyPost_ret (v := .tuple #[.int .i64 (i : Int), .int .i64 (dataSum l : Int)]) ?_ rfl ⟨rfl, rfl⟩
      simp [results, go_sem]
set_option maxRecDepth 100000 in
set_option maxHeartbeats 1000000 in
theorem sameids_any {G H : Nat → Prop} {w : World} {a : Option Addr} {n c : Nat} {la : List Ix} {b : Option Addr} {m d : Nat} {lb : List Ix} (ha : Iw G w a n c la) (hb : Iw H w b m d lb) :
    Calls Tryd.prog 36 #[.slice a n c, .slice b m d] w fun e w' => e = .returned (.bool (decide (la = lb))) ∧ Below w.heap.size w w' := by
  have hla := ha.len
  have hlb := hb.len
  have hmx : n ≤ 9223372036854775807 := by have h1 := ha.2.1; have h2 := ha.2.2.1; unfold maxLen at h2; omega
  by_cases hnm : n = m
  · subst hnm
    have HA : Hid (∀ W, Below w.heap.size w W → Iw G W a n c la ∧ Iw H W b n d lb) := fun W hW => ⟨ha.below hW, hb.below hW⟩
    clear ha hb
    go_enter Tryd.func36, Tryd.ntmps36
    go_wp2
    go_loopw [5] (fun v wr => ∃ i : Nat, i ≤ n ∧ v = .int .i64 i ∧ la.take i = lb.take i ∧ Below w.heap.size w wr) (fun v _ => n - (intOf v).toNat)
    case atStart => exact ⟨0, by omega, rfl, rfl, Below.refl _ _⟩
    case round =>
      obtain ⟨i, hi, rfl, htk, hbw⟩ := hrel
      by_cases hlt : i < n
      · have kk : (i : Int) < (n : Int) := by omega
        obtain ⟨h1, h2⟩ := HA.out wr hbw
        obtain ⟨ab, ao, rfl, _, _, hc⟩ := h1.at (by omega)
        obtain ⟨bb, bo, rfl, _, _, hd⟩ := h2.at (by omega)
        obtain ⟨⟨p1, p2⟩, hp⟩ : ∃ p, la[i]? = some p := ⟨_, List.getElem?_eq_getElem (by omega)⟩
        obtain ⟨⟨q1, q2⟩, hq⟩ : ∃ q, lb[i]? = some q := ⟨_, List.getElem?_eq_getElem (by omega)⟩
        obtain ⟨c1, c2⟩ := hc i _ hp
        obtain ⟨d1, d2⟩ := hd i _ hq
        simp only at c1 c2 d1 d2
        have he := fun W => eqin_id p1 q1 (p2 : Int) (q2 : Int) W
        obtain ⟨y, hy⟩ : ∃ y, decide (p1 = q1 ∧ (p2 : Int) = (q2 : Int)) = y := ⟨_, rfl⟩
        rw [hy] at he
        have HE : Hid (decide (p1 = q1 ∧ (p2 : Int) = (q2 : Int)) = y ∧ la[i]? = some (p1, p2) ∧ lb[i]? = some (q1, q2) ∧ la.take i = lb.take i ∧ Below w.heap.size w wr) := ⟨hy, hp, hq, htk, hbw⟩
        clear hc hd hp hq hy htk hbw h1 h2
        cases y with
        | true =>
          go_wp2
          go_quiet (fail)
          go_wp2
          refine ⟨⟨i + 1, by omega, by go_num, ?_, below_drewN HE.out.2.2.2.2 _⟩, by simp [intOf]; omega⟩
          have h5 := of_decide_eq_true HE.out.1
          rw [take_snoc HE.out.2.1, take_snoc HE.out.2.2.1, HE.out.2.2.2.1, h5.1, show p2 = q2 by omega]
        | false =>
          go_wp2
          go_quiet (fail)
          go_wp2
          go_ret
          have hd : decide (la = lb) = false := decide_eq_false fun e => by
            have h5 := HE.out.2.1
            rw [e, HE.out.2.2.1] at h5
            have h6 := Option.some.inj h5
            have h7 := of_decide_eq_false HE.out.1
            rw [Prod.mk.injEq] at h6
            exact h7 ⟨h6.1.symm, by omega⟩
          rw [hd]
          exact ⟨rfl, below_drewN HE.out.2.2.2.2 _⟩
      · obtain rfl : i = n := by omega
        have kk : ¬ (i : Int) < (i : Int) := by omega
        have HE : Hid (la.take i = lb.take i ∧ Below w.heap.size w wr) := ⟨htk, hbw⟩
        clear htk hbw
        go_wp2
        go_ret
        have hd : decide (la = lb) = true := decide_eq_true (by
          have h5 := HE.out.1
          rw [List.take_of_length_le (by omega), List.take_of_length_le (by omega)] at h5
          exact h5)
        rw [hd]
        exact ⟨rfl, HE.out.2⟩
  · have hne : ¬ (n : Int) = (m : Int) := by omega
    have hnb : ((n : Int) == (m : Int)) = false := by simpa using hne
    clear ha hb
    go_enter Tryd.func36, Tryd.ntmps36
    go_wp2
    go_ret
    have hd : decide (la = lb) = false := decide_eq_false fun e => by rw [e] at hla; omega
    rw [hd]
    exact ⟨rfl, Below.refl _ _⟩
set_option maxHeartbeats 1000000 in
theorem rdigest_any (data : ByteArray) (W : Nat) (hW : W ≤ 32) (w : World) (hd : data.size ≤ 1000000) : Calls Tryd.prog 20 #[.string data, .int .i64 (W : Int)] w fun e w' => e = .returned (.string (digW W data)) ∧ Below w.heap.size w w' := by
  have HS := sum_any data w hd
  obtain ⟨O, hO⟩ : ∃ O, strOf (digest data.data.toList) = O := ⟨_, rfl⟩
  have hOs : O.size = 32 := by rw [← hO, strOf_size, digest_len]
  rw [hO] at HS
  obtain ⟨Q, hQ⟩ : ∃ Q, O.extract 0 W = Q := ⟨_, rfl⟩
  have e : digW W data = Q := by unfold digW; rw [hO, hQ]
  rw [e]
  have k1 : (W : Int) ≤ (O.size : Int) := by omega
  have k0 : (0 : Int) ≤ (W : Int) := by omega
  clear hO e
  go_enter Tryd.func20, Tryd.ntmps20
  go_wp2_with fail
  refine HS.mono ?_
  rintro e V ⟨rfl, hb⟩
  have HB : Hid (Below w.heap.size w V) := hb
  clear HS hb
  go_wp2
  go_ret
  exact ⟨rfl, HB.out⟩
set_option maxRecDepth 100000 in
set_option maxHeartbeats 2000000 in
theorem rfind_ids {G : Nat → Prop} {w : World} {a : Option Addr} {n c : Nat} {l : List Cn} (h : Dw G w a n c l) (s : ByteArray) : Calls Tryd.prog 35 #[.slice a n c, .string s] w fun e w' => FdTo w (idsF l s 256) e w' := by
  obtain ⟨B, hB⟩ : ∃ B, w.heap.size = B := ⟨_, rfl⟩
  have HH : Hid (Dw G w a n c l) := h
  clear h
  go_enter Tryd.func35, Tryd.ntmps35
  go_wp2
  go_loopw [5, 6] (fun vl vi wr => ∃ (i m lc : Nat) (la : Option Addr), i ≤ 256 ∧ m ≤ i ∧ vi = .int .i64 i ∧ vl = .slice la m lc ∧ wr.ownsRow B 35 2 (.slice la m lc) m (idR (idsF l s i)) ∧ Below w.heap.size w wr) (fun _ vi _ => 256 - (intOf vi).toNat)
  case atStart => exact ⟨0, 0, 0, none, by omega, by omega, rfl, rfl, World.ownsRow_nil _ _ _ _, Below.refl _ _⟩
  case round =>
    obtain ⟨i, m, lc, la, hi, hmi, rfl, rfl, hown, hbw⟩ := hrel
    by_cases hlt : i < 256
    · have kk : (i : Int) < 256 := by omega
      obtain ⟨bx, hbx⟩ : ∃ bx, wr.heap.size = bx := ⟨_, rfl⟩
      obtain ⟨W4, hW4, r4, hb4⟩ := box_id (w := wr) s (i : Int)
      rw [hbx] at r4
      have x0 : W4.cell? ⟨bx, 0, none⟩ = some (.string s) := by rw [cell_of_row _ _ _ _ _ _ r4]; rfl
      have x1 : W4.cell? ⟨bx, 1, none⟩ = some (.int .i64 (i : Int)) := by rw [cell_of_row _ _ _ _ _ _ r4]; rfl
      have hbw4 : Below w.heap.size w W4 := hbw.trans (hb4.mono hbw.size)
      have HAT := at_any (HH.out.below hbw4) s (i : Int)
      obtain ⟨r, hr⟩ : ∃ r, atF l s (i : Int) = r := ⟨_, rfl⟩
      rw [hr] at HAT
      have ho4 := own_keep hown (W' := W4) (fun z hz => hb4.block z (hown.lt z hz).2)
      have H4 : Hid (W4.ownsRow B 35 2 (.slice la m lc) m (idR (idsF l s i)) ∧ Below w.heap.size w W4 ∧ W4.heap[bx]? = some (.cells #[.string s, .int .i64 (i : Int)] 35 (0, 0)) ∧ atF l s (i : Int) = r) := ⟨ho4, hbw4, r4, hr⟩
      clear hown hbw r4 hb4 hbw4 ho4 hr
      go_wp2_with fail
      refine HAT.mono ?_
      rintro e V5 ⟨rfl, hb5⟩
      have r5 := (hb5.block bx (lt_of_some H4.out.2.2.1)).trans H4.out.2.2.1
      have ho5 := own_keep H4.out.1 (W' := V5) (fun z hz => hb5.block z (H4.out.1.lt z hz).2)
      have hbw5 : Below w.heap.size w V5 := H4.out.2.1.trans (hb5.mono H4.out.2.1.size)
      clear HAT x0 x1 hb5
      cases r with
      | none =>
        have HST : Hid (idsF l s (i + 1) = idsF l s i) := by
          show _ = _
          have : idsF l s (i + 1) = idsF l s i ++ if (atF l s (i : Int)).isSome then [(s, i)] else [] := rfl
          rw [this, H4.out.2.2.2]
          simp
        have H5 : Hid (V5.ownsRow B 35 2 (.slice la m lc) m (idR (idsF l s i)) ∧ Below w.heap.size w V5) := ⟨ho5, hbw5⟩
        unfold atV
        clear ho5 hbw5 r5
        go_wp2
        exact ⟨⟨i + 1, m, lc, la, by omega, by omega, by go_num, by first | rfl | go_num, by rw [HST.out]; exact H5.out.1, H5.out.2⟩, by simp [intOf]; omega⟩
      | some q =>
        have HST : Hid (idsF l s (i + 1) = idsF l s i ++ [(s, i)]) := by
          show _ = _
          have : idsF l s (i + 1) = idsF l s i ++ if (atF l s (i : Int)).isSome then [(s, i)] else [] := rfl
          rw [this, H4.out.2.2.2]
          simp
        have x0 : V5.cell? ⟨bx, 0, none⟩ = some (.string s) := by rw [cell_of_row _ _ _ _ _ _ r5]; rfl
        have x1 : V5.cell? ⟨bx, 1, none⟩ = some (.int .i64 (i : Int)) := by rw [cell_of_row _ _ _ _ _ _ r5]; rfl
        obtain ⟨V7, hV7⟩ : ∃ V7, V5.alloc (.cells #[.string s, .int .i64 (i : Int)] 35) = V7 := ⟨_, rfl⟩
        have hB7 : Below V5.heap.size V5 V7 := by rw [← hV7]; exact (Below.refl _ V5).alloc (Nat.le_refl _) _
        have r7 : V7.heap[V5.heap.size]? = some (.cells (Ix.cells (s, i)) 35 (0, 0)) := by rw [← hV7]; exact heap_alloc_new V5 _
        have ho7 := own_keep ho5 (W' := V7) (fun z hz => hB7.block z (ho5.lt z hz).2)
        have hbw7 : Below w.heap.size w V7 := hbw5.trans (hB7.mono hbw5.size)
        obtain ⟨aA, cA, VA, hrA, hoA, hgA, _⟩ := addI_own V7 ho7 (idRow (c := (s, i)) r7) (by omega) (by rw [← hB]; exact hbw7.size)
        have HE : Hid (VA.ownsRow B 35 2 (.slice aA (m + 1) cA) (m + 1) (idR (idsF l s i ++ [(s, i)])) ∧ Below w.heap.size w VA) := by
          refine ⟨hoA, hbw7.grown hgA hbw7.size (fun z hz => ?_)⟩
          have := (ho7.lt z (by rw [ob_slice]; exact hz)).1
          rw [hB]
          exact this
        have hq0 : (0 : Int) ≤ (q : Int) := by omega
        unfold atV
        clear ho5 hbw5 r5 hB7 r7 ho7 hbw7 hoA hgA
        go_wp2_with ((at_builtin; refine wpList_app V7 rfl _ _ _ _ rfl rfl rfl (hrA _) ?_))
        exact ⟨⟨i + 1, m + 1, cA, aA, by omega, by omega, by go_num, by first | rfl | go_num, by rw [HST.out]; exact HE.out.1, HE.out.2⟩, by simp [intOf]; omega⟩
    · have kk : ¬ (i : Int) < 256 := by omega
      obtain rfl : i = 256 := by omega
      have HE : Hid (wr.ownsRow B 35 2 (.slice la m lc) m (idR (idsF l s 256)) ∧ Below w.heap.size w wr) := ⟨hown, hbw⟩
      clear hown hbw
      go_wp2
      go_ret
      exact ⟨la, m, lc, rfl, by rw [hB]; exact HE.out.1, HE.out.2⟩
end Go.Proofs.YtjpkngbjjgimjaaDoor
