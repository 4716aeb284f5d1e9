/- The document's table: Find, Get, Put, Drop, Range, Size. -/
import Derived.Test.YtjpkngbjjgimjaaDoorTA
namespace Go.Proofs.YtjpkngbjjgimjaaDoor
open Go.RowKit
theorem Rw.pre {G : Nat → Prop} {w : World} {et sz : Nat} {a : Option Addr} {len cap : Nat} {xs : List Value} (h : Rw G w et sz a len cap xs) (i : Nat) (hi : i ≤ len) : Rw G w et sz (cutA a cap 0 sz) i cap (xs.take (i * sz)) := by
  obtain ⟨h1, h2, h3, h4⟩ := h
  have hm : i * sz ≤ len * sz := Nat.mul_le_mul_right _ hi
  refine ⟨by rw [List.length_take, h1]; omega, by omega, h3, fun h0 => ?_⟩
  obtain ⟨b, o, rfl, hb, hg, hc⟩ := h4 (by omega)
  refine ⟨b, o, ?_, hb, hg, fun j u hu => ?_⟩
  · unfold cutA
    rw [if_neg (by omega)]
    simp [add_at]
  · rw [List.getElem?_take] at hu
    split at hu
    · exact hc j u hu
    · cases hu
theorem Pw.pre {G : Nat → Prop} {w : World} {a : Option Addr} {len cap : Nat} {l : List Pr} (h : Pw G w a len cap l) (i : Nat) (hi : i ≤ len) : Pw G w (cutA a cap 0 2) i cap (l.take i) := by
  have := Rw.pre h i hi
  unfold prV at this
  rw [fm_take prC_len] at this
  exact this
theorem pre_prs (a : Option Addr) (len cap i : Nat) (hi : i ≤ cap) (W : World) : (Instr.sliceAt 28 (.slice a len cap) none (some (.int .i64 (i : Int))) none).run Tryd.prog W = .ok (.slice (cutA a cap 0 2) i cap) W := by
  have h1 : (sizeOf 63).run Tryd.prog W = .ok 2 W := by kernel_rfl
  simp [Instr.sliceAt, Instr.slice, run_underlying Tryd.underlying28, Instr.sliceBounds, Instr.sliceBound, asIntOf, h1, hi, cutA]
theorem pairRow {w : World} {c : Nat} {k v : ByteArray} (h : w.heap[c]? = some (.cells #[.string k, .string v] 63 (0, 0))) : Pw (fun _ => True) w (some ⟨c, 0, none⟩) 1 1 [(k, v)] := by
  refine ⟨rfl, Nat.le_refl _, by unfold maxLen; omega, fun _ => ⟨c, 0, rfl, ⟨_, _, h⟩, trivial, fun j u hu => ?_⟩⟩
  rw [Nat.zero_add, cell_of_row _ c _ _ _ _ h]
  simpa [prV, prC] using hu
theorem Pw.max {G : Nat → Prop} {w : World} {a : Option Addr} {n c : Nat} {l : List Pr} (h : Pw G w a n c l) : n ≤ c ∧ c ≤ 9223372036854775807 := by
  have h1 := h.2.1
  have h2 := h.2.2.1
  unfold maxLen at h2
  omega
theorem find_here {l : List Pr} {k : ByteArray} {i : Nat} (hlo : ∀ p ∈ l.take i, sl p.1 k = true) {p : Pr} (hp : l[i]? = some p) (hh : sl p.1 k = false) : (lowT l k).length = i ∧ isT l k = decide (p.1 = k) := by
  have hil := (List.getElem?_eq_some_iff.1 hp).1
  have hd : l.drop i = p :: l.drop (i + 1) := by
    obtain ⟨hi, e⟩ := List.getElem?_eq_some_iff.1 hp
    rw [List.drop_eq_getElem_cons hi, e]
  have := spl (X := l.take i) (Y := l.drop i) hlo (fun q hq => by
    rw [hd] at hq
    cases hq
    exact hh)
  rw [List.take_append_drop] at this
  unfold isT
  rw [this.1, this.2, hd]
  exact ⟨by rw [List.length_take]; omega, rfl⟩
theorem find_end {l : List Pr} {k : ByteArray} (hlo : ∀ p ∈ l, sl p.1 k = true) : (lowT l k).length = l.length ∧ isT l k = false := by
  have := spl (X := l) (Y := []) hlo (fun q hq => by cases hq)
  rw [List.append_nil] at this
  unfold isT
  rw [this.1, this.2]
  exact ⟨rfl, rfl⟩
theorem low_at {l : List Pr} (k : ByteArray) : l.take (lowT l k).length = lowT l k ∧ l.drop (lowT l k).length = highT l k := by
  have e := low_high l k
  conv => lhs; lhs; rhs; rw [← e]
  conv => rhs; lhs; rhs; rw [← e]
  exact ⟨List.take_left .., List.drop_left ..⟩
theorem low_le (l : List Pr) (k : ByteArray) : (lowT l k).length ≤ l.length := by
  have e := congrArg List.length (low_high l k)
  rw [List.length_append] at e
  omega
theorem low_lt_len {l : List Pr} {k : ByteArray} (h : isT l k = true) : (lowT l k).length < l.length := by
  have e := congrArg List.length (low_high l k)
  rw [List.length_append] at e
  unfold isT at h
  cases hh : highT l k with
  | nil => rw [hh] at h; simp [hasK] at h
  | cons y Y => rw [hh] at e; simp only [List.length_cons] at e; omega
theorem rest_at {l : List Pr} (k : ByteArray) : l.drop ((lowT l k).length + if isT l k then 1 else 0) = restT l k := by
  unfold restT
  cases h : isT l k with
  | true => simp only [if_true]; rw [← List.drop_drop, (low_at k).2, List.drop_one]
  | false => simp only [Bool.false_eq_true, if_false, Nat.add_zero]; exact (low_at k).2
theorem isT_at {l : List Pr} {k : ByteArray} (h : isT l k = true) : l[(lowT l k).length]? = some (k, (getT l k).getD ByteArray.empty) := by
  cases hg : getT l k with
  | none => rw [(get_none hg).1] at h; cases h
  | some v =>
    have e := (get_some hg).2
    have e2 := (low_at (l := l) k).2
    have : l[(lowT l k).length]? = (l.drop (lowT l k).length).head? := by rw [List.head?_drop]
    rw [this, e2, e]
    rfl
theorem isT_none {l : List Pr} {k : ByteArray} (h : isT l k = false) : (getT l k).getD ByteArray.empty = ByteArray.empty := by
  unfold getT
  rw [h]
  rfl
set_option maxRecDepth 100000 in
set_option maxHeartbeats 1000000 in
theorem rfind_any {G : Nat → Prop} {w : World} {a : Option Addr} {n c : Nat} {l : List Pr} (h : Pw G w a n c l) (k : ByteArray) :
    Calls Tryd.prog 59 #[.slice a n c, .string k] w fun e w' => e = .returned (.tuple #[.int .i64 ((lowT l k).length : Int), .bool (isT l k)]) ∧ Below w.heap.size w w' := by
  have hl := h.len
  have hmx := h.max
  have HA : Hid (∀ W, Below w.heap.size w W → Pw G W a n c l) := fun W hW => h.below hW
  clear h
  go_enter Tryd.func59, Tryd.ntmps59
  go_wp2
  go_loopw [6] (fun v wr => ∃ i : Nat, i ≤ n ∧ v = .int .i64 i ∧ (∀ p ∈ l.take i, sl p.1 k = true) ∧ Below w.heap.size w wr) (fun v _ => n - (intOf v).toNat)
  case atStart => exact ⟨0, by omega, rfl, fun p hp => by simp at hp, Below.refl _ _⟩
  case round =>
    obtain ⟨i, hi, rfl, hlo, hbw⟩ := hrel
    by_cases hlt : i < n
    · have kk : (i : Int) < (n : Int) := by omega
      have h1 := HA.out wr hbw
      obtain ⟨ab, ao, rfl, _, _, hc⟩ := h1.at (by omega)
      have hp : l[i]? = some l[i] := List.getElem?_eq_getElem (by omega)
      obtain ⟨⟨p1, p2⟩, hpe⟩ : ∃ p, l[i]'(by omega) = p := ⟨_, rfl⟩
      rw [hpe] at hp
      obtain ⟨c1, c2⟩ := hc i _ hp
      simp only at c1 c2
      have HE : Hid (l[i]? = some (p1, p2) ∧ (∀ p ∈ l.take i, sl p.1 k = true) ∧ Below w.heap.size w wr) := ⟨hp, hlo, hbw⟩
      clear hc hp hpe hlo hbw h1 c2
      cases hs : sl p1 k with
      | true =>
        have hs' : Op.bytesLess p1.toList k.toList = true := hs
        go_wp2
        refine ⟨⟨i + 1, by omega, by go_num, fun p hp => ?_, HE.out.2.2⟩, by simp [intOf]; omega⟩
        rw [take_snoc HE.out.1] at hp
        rcases List.mem_append.1 hp with h | h
        · exact HE.out.2.1 p h
        · rw [List.mem_singleton] at h
          rw [h]
          exact hs
      | false =>
        have hs' : Op.bytesLess p1.toList k.toList = false := hs
        have HF := find_here HE.out.2.1 HE.out.1 hs
        have HFF : Hid ((lowT l k).length = i ∧ isT l k = decide (p1 = k)) := HF
        clear HF
        by_cases hek : p1 = k
        · have hbe : (p1.toList == k.toList) = true := by rw [hek]; simp
          have HEK : Hid (p1 = k) := hek
          clear hek
          go_wp2
          go_quiet (fail)
          go_wp2
          refine bodyPost_ret (v := .tuple #[.int .i64 (i : Int), .bool true]) ?_ rfl ⟨?_, below_drewN HE.out.2.2 _⟩
          · simp [results, go_sem]
          · rw [HFF.out.1, HFF.out.2, decide_eq_true HEK.out]
        · have hbe : (p1.toList == k.toList) = false := str_nb hek
          go_wp2
          go_quiet (fail)
          go_wp2
          refine bodyPost_ret (v := .tuple #[.int .i64 (i : Int), .bool false]) ?_ rfl ⟨?_, below_drewN HE.out.2.2 _⟩
          · simp [results, go_sem]
          · rw [HFF.out.1, HFF.out.2, decide_eq_false hek]
    · obtain rfl : i = n := by omega
      have kk : ¬ (i : Int) < (i : Int) := by omega
      have HE : Hid ((lowT l k).length = l.length ∧ isT l k = false) := find_end (fun p hp => hlo p (by rw [List.take_of_length_le (by omega)]; exact hp))
      have HB : Hid (Below w.heap.size w wr) := hbw
      clear hlo hbw
      go_wp2
      refine bodyPost_ret (v := .tuple #[.int .i64 (i : Int), .bool false]) ?_ rfl ⟨?_, HB.out⟩
      · simp [results, go_sem]
      · rw [HE.out.1, HE.out.2, hl]
set_option maxRecDepth 100000 in
set_option maxHeartbeats 1000000 in
theorem rget_any {G : Nat → Prop} {w : World} {a : Option Addr} {n c : Nat} {l : List Pr} (h : Pw G w a n c l) (k : ByteArray) :
    Calls Tryd.prog 42 #[.slice a n c, .string k] w fun e w' => e = .returned (.tuple #[.string ((getT l k).getD ByteArray.empty), .bool (isT l k)]) ∧ Below w.heap.size w w' := by
  have HF := rfind_any h k
  have HA : Hid (∀ W, Below w.heap.size w W → Pw G W a n c l) := fun W hW => h.below hW
  have hl := h.len
  obtain ⟨i, hi⟩ : ∃ i, (lowT l k).length = i := ⟨_, rfl⟩
  rw [hi] at HF
  cases ht : isT l k with
  | false =>
    rw [ht] at HF
    rw [isT_none ht]
    clear h
    go_enter Tryd.func42, Tryd.ntmps42
    go_wp2_with fail
    refine HF.mono ?_
    rintro e V ⟨rfl, hb⟩
    have HB : Hid (Below w.heap.size w V) := hb
    clear HF hb
    go_wp2
    refine bodyPost_ret (v := .tuple #[.string ByteArray.empty, .bool false]) ?_ rfl ⟨rfl, HB.out⟩
    simp [results, go_sem]
    rfl
  | true =>
    rw [ht] at HF
    have hat := isT_at ht
    have hlt := low_lt_len ht
    rw [hi] at hat hlt
    obtain ⟨v, hv⟩ : ∃ v, (getT l k).getD ByteArray.empty = v := ⟨_, rfl⟩
    rw [hv] at hat ⊢
    clear h hv
    go_enter Tryd.func42, Tryd.ntmps42
    go_wp2_with fail
    refine HF.mono ?_
    rintro e V ⟨rfl, hb⟩
    obtain ⟨ab, ao, rfl, _, _, hc⟩ := (HA.out V hb).at (by omega)
    have kk : (i : Int) < (n : Int) := by omega
    obtain ⟨_, c2⟩ := hc i _ hat
    have HB : Hid (Below w.heap.size w V) := hb
    clear HF hb hc hat
    go_wp2
    refine bodyPost_ret (v := .tuple #[.string v, .bool true]) ?_ rfl ⟨rfl, HB.out⟩
    simp [results, go_sem]
set_option maxRecDepth 100000 in
set_option maxHeartbeats 2000000 in
theorem rput_any {G : Nat → Prop} {w : World} {a : Option Addr} {n c : Nat} {l : List Pr} (h : Pw G w a n c l) (hn : n ≤ 100000) (k v : ByteArray) :
    Calls Tryd.prog 43 #[.slice a n c, .string k, .string v] w fun e w' => ∃ (ra : Option Addr) (rn rc : Nat), e = .returned (.slice ra rn rc) ∧ w'.ownsRow w.heap.size 63 2 (.slice ra rn rc) rn (prV (putT l k v)) ∧ Below w.heap.size w w' := by
  have HF := rfind_any h k
  have hl := h.len
  have hmx := h.max
  have hlow := low_le l k
  have HA : Hid (∀ W, Below w.heap.size w W → Pw G W a n c l) := fun W hW => h.below hW
  obtain ⟨i, hi⟩ : ∃ i, (lowT l k).length = i := ⟨_, rfl⟩
  have HLW : Hid (l.take i = lowT l k ∧ l.drop (i + if isT l k then 1 else 0) = restT l k) := by
    show _ ∧ _
    rw [← hi]
    exact ⟨(low_at k).1, rest_at k⟩
  have hil : isT l k = true → i < n := fun ht => by have := low_lt_len ht; omega
  rw [hi] at HF hlow
  have hpre := pre_prs a n c i (by omega)
  obtain ⟨ca, hca⟩ : ∃ ca, cutA a c 0 2 = ca := ⟨_, rfl⟩
  rw [hca] at hpre
  have HC : Hid (∀ W, Below w.heap.size w W → Pw G W ca i c (l.take i)) := fun W hW => by rw [← hca]; exact (HA.out W hW).pre i (by omega)
  obtain ⟨it, hit⟩ : ∃ it, isT l k = it := ⟨_, rfl⟩
  rw [hit] at HF hil HLW
  obtain ⟨B, hB⟩ : ∃ B, w.heap.size = B := ⟨_, rfl⟩
  rw [hB] at HA HC HF ⊢
  have HPT : Hid (putT l k v = lowT l k ++ ([(k, v)] ++ restT l k)) := rfl
  clear h hca hi
  go_enter Tryd.func43, Tryd.ntmps43
  go_wp2_with fail
  refine HF.mono ?_
  rintro e V ⟨rfl, hb⟩
  have hBV : B ≤ V.heap.size := by rw [← hB]; exact hb.size
  obtain ⟨a1, c1, V1, hr1, ho1, hg1, _⟩ := addP_own (l := []) (n := 0) (c := 0) (a := none) V (World.ownsRow_nil V B 63 2) (HC.out V hb) (by omega) hBV
  rw [List.nil_append, HLW.out.1] at ho1
  rw [Nat.zero_add] at hr1 ho1
  have hb1 : Below B w V1 := hb.grown hg1 hBV (fun z hz => by cases hz)
  have hBV1 : B ≤ V1.heap.size := by rw [← hB]; exact hb1.size
  obtain ⟨V2, hV2⟩ : ∃ V2, V1.alloc (.cells #[.string k, .string v] 63) = V2 := ⟨_, rfl⟩
  have hB2 : Below V1.heap.size V1 V2 := by rw [← hV2]; exact (Below.refl _ V1).alloc (Nat.le_refl _) _
  have r2 : V2.heap[V1.heap.size]? = some (.cells #[.string k, .string v] 63 (0, 0)) := by rw [← hV2]; exact heap_alloc_new V1 _
  have ho2 := own_keep ho1 (W' := V2) (fun z hz => hB2.block z (ho1.lt z hz).2)
  have hBV2 : B ≤ V2.heap.size := Nat.le_trans hBV1 hB2.size
  have hb2 : Below B w V2 := hb1.trans (hB2.mono hBV1)
  obtain ⟨a3, c3, V3, hr3, ho3, hg3, _⟩ := addP_own V2 ho2 (pairRow r2) (by omega) hBV2
  have hb3 : Below B w V3 := hb2.grown hg3 hBV2 (fun z hz => (ho2.lt z (by rw [ob_slice]; exact hz)).1)
  have hBV3 : B ≤ V3.heap.size := by rw [← hB]; exact hb3.size
  have HO3 : Hid (V3.ownsRow B 63 2 (.slice a3 (i + 1) c3) (i + 1) (prV (lowT l k ++ [(k, v)])) ∧ Below B w V3 ∧ B ≤ V3.heap.size) := ⟨ho3, hb3, hBV3⟩
  clear HF hb ho1 hg1 hb1 hB2 r2 ho2 hb2 ho3 hg3 hb3 hBV1 hBV2
  cases it with
  | true =>
    have hin := hil rfl
    have hoff := off_prs a n c (i + 1) (by omega)
    obtain ⟨i1, hi1⟩ : ∃ i1, i + 1 = i1 := ⟨_, rfl⟩
    have ki1 : (i : Int) + 1 = (i1 : Int) := by omega
    rw [hi1] at hoff
    have hP := (HA.out V3 HO3.out.2.1).drop i1 (by omega)
    have hd : l.drop i1 = restT l k := by rw [← HLW.out.2, ← hi1]; rfl
    rw [hd] at hP
    obtain ⟨da, hda⟩ : ∃ da, cutA a c i1 2 = da := ⟨_, rfl⟩
    obtain ⟨m, hm⟩ : ∃ m, n - i1 = m := ⟨_, rfl⟩
    obtain ⟨q, hq⟩ : ∃ q, c - i1 = q := ⟨_, rfl⟩
    rw [hda, hm, hq] at hP hoff
    obtain ⟨a4, c4, V4, hr4, ho4, hg4, _⟩ := addP_own V3 HO3.out.1 hP (by omega) HO3.out.2.2
    have hb4 : Below B w V4 := HO3.out.2.1.grown hg4 HO3.out.2.2 (fun z hz => (HO3.out.1.lt z (by rw [ob_slice]; exact hz)).1)
    have HE : Hid (V4.ownsRow B 63 2 (.slice a4 (i + 1 + m) c4) (i + 1 + m) (prV (putT l k v)) ∧ Below B w V4) := ⟨by rw [HPT.out, ← List.append_assoc]; exact ho4, hb4⟩
    clear hP hd hda hm hq ho4 hg4 hb4 hi1
    go_wp2_with ((at_builtin; first | refine wpList_app V rfl _ _ _ _ rfl rfl rfl (hr1 _) ?_ | refine wpList_app V2 rfl _ _ _ _ rfl rfl rfl (hr3 _) ?_ | refine wpList_app V3 rfl _ _ _ _ rfl rfl rfl (hr4 _) ?_))
    go_ret
    exact ⟨_, _, _, rfl, HE.out.1, HE.out.2⟩
  | false =>
    have hoff := off_prs a n c i (by omega)
    have hP := (HA.out V3 HO3.out.2.1).drop i (by omega)
    have hd : l.drop i = restT l k := by rw [← HLW.out.2]; rfl
    rw [hd] at hP
    obtain ⟨da, hda⟩ : ∃ da, cutA a c i 2 = da := ⟨_, rfl⟩
    obtain ⟨m, hm⟩ : ∃ m, n - i = m := ⟨_, rfl⟩
    obtain ⟨q, hq⟩ : ∃ q, c - i = q := ⟨_, rfl⟩
    rw [hda, hm, hq] at hP hoff
    obtain ⟨a4, c4, V4, hr4, ho4, hg4, _⟩ := addP_own V3 HO3.out.1 hP (by omega) HO3.out.2.2
    have hb4 : Below B w V4 := HO3.out.2.1.grown hg4 HO3.out.2.2 (fun z hz => (HO3.out.1.lt z (by rw [ob_slice]; exact hz)).1)
    have HE : Hid (V4.ownsRow B 63 2 (.slice a4 (i + 1 + m) c4) (i + 1 + m) (prV (putT l k v)) ∧ Below B w V4) := ⟨by rw [HPT.out, ← List.append_assoc]; exact ho4, hb4⟩
    clear hP hd hda hm hq ho4 hg4 hb4
    go_wp2_with ((at_builtin; first | refine wpList_app V rfl _ _ _ _ rfl rfl rfl (hr1 _) ?_ | refine wpList_app V2 rfl _ _ _ _ rfl rfl rfl (hr3 _) ?_ | refine wpList_app V3 rfl _ _ _ _ rfl rfl rfl (hr4 _) ?_))
    go_ret
    exact ⟨_, _, _, rfl, HE.out.1, HE.out.2⟩
end Go.Proofs.YtjpkngbjjgimjaaDoor
