/- The document's table: Drop, Range, Size. -/
import Derived.Test.YtjpkngbjjgimjaaDoorTD
namespace Go.Proofs.YtjpkngbjjgimjaaDoor
open Go.RowKit
set_option maxRecDepth 100000 in
set_option maxHeartbeats 2000000 in
theorem rdrop_any {G : Nat → Prop} {w : World} {a : Option Addr} {n c : Nat} {l : List Pr} (h : Pw G w a n c l) (hn : n ≤ 100000) (k : ByteArray) :
    Calls Tryd.prog 95 #[.slice a n c, .string k] w fun e w' => ((isT l k = false ∧ e = .returned (.tuple #[.slice a n c, .bool false])) ∨ (isT l k = true ∧ ∃ (ra : Option Addr) (rn rc : Nat), e = .returned (.tuple #[.slice ra rn rc, .bool true]) ∧ w'.ownsRow w.heap.size 63 2 (.slice ra rn rc) rn (prV (dropT l k)))) ∧ Below w.heap.size w w' := by
  have HF := rfind_any h k
  have hl := h.len
  have hmx := h.max
  have hlow := low_le l k
  have HA : Hid (∀ W, Below w.heap.size w W → Pw G W a n c l) := fun W hW => h.below hW
  obtain ⟨i, hi⟩ : ∃ i, (lowT l k).length = i := ⟨_, rfl⟩
  have HLW : Hid (l.take i = lowT l k ∧ l.drop (i + if isT l k then 1 else 0) = restT l k) := by
    show _ ∧ _
    rw [← hi]
    exact ⟨(low_at k).1, rest_at k⟩
  have hil : isT l k = true → i < n := fun ht => by have := low_lt_len ht; omega
  rw [hi] at HF hlow
  obtain ⟨it, hit⟩ : ∃ it, isT l k = it := ⟨_, rfl⟩
  have HIT : Hid (isT l k = it) := hit
  rw [hit] at HF hil HLW
  clear hit
  obtain ⟨B, hB⟩ : ∃ B, w.heap.size = B := ⟨_, rfl⟩
  rw [hB] at HA HF ⊢
  cases it with
  | false =>
    clear h hi hil
    go_enter Tryd.func95, Tryd.ntmps95
    go_wp2_with fail
    refine HF.mono ?_
    rintro e V ⟨rfl, hb⟩
    have HB : Hid (Below B w V) := hb
    clear HF hb
    go_wp2
    refine bodyPost_ret (v := .tuple #[.slice a n c, .bool false]) ?_ rfl ⟨.inl ⟨HIT.out, rfl⟩, HB.out⟩
    simp [results, go_sem]
  | true =>
    have hin := hil rfl
    have hpre := pre_prs a n c i (by omega)
    obtain ⟨ca, hca⟩ : ∃ ca, cutA a c 0 2 = ca := ⟨_, rfl⟩
    rw [hca] at hpre
    have HC : Hid (∀ W, Below B w W → Pw G W ca i c (l.take i)) := fun W hW => by rw [← hca]; exact (HA.out W hW).pre i (by omega)
    have hoff := off_prs a n c (i + 1) (by omega)
    obtain ⟨i1, hi1⟩ : ∃ i1, i + 1 = i1 := ⟨_, rfl⟩
    have ki1 : (i : Int) + 1 = (i1 : Int) := by omega
    rw [hi1] at hoff
    have hd : l.drop i1 = restT l k := by rw [← HLW.out.2, ← hi1]; rfl
    obtain ⟨da, hda⟩ : ∃ da, cutA a c i1 2 = da := ⟨_, rfl⟩
    obtain ⟨m, hm⟩ : ∃ m, n - i1 = m := ⟨_, rfl⟩
    obtain ⟨q, hq⟩ : ∃ q, c - i1 = q := ⟨_, rfl⟩
    have HD : Hid (∀ W, Below B w W → Pw G W da m q (restT l k)) := fun W hW => by
      have := (HA.out W hW).drop i1 (by omega)
      rw [hda, hm, hq, hd] at this
      exact this
    rw [hda, hm, hq] at hoff
    clear h hca hi hil hi1 hd hda hq
    go_enter Tryd.func95, Tryd.ntmps95
    go_wp2_with fail
    refine HF.mono ?_
    rintro e V ⟨rfl, hb⟩
    have hBV : B ≤ V.heap.size := by rw [← hB]; exact hb.size
    obtain ⟨a1, c1, V1, hr1, ho1, hg1, _⟩ := addP_own (l := []) (n := 0) (c := 0) (a := none) V (World.ownsRow_nil V B 63 2) (HC.out V hb) (by omega) hBV
    rw [List.nil_append, HLW.out.1] at ho1
    rw [Nat.zero_add] at hr1 ho1
    have hb1 : Below B w V1 := hb.grown hg1 hBV (fun z hz => by cases hz)
    have hBV1 : B ≤ V1.heap.size := by rw [← hB]; exact hb1.size
    obtain ⟨a3, c3, V3, hr3, ho3, hg3, _⟩ := addP_own V1 ho1 (HD.out V1 hb1) (by omega) hBV1
    have hb3 : Below B w V3 := hb1.grown hg3 hBV1 (fun z hz => (ho1.lt z (by rw [ob_slice]; exact hz)).1)
    have HE : Hid (V3.ownsRow B 63 2 (.slice a3 (i + m) c3) (i + m) (prV (dropT l k)) ∧ Below B w V3) := ⟨ho3, hb3⟩
    clear HF hb ho1 hg1 hb1 ho3 hg3 hb3 hBV1 hm
    go_wp2_with ((at_builtin; first | refine wpList_app V rfl _ _ _ _ rfl rfl rfl (hr1 _) ?_ | refine wpList_app V1 rfl _ _ _ _ rfl rfl rfl (hr3 _) ?_))
    refine bodyPost_ret (v := .tuple #[.slice a3 (i + m) c3, .bool true]) ?_ rfl ⟨.inr ⟨HIT.out, _, _, _, rfl, HE.out.1⟩, HE.out.2⟩
    simp [results, go_sem]
theorem range_step {l : List Pr} {i : Nat} {p : Pr} (hp : l[i]? = some p) (f t : ByteArray) (m : Int) :
    rangeT (l.take (i + 1)) f t m = if (!sl p.1 f && !sl t p.1) = true ∧ ((rangeT (l.take i) f t m).length : Int) < m then rangeT (l.take i) f t m ++ [p] else rangeT (l.take i) f t m := by
  unfold rangeT
  rw [take_snoc hp, List.filter_append]
  generalize (l.take i).filter (fun p => !sl p.1 f && !sl t p.1) = X
  cases hq : (!sl p.1 f && !sl t p.1) with
  | false =>
    rw [if_neg (by simp)]
    have : [p].filter (fun p => !sl p.1 f && !sl t p.1) = [] := by simp [hq]
    rw [this, List.append_nil]
  | true =>
    have : [p].filter (fun p => !sl p.1 f && !sl t p.1) = [p] := by simp [hq]
    rw [this]
    by_cases h : ((X.take m.toNat).length : Int) < m
    · rw [if_pos ⟨rfl, h⟩]
      rw [List.length_take] at h
      rw [List.take_of_length_le (by rw [List.length_append, List.length_singleton]; omega), List.take_of_length_le (by omega)]
    · rw [if_neg (fun e => h e.2)]
      rw [List.length_take] at h
      rw [List.take_append_of_le_length (by omega)]
set_option maxRecDepth 100000 in
set_option maxHeartbeats 4000000 in
theorem rrange_any {G : Nat → Prop} {w : World} {a : Option Addr} {n c : Nat} {l : List Pr} (h : Pw G w a n c l) (hn : n ≤ 100000) (f t : ByteArray) (mo : Int) :
    Calls Tryd.prog 96 #[.slice a n c, .string f, .string t, .int .i64 mo] w fun e w' => ∃ (ra : Option Addr) (rn rc : Nat), e = .returned (.slice ra rn rc) ∧ w'.ownsRow w.heap.size 63 2 (.slice ra rn rc) rn (prV (rangeT l f t mo)) ∧ Below w.heap.size w w' := by
  have hl := h.len
  have HA : Hid (∀ W, Below w.heap.size w W → Pw G W a n c l) := fun W hW => h.below hW
  obtain ⟨B, hB⟩ : ∃ B, w.heap.size = B := ⟨_, rfl⟩
  rw [hB] at HA ⊢
  clear h
  go_enter Tryd.func96, Tryd.ntmps96
  go_wp2
  go_loopw [9, 10] (fun vl vi wr => ∃ (i ln lc : Nat) (la : Option Addr), i ≤ n ∧ vi = .int .i64 i ∧ vl = .slice la ln lc ∧ wr.ownsRow B 63 2 (.slice la ln lc) ln (prV (rangeT (l.take i) f t mo)) ∧ Below B w wr) (fun _ vi _ => n - (intOf vi).toNat)
  case atStart => exact ⟨0, 0, 0, none, by omega, rfl, rfl, by rw [show rangeT (l.take 0) f t mo = [] by simp [rangeT]]; exact World.ownsRow_nil _ _ _ _, by rw [← hB]; exact Below.refl _ _⟩
  case round =>
    obtain ⟨i, ln, lc, la, hi, rfl, rfl, hown, hbw⟩ := hrel
    by_cases hlt : i < n
    · have kk : (i : Int) < (n : Int) := by omega
      have hp : l[i]? = some l[i] := List.getElem?_eq_getElem (by omega)
      obtain ⟨⟨p1, p2⟩, hpe⟩ : ∃ p, l[i]'(by omega) = p := ⟨_, rfl⟩
      rw [hpe] at hp
      have h1 := HA.out wr hbw
      obtain ⟨ab, ao, rfl, _, _, hc⟩ := h1.at (by omega)
      obtain ⟨c1, c2⟩ := hc i _ hp
      simp only at c1 c2
      have hst := range_step hp f t mo
      simp only at hst
      have hll : (rangeT (l.take i) f t mo).length = ln := by
        have := hown.1
        unfold prV at this
        rw [fm_len prC_len] at this
        omega
      rw [hll] at hst
      have hlnb : ln ≤ 100000 := by
        rw [← hll]
        unfold rangeT
        rw [List.length_take]
        have := List.length_filter_le (fun p : Pr => !sl p.1 f && !sl t p.1) (l.take i)
        rw [List.length_take] at this
        omega
      obtain ⟨R, hR⟩ : ∃ R, rangeT (l.take i) f t mo = R := ⟨_, rfl⟩
      rw [hR] at hst hown
      have HST : Hid (rangeT (l.take (i + 1)) f t mo = if (!sl p1 f && !sl t p1) = true ∧ (ln : Int) < mo then R ++ [(p1, p2)] else R) := hst
      have HOW : Hid (wr.ownsRow B 63 2 (.slice la ln lc) ln (prV R) ∧ Below B w wr ∧ B ≤ wr.heap.size) := ⟨hown, hbw, by rw [← hB]; exact hbw.size⟩
      have hle := leq_sl p1 t
      clear hc hp hpe hst hll hR hown hbw h1
      cases hf : sl p1 f with
      | true =>
        have hf' : Op.bytesLess p1.toList f.toList = true := hf
        go_wp2
        refine ⟨⟨i + 1, ln, lc, la, by omega, by go_num, rfl, ?_, HOW.out.2.1⟩, by simp [intOf]; omega⟩
        rw [HST.out, hf, if_neg (by simp)]
        exact HOW.out.1
      | false =>
        have hf' : Op.bytesLess p1.toList f.toList = false := hf
        cases hto : sl t p1 with
        | true =>
          rw [hto] at hle
          go_wp2
          refine ⟨⟨i + 1, ln, lc, la, by omega, by go_num, rfl, ?_, HOW.out.2.1⟩, by simp [intOf]; omega⟩
          rw [HST.out, hto, if_neg (by simp)]
          exact HOW.out.1
        | false =>
          rw [hto] at hle
          by_cases hmo : (ln : Int) < mo
          · obtain ⟨V3, hV3⟩ : ∃ V3, wr.alloc (.cells #[.string p1, .string p2] 63) = V3 := ⟨_, rfl⟩
            have hB3 : Below wr.heap.size wr V3 := by rw [← hV3]; exact (Below.refl _ wr).alloc (Nat.le_refl _) _
            have r3 : V3.heap[wr.heap.size]? = some (.cells #[.string p1, .string p2] 63 (0, 0)) := by rw [← hV3]; exact heap_alloc_new wr _
            have ho3 := own_keep HOW.out.1 (W' := V3) (fun z hz => hB3.block z (HOW.out.1.lt z hz).2)
            obtain ⟨aA, cA, VA, hrA, hoA, hgA, _⟩ := addP_own V3 ho3 (pairRow r3) (by omega) (Nat.le_trans HOW.out.2.2 hB3.size)
            have HE : Hid (VA.ownsRow B 63 2 (.slice aA (ln + 1) cA) (ln + 1) (prV (R ++ [(p1, p2)])) ∧ Below B w VA) :=
              ⟨hoA, (HOW.out.2.1.trans (hB3.mono HOW.out.2.2)).grown hgA (Nat.le_trans HOW.out.2.2 hB3.size) (fun z hz => (ho3.lt z (by rw [ob_slice]; exact hz)).1)⟩
            clear hB3 r3 ho3 hoA hgA
            go_wp2_with (at_builtin; refine wpList_app V3 rfl _ _ _ _ rfl rfl rfl (hrA _) ?_)
            refine ⟨⟨i + 1, ln + 1, cA, aA, by omega, by go_num, rfl, ?_, HE.out.2⟩, by simp [intOf]; omega⟩
            rw [HST.out, hf, hto, if_pos ⟨rfl, hmo⟩]
            exact HE.out.1
          · go_wp2
            refine ⟨⟨i + 1, ln, lc, la, by omega, by go_num, rfl, ?_, HOW.out.2.1⟩, by simp [intOf]; omega⟩
            rw [HST.out, if_neg (fun e => hmo e.2)]
            exact HOW.out.1
    · obtain rfl : i = n := by omega
      have kk : ¬ (i : Int) < (i : Int) := by omega
      have HE : Hid (wr.ownsRow B 63 2 (.slice la ln lc) ln (prV (rangeT l f t mo)) ∧ Below B w wr) := ⟨by rw [List.take_of_length_le (by omega)] at hown; exact hown, hbw⟩
      clear hown hbw
      go_wp2
      go_ret
      exact ⟨la, ln, lc, rfl, HE.out.1, HE.out.2⟩
end Go.Proofs.YtjpkngbjjgimjaaDoor
