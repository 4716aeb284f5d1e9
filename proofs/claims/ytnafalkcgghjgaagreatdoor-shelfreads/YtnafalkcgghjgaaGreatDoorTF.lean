/- The document's table: Drop, Range, Size. A table that stays as it is, as the statements ask it. -/
import Derived.Test.YtnafalkcgghjgaaGreatDoorTD
import Derived.Test.YtnafalkcgghjgaaGreatDoorTA
namespace Go.Proofs.YtnafalkcgghjgaaGreatDoor
open Go.RowKit
set_option maxRecDepth 100000 in
set_option maxHeartbeats 2000000 in
theorem rdrop_any {G : Nat → Prop} {w : World} {a : Option Addr} {n c : Nat} {l : List Pr} (h : Pw G w a n c l) (hn : n ≤ 100000) (k : ByteArray) :
    Calls Tryz.prog 13 #[.slice a n c, .string k] w fun e w' => ((isT l k = false ∧ e = .returned (.tuple #[.slice a n c, .bool false])) ∨ (isT l k = true ∧ ∃ (ra : Option Addr) (rn rc : Nat), e = .returned (.tuple #[.slice ra rn rc, .bool true]) ∧ w'.ownsRow w.heap.size 63 2 (.slice ra rn rc) rn (prV (dropT l k)))) ∧ Below w.heap.size w w' := by
  have HF := rfind_any h k
  have hl := h.len
  have hmx := h.max
  have hlow := low_le l k
  have HA : Hid (∀ W, Below w.heap.size w W → Pw G W a n c l) := fun W hW => h.below hW
  obtain ⟨i, hi⟩ : ∃ i, (lowT l k).length = i := ⟨_, rfl⟩
  have HLW : Hid (l.take i = lowT l k ∧ l.drop (i + if isT l k then 1 else 0) = restT l k) := by
    show _ ∧ _
    rw [← hi]
    exact ⟨(low_at k).1, rest_at k⟩
  have hil : isT l k = true → i < n := fun ht => by have := low_lt_len ht; omega
  rw [hi] at HF hlow
  obtain ⟨it, hit⟩ : ∃ it, isT l k = it := ⟨_, rfl⟩
  have HIT : Hid (isT l k = it) := hit
  rw [hit] at HF hil HLW
  clear hit
  obtain ⟨B, hB⟩ : ∃ B, w.heap.size = B := ⟨_, rfl⟩
  rw [hB] at HA HF ⊢
  cases it with
  | false =>
    clear h hi hil
    go_enter Tryz.func13, Tryz.ntmps13
    go_wp2_with fail
    refine HF.mono ?_
    rintro e V ⟨rfl, hb⟩
    have HB : Hid (Below B w V) := hb
    clear HF hb
    go_wp2
    refine bodyPost_ret (v := .tuple #[.slice a n c, .bool false]) ?_ rfl ⟨.inl ⟨HIT.out, rfl⟩, HB.out⟩
    simp [results, go_sem]
  | true =>
    have hin := hil rfl
    have hpre := pre_prs a n c i (by omega)
    obtain ⟨ca, hca⟩ : ∃ ca, cutA a c 0 2 = ca := ⟨_, rfl⟩
    rw [hca] at hpre
    have HC : Hid (∀ W, Below B w W → Pw G W ca i c (l.take i)) := fun W hW => by rw [← hca]; exact (HA.out W hW).pre i (by omega)
    have hoff := off_prs a n c (i + 1) (by omega)
    obtain ⟨i1, hi1⟩ : ∃ i1, i + 1 = i1 := ⟨_, rfl⟩
    have ki1 : (i : Int) + 1 = (i1 : Int) := by omega
    rw [hi1] at hoff
    have hd : l.drop i1 = restT l k := by rw [← HLW.out.2, ← hi1]; rfl
    obtain ⟨da, hda⟩ : ∃ da, cutA a c i1 2 = da := ⟨_, rfl⟩
    obtain ⟨m, hm⟩ : ∃ m, n - i1 = m := ⟨_, rfl⟩
    obtain ⟨q, hq⟩ : ∃ q, c - i1 = q := ⟨_, rfl⟩
    have HD : Hid (∀ W, Below B w W → Pw G W da m q (restT l k)) := fun W hW => by
      have := (HA.out W hW).drop i1 (by omega)
      rw [hda, hm, hq, hd] at this
      exact this
    rw [hda, hm, hq] at hoff
    clear h hca hi hil hi1 hd hda hq
    go_enter Tryz.func13, Tryz.ntmps13
    go_wp2_with fail
    refine HF.mono ?_
    rintro e V ⟨rfl, hb⟩
    have hBV : B ≤ V.heap.size := by rw [← hB]; exact hb.size
    obtain ⟨a1, c1, V1, hr1, ho1, hg1, _⟩ := addP_own (l := []) (n := 0) (c := 0) (a := none) V (World.ownsRow_nil V B 63 2) (HC.out V hb) (by omega) hBV
    rw [List.nil_append, HLW.out.1] at ho1
    rw [Nat.zero_add] at hr1 ho1
    have hb1 : Below B w V1 := hb.grown hg1 hBV (fun z hz => by cases hz)
    have hBV1 : B ≤ V1.heap.size := by rw [← hB]; exact hb1.size
    obtain ⟨a3, c3, V3, hr3, ho3, hg3, _⟩ := addP_own V1 ho1 (HD.out V1 hb1) (by omega) hBV1
    have hb3 : Below B w V3 := hb1.grown hg3 hBV1 (fun z hz => (ho1.lt z (by rw [ob_slice]; exact hz)).1)
    have HE : Hid (V3.ownsRow B 63 2 (.slice a3 (i + m) c3) (i + m) (prV (dropT l k)) ∧ Below B w V3) := ⟨ho3, hb3⟩
    clear HF hb ho1 hg1 hb1 ho3 hg3 hb3 hBV1 hm
    go_wp2_with ((at_builtin; first | refine wpList_app V rfl _ _ _ _ rfl rfl rfl (hr1 _) ?_ | refine wpList_app V1 rfl _ _ _ _ rfl rfl rfl (hr3 _) ?_))
    refine bodyPost_ret (v := .tuple #[.slice a3 (i + m) c3, .bool true]) ?_ rfl ⟨.inr ⟨HIT.out, _, _, _, rfl, HE.out.1⟩, HE.out.2⟩
    simp [results, go_sem]
theorem range_step {l : List Pr} {i : Nat} {p : Pr} (hp : l[i]? = some p) (f t : ByteArray) (m : Int) :
    rangeT (l.take (i + 1)) f t m = if (!sl p.1 f && !sl t p.1) = true ∧ ((rangeT (l.take i) f t m).length : Int) < m then rangeT (l.take i) f t m ++ [p] else rangeT (l.take i) f t m := by
  unfold rangeT
  rw [take_snoc hp, List.filter_append]
  generalize (l.take i).filter (fun p => !sl p.1 f && !sl t p.1) = X
  cases hq : (!sl p.1 f && !sl t p.1) with
  | false =>
    rw [if_neg (by simp)]
    have : [p].filter (fun p => !sl p.1 f && !sl t p.1) = [] := by simp [hq]
    rw [this, List.append_nil]
  | true =>
    have : [p].filter (fun p => !sl p.1 f && !sl t p.1) = [p] := by simp [hq]
    rw [this]
    by_cases h : ((X.take m.toNat).length : Int) < m
    · rw [if_pos ⟨rfl, h⟩]
      rw [List.length_take] at h
      rw [List.take_of_length_le (by rw [List.length_append, List.length_singleton]; omega), List.take_of_length_le (by omega)]
    · rw [if_neg (fun e => h e.2)]
      rw [List.length_take] at h
      rw [List.take_append_of_le_length (by omega)]
set_option maxRecDepth 100000 in
set_option maxHeartbeats 4000000 in
theorem rrange_any {G : Nat → Prop} {w : World} {a : Option Addr} {n c : Nat} {l : List Pr} (h : Pw G w a n c l) (hn : n ≤ 100000) (f t : ByteArray) (mo : Int) :
    Calls Tryz.prog 19 #[.slice a n c, .string f, .string t, .int .i64 mo] w fun e w' => ∃ (ra : Option Addr) (rn rc : Nat), e = .returned (.slice ra rn rc) ∧ w'.ownsRow w.heap.size 63 2 (.slice ra rn rc) rn (prV (rangeT l f t mo)) ∧ Below w.heap.size w w' := by
  have hl := h.len
  have HA : Hid (∀ W, Below w.heap.size w W → Pw G W a n c l) := fun W hW => h.below hW
  obtain ⟨B, hB⟩ : ∃ B, w.heap.size = B := ⟨_, rfl⟩
  rw [hB] at HA ⊢
  clear h
  go_enter Tryz.func19, Tryz.ntmps19
  go_wp2
  go_loopw [9, 10] (fun vl vi wr => ∃ (i ln lc : Nat) (la : Option Addr), i ≤ n ∧ vi = .int .i64 i ∧ vl = .slice la ln lc ∧ wr.ownsRow B 63 2 (.slice la ln lc) ln (prV (rangeT (l.take i) f t mo)) ∧ Below B w wr) (fun _ vi _ => n - (intOf vi).toNat)
  case atStart => exact ⟨0, 0, 0, none, by omega, rfl, rfl, by rw [show rangeT (l.take 0) f t mo = [] by simp [rangeT]]; exact World.ownsRow_nil _ _ _ _, by rw [← hB]; exact Below.refl _ _⟩
  case round =>
    obtain ⟨i, ln, lc, la, hi, rfl, rfl, hown, hbw⟩ := hrel
    by_cases hlt : i < n
    · have kk : (i : Int) < (n : Int) := by omega
      have hp : l[i]? = some l[i] := List.getElem?_eq_getElem (by omega)
      obtain ⟨⟨p1, p2⟩, hpe⟩ : ∃ p, l[i]'(by omega) = p := ⟨_, rfl⟩
      rw [hpe] at hp
      have h1 := HA.out wr hbw
      obtain ⟨ab, ao, rfl, _, _, hc⟩ := h1.at (by omega)
      obtain ⟨c1, c2⟩ := hc i _ hp
      simp only at c1 c2
      have hst := range_step hp f t mo
      simp only at hst
      have hll : (rangeT (l.take i) f t mo).length = ln := by
        have := hown.1
        unfold prV at this
        rw [fm_len prC_len] at this
        omega
      rw [hll] at hst
      have hlnb : ln ≤ 100000 := by
        rw [← hll]
        unfold rangeT
        rw [List.length_take]
        have := List.length_filter_le (fun p : Pr => !sl p.1 f && !sl t p.1) (l.take i)
        rw [List.length_take] at this
        omega
      obtain ⟨R, hR⟩ : ∃ R, rangeT (l.take i) f t mo = R := ⟨_, rfl⟩
      rw [hR] at hst hown
      have HST : Hid (rangeT (l.take (i + 1)) f t mo = if (!sl p1 f && !sl t p1) = true ∧ (ln : Int) < mo then R ++ [(p1, p2)] else R) := hst
      have HOW : Hid (wr.ownsRow B 63 2 (.slice la ln lc) ln (prV R) ∧ Below B w wr ∧ B ≤ wr.heap.size) := ⟨hown, hbw, by rw [← hB]; exact hbw.size⟩
      have hle := leq_sl p1 t
      clear hc hp hpe hst hll hR hown hbw h1
      cases hf : sl p1 f with
      | true =>
        have hf' : Op.bytesLess p1.toList f.toList = true := hf
        go_wp2
        refine ⟨⟨i + 1, ln, lc, la, by omega, by go_num, rfl, ?_, HOW.out.2.1⟩, by simp [intOf]; omega⟩
        rw [HST.out, hf, if_neg (by simp)]
        exact HOW.out.1
      | false =>
        have hf' : Op.bytesLess p1.toList f.toList = false := hf
        cases hto : sl t p1 with
        | true =>
          rw [hto] at hle
          go_wp2
          refine ⟨⟨i + 1, ln, lc, la, by omega, by go_num, rfl, ?_, HOW.out.2.1⟩, by simp [intOf]; omega⟩
          rw [HST.out, hto, if_neg (by simp)]
          exact HOW.out.1
        | false =>
          rw [hto] at hle
          by_cases hmo : (ln : Int) < mo
          · obtain ⟨V3, hV3⟩ : ∃ V3, wr.alloc (.cells #[.string p1, .string p2] 63) = V3 := ⟨_, rfl⟩
            have hB3 : Below wr.heap.size wr V3 := by rw [← hV3]; exact (Below.refl _ wr).alloc (Nat.le_refl _) _
            have r3 : V3.heap[wr.heap.size]? = some (.cells #[.string p1, .string p2] 63 (0, 0)) := by rw [← hV3]; exact heap_alloc_new wr _
            have ho3 := own_keep HOW.out.1 (W' := V3) (fun z hz => hB3.block z (HOW.out.1.lt z hz).2)
            obtain ⟨aA, cA, VA, hrA, hoA, hgA, _⟩ := addP_own V3 ho3 (pairRow r3) (by omega) (Nat.le_trans HOW.out.2.2 hB3.size)
            have HE : Hid (VA.ownsRow B 63 2 (.slice aA (ln + 1) cA) (ln + 1) (prV (R ++ [(p1, p2)])) ∧ Below B w VA) :=
              ⟨hoA, (HOW.out.2.1.trans (hB3.mono HOW.out.2.2)).grown hgA (Nat.le_trans HOW.out.2.2 hB3.size) (fun z hz => (ho3.lt z (by rw [ob_slice]; exact hz)).1)⟩
            clear hB3 r3 ho3 hoA hgA
            go_wp2_with (at_builtin; refine wpList_app V3 rfl _ _ _ _ rfl rfl rfl (hrA _) ?_)
            refine ⟨⟨i + 1, ln + 1, cA, aA, by omega, by go_num, rfl, ?_, HE.out.2⟩, by simp [intOf]; omega⟩
            rw [HST.out, hf, hto, if_pos ⟨rfl, hmo⟩]
            exact HE.out.1
          · go_wp2
            refine ⟨⟨i + 1, ln, lc, la, by omega, by go_num, rfl, ?_, HOW.out.2.1⟩, by simp [intOf]; omega⟩
            rw [HST.out, if_neg (fun e => hmo e.2)]
            exact HOW.out.1
    · obtain rfl : i = n := by omega
      have kk : ¬ (i : Int) < (i : Int) := by omega
      have HE : Hid (wr.ownsRow B 63 2 (.slice la ln lc) ln (prV (rangeT l f t mo)) ∧ Below B w wr) := ⟨by rw [List.take_of_length_le (by omega)] at hown; exact hown, hbw⟩
      clear hown hbw
      go_wp2
      go_ret
      exact ⟨la, ln, lc, rfl, HE.out.1, HE.out.2⟩
set_option maxRecDepth 100000 in
set_option maxHeartbeats 1000000 in
theorem rsize_any {G : Nat → Prop} {w : World} {a : Option Addr} {n c : Nat} {l : List Pr} (h : Pw G w a n c l) (hz : szL l ≤ 1000000000000) :
    Calls Tryz.prog 25 #[.slice a n c] w fun e w' => e = .returned (.int .i64 (szL l : Int)) ∧ Below w.heap.size w w' := by
  have hl := h.len
  have hmx := h.max
  have HA : Hid (∀ W, Below w.heap.size w W → Pw G W a n c l) := fun W hW => h.below hW
  have HZ : Hid (∀ i, szL (l.take i) ≤ 1000000000000) := fun i => by
    have := sz_take_drop l i
    omega
  clear h
  go_enter Tryz.func25, Tryz.ntmps25
  go_wp2
  go_loopw [3, 4] (fun vs v wr => ∃ i : Nat, i ≤ n ∧ v = .int .i64 i ∧ vs = .int .i64 (szL (l.take i) : Int) ∧ Below w.heap.size w wr) (fun _ v _ => n - (intOf v).toNat)
  case atStart => exact ⟨0, by omega, rfl, by simp [szL], Below.refl _ _⟩
  case round =>
    obtain ⟨i, hi, rfl, rfl, hbw⟩ := hrel
    by_cases hlt : i < n
    · have kk : (i : Int) < (n : Int) := by omega
      have hp : l[i]? = some l[i] := List.getElem?_eq_getElem (by omega)
      obtain ⟨⟨p1, p2⟩, hpe⟩ : ∃ p, l[i]'(by omega) = p := ⟨_, rfl⟩
      rw [hpe] at hp
      have h1 := HA.out wr hbw
      obtain ⟨ab, ao, rfl, _, _, hc⟩ := h1.at (by omega)
      obtain ⟨c1, c2⟩ := hc i _ hp
      simp only at c1 c2
      have hsu := sz_take_succ hp
      simp only [eSz] at hsu
      have hzi := HZ.out i
      have hzi1 := HZ.out (i + 1)
      obtain ⟨z, hz0⟩ : ∃ z, szL (l.take i) = z := ⟨_, rfl⟩
      rw [hz0] at hsu hzi ⊢
      have HS : Hid (szL (l.take (i + 1)) = z + (3 + p1.size + p2.size)) := hsu
      have hb1 : z + 3 + p1.size + p2.size ≤ 1000000000000 := by omega
      have HB : Hid (Below w.heap.size w wr) := hbw
      clear hc hp hpe hsu hzi hzi1 hz0 hbw h1
      go_wp2
      go_quiet (fail)
      go_wp2
      refine ⟨⟨i + 1, by omega, by go_num, ?_, below_drewN HB.out _⟩, by simp [intOf]; omega⟩
      rw [HS.out]
      congr 1
      omega
    · obtain rfl : i = n := by omega
      have kk : ¬ (i : Int) < (i : Int) := by omega
      have HB : Hid (Below w.heap.size w wr) := hbw
      have hfull : l.take i = l := List.take_of_length_le (by omega)
      rw [hfull]
      clear hbw hfull
      go_wp2
      go_ret
      exact ⟨rfl, HB.out⟩
end Go.Proofs.YtnafalkcgghjgaaGreatDoor
namespace Go.Proofs.YtnafalkcgghjgaaGreatDoor
open Go.ChangeShapes Go.WideShapes Go.ChangeAt Go.RowKit Go.Shelf
/-- A table with these leaves, beside what was there ahead. -/
def Kp (w0 V : World) (S : Nat → Prop) (g : Nat) (D : Dk) (sb jb n : Nat) (L KK : List Mf) : Prop := (∃ F, Tab w0.heap.size F V S g D sb jb n L KK) ∧ Below w0.heap.size w0 V
theorem Kp.below {w0 V V' : World} {S : Nat → Prop} {g : Nat} {D : Dk} {sb jb n : Nat} {L KK : List Mf} (h : Kp w0 V S g D sb jb n L KK) (hb : Below V.heap.size V V') : Kp w0 V' S g D sb jb n L KK := by
  obtain ⟨⟨F, ht⟩, h0⟩ := h
  exact ⟨⟨_, ht.below hb⟩, h0.trans (hb.mono h0.size)⟩
theorem Kp.drewN {w0 V : World} {S : Nat → Prop} {g : Nat} {D : Dk} {sb jb n : Nat} {L KK : List Mf} (h : Kp w0 V S g D sb jb n L KK) (m : Nat) : Kp w0 (V.drewN m) S g D sb jb n L KK := h.below (below_drewN (Below.refl _ _) m)
theorem Kp.drew {w0 V : World} {S : Nat → Prop} {g : Nat} {D : Dk} {sb jb n : Nat} {L KK : List Mf} (h : Kp w0 V S g D sb jb n L KK) : Kp w0 V.drew S g D sb jb n L KK := h.below (Below.refl _ _).drew
theorem Kp.shape {w0 V : World} {S : Nat → Prop} {g : Nat} {D : Dk} {sb jb n : Nat} {L KK : List Mf} (h : Kp w0 V S g D sb jb n L KK) : Shape n (lfs L) := by
  obtain ⟨⟨F, ht⟩, _⟩ := h
  exact ht.shL
theorem Kp.total {w0 V : World} {S : Nat → Prop} {g : Nat} {D : Dk} {sb jb n : Nat} {L KK : List Mf} (h : Kp w0 V S g D sb jb n L KK) : szL (flat (lfs L)) ≤ 20000 ∧ (flat (lfs L)).length ≤ 20000 := by
  obtain ⟨⟨F, ht⟩, _⟩ := h
  exact ht.total
theorem own_pw {w : World} {base : Nat} {a : Option Addr} {n c : Nat} {l : List Pr} (h : w.ownsRow base 63 2 (.slice a n c) n (prV l)) : Pw (fun _ => True) w a n c l := Rw.own h (fun _ _ => trivial)
theorem kp_range {w0 V : World} {S : Nat → Prop} {g : Nat} {D : Dk} {sb jb n : Nat} {L KK : List Mf} (h : Kp w0 V S g D sb jb n L KK) {T : List Pr} (hT : flat (lfs L) = T) (f t : ByteArray) (mo : Int) :
    Calls Tryz.prog 18 #[.pointer (some ⟨sb, 0, none⟩), .string f, .string t, .int .i64 mo] V fun e w' => ∃ (ra : Option Addr) (rn rc : Nat), e = .returned (.slice ra rn rc) ∧ Pw (fun _ => True) w' ra rn rc (rangeT T f t mo) ∧ rn ≤ 20000 ∧ Kp w0 w' S g D sb jb n L KK ∧ Below V.heap.size V w' := by
  obtain ⟨⟨F, ht⟩, h0⟩ := id h
  refine (range_any ht f t mo).mono ?_
  rintro e w' ⟨ra, rn, rc, rfl, ho, hb⟩
  rw [hT] at ho
  refine ⟨ra, rn, rc, rfl, own_pw ho, ?_, h.below hb, hb⟩
  have h1 := (own_pw ho).len
  have h2 := ht.total.2
  rw [hT] at h2
  rw [← h1, range_mid, List.length_take]
  have := mid_len T f t
  omega
theorem kp_get {w0 V : World} {S : Nat → Prop} {g : Nat} {D : Dk} {sb jb n : Nat} {L KK : List Mf} (h : Kp w0 V S g D sb jb n L KK) {T : List Pr} (hT : flat (lfs L) = T) (k : ByteArray) :
    Calls Tryz.prog 15 #[.pointer (some ⟨sb, 0, none⟩), .string k] V fun e w' => e = .returned (.tuple #[.string ((getT T k).getD ByteArray.empty), .bool (isT T k)]) ∧ Kp w0 w' S g D sb jb n L KK ∧ Below V.heap.size V w' := by
  obtain ⟨⟨F, ht⟩, h0⟩ := id h
  refine (get_any ht k).mono ?_
  rintro e w' ⟨rfl, hb⟩
  rw [hT]
  exact ⟨rfl, h.below hb, hb⟩
theorem cells9 : Tryz.prog.cellsOf 9 = 1 := by kernel_rfl
set_option maxRecDepth 100000 in
theorem strs3_of {H : Type} {enc : TypeId × Value → H} {W : World} {b0 base : Nat} {spare : Nat → Bool} {held : Bool} {v : Value} {d : DataW H} {p : List MemPlace} {ts : List TypeId} {ds : List (DataW H)} {j : Nat} (hv : Value.okWide Tryz.prog W .any b0 61 v) (h : DataW.Trod enc Tryz.prog W base spare held 61 v d p)
    (hsz : (DataW.weightsEach Tryz.prog ts ds).all (· ≤ reachBytes) = true) (ht : ts[j]? = some 61) (hd : ds[j]? = some d) :
    ∃ x y z : ByteArray, v = .agg #[.string x, .string y, .string z] ∧ x.size ≤ 140737488351232 ∧ y.size ≤ 140737488351232 ∧ z.size ≤ 140737488351232 := by
  unfold Value.okWide at hv
  rw [Tryz.underlying61] at hv
  obtain ⟨cs, rfl, hz, _⟩ := hv
  rw [show Tryz.prog.cellsOf 61 = 3 by kernel_rfl] at hz
  obtain ⟨c0, c1, c2, rfl⟩ : ∃ c0 c1 c2, cs = #[c0, c1, c2] := by
    obtain ⟨l⟩ := cs
    match l, hz with
    | [c0, c1, c2], _ => exact ⟨c0, c1, c2, rfl⟩
  obtain ⟨fuel, hf⟩ := h
  obtain ⟨ys, m, _, hx, _, hl, hy⟩ := DataW.trod_array Tryz.underlying61 hf
  have h0 := hy 0 (by omega)
  have h1 := hy 1 (by omega)
  have h2 := hy 2 (by omega)
  rw [cells9] at h0 h1 h2
  rw [List.getElem?_eq_getElem (by omega)] at h0 h1 h2
  obtain ⟨x, e0, f0, w0⟩ := DataW.trod_string Tryz.underlying9 (cs := [c0]) (by simpa [Value.cells] using h0)
  obtain ⟨y, e1, f1, w1⟩ := DataW.trod_string Tryz.underlying9 (cs := [c1]) (by simpa [Value.cells] using h1)
  obtain ⟨z, e2, f2, w2⟩ := DataW.trod_string Tryz.underlying9 (cs := [c2]) (by simpa [Value.cells] using h2)
  simp only [List.cons.injEq, and_true] at e0 e1 e2
  simp only [Prod.mk.injEq] at hx
  obtain ⟨rfl, _⟩ := hx
  have key : ∀ (i : Nat) (hi : i < ys.length) (s : ByteArray), ys[i] = (.lit (.string s.data.toList), []) → s.size ≤ 140737488351232 := by
    intro i hi s hs
    have hmem : (DataW.lit (.string s.data.toList) : DataW H) ∈ ys.map (·.1) := List.mem_map.2 ⟨ys[i], List.getElem_mem hi, by rw [hs]⟩
    have hw := List.all_eq_true.1 hsz s.data.toList.length (DataW.weights_mem_each ht hd _ (by
      simp only [DataW.weights, Tryz.underlying61]
      exact mem_weightsAll hmem _ (by simp [DataW.weights])))
    have := of_decide_eq_true hw
    simpa [reachBytes] using this
  exact ⟨x, y, z, by rw [e0, e1, e2], key 0 (by omega) x f0, key 1 (by omega) y f1, key 2 (by omega) z f2⟩
end Go.Proofs.YtnafalkcgghjgaaGreatDoor
