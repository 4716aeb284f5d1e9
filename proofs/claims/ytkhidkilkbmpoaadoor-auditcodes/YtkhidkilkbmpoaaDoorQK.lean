/- A walk over the document's Decode. -/
import Derived.Test.YtkhidkilkbmpoaaDoorQJ
namespace Go.Proofs.YtkhidkilkbmpoaaDoor
open Go.RowKit
theorem rest_no {K : Nat} {bs t : List UInt8} {last many i : Nat} {p : Int} (h : entsAt K bs p i = none) (hi : i ≤ many) : restA K bs t last many p = none := by
  have h2 := ents_stop h (many - i)
  rw [show i + (many - i) = many by omega] at h2
  unfold restA
  rw [h2]
theorem ents_in {bs : List UInt8} {p : Int} (hp : inP bs p) : ∀ (i : Nat) (l : List En) (q : Int), entsAt KD62 bs p i = some (l, q) → inP bs q
  | 0, l, q, h => by
    unfold entsAt at h
    obtain ⟨_, rfl⟩ := Prod.mk.inj (Option.some.inj h)
    exact hp
  | i + 1, l, q, h => by
    unfold entsAt at h
    cases h1 : entsAt KD62 bs p i with
    | none => rw [h1] at h; cases h
    | some x =>
      obtain ⟨k, r⟩ := x
      rw [h1] at h
      simp only at h
      cases h2 : entAt KD62 bs r with
      | none => rw [h2] at h; cases h
      | some y =>
        obtain ⟨c, r2⟩ := y
        rw [h2] at h
        obtain ⟨_, rfl⟩ := Prod.mk.inj (Option.some.inj h)
        rcases entAt_parts bs r with h0 | ⟨n1, n2, n3, n5, t, p1, p2, p3, p4, p5, g1, g2, g3, g4, g5⟩
        · rw [h0 KD62] at h2; cases h2
        · rw [entAt_yes g1 g2 g3 g4 g5] at h2
          obtain ⟨_, rfl⟩ := Prod.mk.inj (Option.some.inj h2)
          exact getAt_in2 hp.2.2 g5
set_option maxRecDepth 100000 in
set_option maxHeartbeats 4000000 in
theorem rdec_any (s : ByteArray) (bs : List UInt8) (hs : s.data.toList = bs) (w : World) (hlb : bs.length ≤ 9223372036854775807) : Calls Tryd.prog 28 #[.string s] w fun e w' => AuTo w (decV KD62 bs) e w' := by
  have hsz : bs.length = s.size := by rw [← hs]; exact Array.length_toList
  obtain ⟨zb, hzb⟩ : ∃ zb, w.heap.size = zb := ⟨_, rfl⟩
  have HZB : Hid (w.heap.size = zb) := hzb
  obtain ⟨V1, hV1, r1, hb1⟩ := box_au 24 (w := w) ⟨#[]⟩ 0 none 0 0
  rw [hzb] at r1
  have H1 : Hid (V1.heap[zb]? = some (.cells #[.string ⟨#[]⟩, .int .i64 0, .slice none 0 0] 24 (0, 0)) ∧ Below w.heap.size w V1) := ⟨r1, hb1⟩
  by_cases hlong : 65536 < s.size
  · have k1 : (65536 : Int) < (s.size : Int) := by omega
    have HX : Hid (decV KD62 bs = (zeroAu, 2)) := decV_long (by omega)
    clear r1 hb1 hsz hs
    go_enter Tryd.func28, Tryd.ntmps28
    have z5 := H1.out.1
    have b5 := H1.out.2
    obtain ⟨x0, x1, x2, fz⟩ := row3 z5
    have f0 := fz 0
    have f1 := fz 1
    have f2 := fz 2
    obtain ⟨W5, hW5⟩ : ∃ W5, ((V1.setCell ⟨zb, 0, none⟩ (.string ⟨#[]⟩)).setCell ⟨zb, 1, none⟩ (.int .i64 0)).setCell ⟨zb, 2, none⟩ (.slice none 0 0) = W5 := ⟨_, rfl⟩
    have HE : Hid (AuTo w (decV KD62 bs) (.returned (.tuple #[.agg #[.string ⟨#[]⟩, .int .i64 0, .slice none 0 0], .int .i64 2])) W5 ∧ W5.heap[zb]? = some (.cells #[.string ⟨#[]⟩, .int .i64 0, .slice none 0 0] 24 (0, 0))) := by
      refine ⟨?_, by rw [← hW5]; exact set3 z5 _ _ _⟩
      rw [HX.out]
      refine ⟨none, 0, 0, rfl, Rw.zero _ _ _ _ _ _ (Nat.zero_le _), ?_⟩
      rw [← hW5]
      exact below3s b5 (Nat.le_of_eq HZB.out) _ _ _
    clear z5 b5 fz
    go_wp2
    refine bodyPost_ret (v := .tuple #[.agg #[.string ⟨#[]⟩, .int .i64 0, .slice none 0 0], .int .i64 2]) ?_ rfl HE.out.1
    exact res_2R (fn := Tryd.f28) (p := 2) (q := 3) (by rfl) _ _ zb _ (by rfl) HE.out.2 infoRA
  have k1 : ¬ (65536 : Int) < (s.size : Int) := by omega
  obtain ⟨t, p1, f1, h1⟩ : ∃ n q e, textAt bs 0 32 = (n, q, e) := ⟨_, _, _, rfl⟩
  have ip1 := textAt_in2 hlb h1
  obtain ⟨n', p2, f2, h2⟩ : ∃ n q e, getAt bs p1 = (n, q, e) := ⟨_, _, _, rfl⟩
  have ip2 := getAt_in2 hlb h2
  obtain ⟨m', p3, f3, h3⟩ : ∃ n q e, getAt bs p2 = (n, q, e) := ⟨_, _, _, rfl⟩
  have ip3 := getAt_in2 hlb h3
  obtain ⟨X, hX⟩ : ∃ X, baOf t = X := ⟨_, rfl⟩
  obtain ⟨n, hn⟩ : ∃ m, min n' KD62 = m := ⟨_, rfl⟩
  obtain ⟨m, hm⟩ : ∃ m, min m' KD62 = m := ⟨_, rfl⟩
  have HNU : Hid (∀ (p : Int) (n : Nat) (q : Int) (er : Nat) (W : World), getAt bs p = (n, q, er) → inP bs p → Calls Tryd.prog 43 #[.string s, .int .i64 p] W fun e w' => e = .returned (.tuple #[.int .i64 ((min n KD62 : Nat) : Int), .int .i64 q, .bool (decide (er = 0))]) ∧ w' = W) := fun p n q er W hg hi => rnum13 s p n q er (by rw [hs]; exact hg) W (by rw [hs]; exact hi)
  have HT : Calls Tryd.prog 42 #[.string s, .int .i64 0, .int .i64 32] V1 fun e w' => e = .returned (.tuple #[.string X, .int .i64 p1, .int .i64 (f1 : Int)]) ∧ w' = V1 := by
    have h9 := rgtext_any bs 0 32 t p1 f1 h1 V1 hlb (by omega) (by omega)
    rw [show strOf bs = s by rw [← hs]; rfl, show strOf t = X from hX] at h9
    exact h9
  have HEN : Hid (∀ (p : Int) (W : World), inP bs p → Calls Tryd.prog 44 #[.string s, .int .i64 p] W fun e w' => EtTo W (entAt KD62 bs p) e w') := fun p W hi => rent_any s bs hs p hi W
  have HNL : Hid (¬ 65536 < bs.length) := by rw [hsz]; exact hlong
  have HSZ : Hid (bs.length = s.size) := hsz
  have HP : Hid (textAt bs 0 32 = (t, p1, f1) ∧ getAt bs p1 = (n', p2, f2) ∧ getAt bs p2 = (m', p3, f3) ∧ inP bs p1 ∧ inP bs p2 ∧ inP bs p3 ∧ baOf t = X ∧ min n' KD62 = n ∧ min m' KD62 = m) := ⟨h1, h2, h3, ip1, ip2, ip3, hX, hn, hm⟩
  clear r1 hb1 hsz hs h1 h2 h3 ip1 ip2 ip3 hX hn hm hlb
  go_enter Tryd.func28, Tryd.ntmps28
  go_wp2_with fail
  refine HT.mono ?_
  rintro e V9 ⟨rfl, hV9⟩
  subst V9
  clear HT
  by_cases x1 : f1 = 0
  rotate_left
  · have k4 : ¬ (f1 : Int) = 0 := by omega
    have b4 : ((f1 : Int) == 0) = false := by simpa using k4
    have m4 : ((f1 : Int) != 0) = true := by simpa using k4
    have HX : Hid (decV KD62 bs = (zeroAu, 4)) := decV_none HNL.out (decA_1 (by rw [HP.out.1]; exact x1))
    clear x1
    have z5 := H1.out.1
    have b5 := H1.out.2
    obtain ⟨x0, x1, x2, fz⟩ := row3 z5
    have f0 := fz 0
    have f1 := fz 1
    have f2 := fz 2
    obtain ⟨W5, hW5⟩ : ∃ W5, ((V1.setCell ⟨zb, 0, none⟩ (.string ⟨#[]⟩)).setCell ⟨zb, 1, none⟩ (.int .i64 0)).setCell ⟨zb, 2, none⟩ (.slice none 0 0) = W5 := ⟨_, rfl⟩
    have HE : Hid (AuTo w (decV KD62 bs) (.returned (.tuple #[.agg #[.string ⟨#[]⟩, .int .i64 0, .slice none 0 0], .int .i64 4])) W5 ∧ W5.heap[zb]? = some (.cells #[.string ⟨#[]⟩, .int .i64 0, .slice none 0 0] 24 (0, 0))) := by
      refine ⟨?_, by rw [← hW5]; exact set3 z5 _ _ _⟩
      rw [HX.out]
      refine ⟨none, 0, 0, rfl, Rw.zero _ _ _ _ _ _ (Nat.zero_le _), ?_⟩
      rw [← hW5]
      exact below3s b5 (Nat.le_of_eq HZB.out) _ _ _
    clear z5 b5 fz
    go_wp2
    refine bodyPost_ret (v := .tuple #[.agg #[.string ⟨#[]⟩, .int .i64 0, .slice none 0 0], .int .i64 4]) ?_ rfl HE.out.1
    exact res_2R (fn := Tryd.f28) (p := 2) (q := 3) (by rfl) _ _ zb _ (by rfl) HE.out.2 infoRA
  have b1 : ((f1 : Int) == 0) = true := by simp [x1]
  have mm1 : ((f1 : Int) != 0) = false := by simp [x1]
  have W1 : Hid (textAt bs 0 32 = (t, p1, 0)) := by rw [← x1]; exact HP.out.1
  clear x1
  have HC := HNU.out p1 n' p2 f2 V1 HP.out.2.1 HP.out.2.2.2.1
  rw [HP.out.2.2.2.2.2.2.2.1] at HC
  by_cases x2 : f2 = 0
  rotate_left
  · rw [show decide (f2 = 0) = false from decide_eq_false x2] at HC
    have HX : Hid (decV KD62 bs = (zeroAu, 4)) := decV_none HNL.out (decA_2 W1.out (by rw [HP.out.2.1]; exact x2))
    clear x2
    go_wp2_with fail
    refine HC.mono ?_
    rintro e V9 ⟨rfl, hV9⟩
    subst V9
    clear HC
    have z5 := H1.out.1
    have b5 := H1.out.2
    obtain ⟨x0, x1, x2, fz⟩ := row3 z5
    have f0 := fz 0
    have f1 := fz 1
    have f2 := fz 2
    obtain ⟨W5, hW5⟩ : ∃ W5, ((V1.setCell ⟨zb, 0, none⟩ (.string ⟨#[]⟩)).setCell ⟨zb, 1, none⟩ (.int .i64 0)).setCell ⟨zb, 2, none⟩ (.slice none 0 0) = W5 := ⟨_, rfl⟩
    have HE : Hid (AuTo w (decV KD62 bs) (.returned (.tuple #[.agg #[.string ⟨#[]⟩, .int .i64 0, .slice none 0 0], .int .i64 4])) W5 ∧ W5.heap[zb]? = some (.cells #[.string ⟨#[]⟩, .int .i64 0, .slice none 0 0] 24 (0, 0))) := by
      refine ⟨?_, by rw [← hW5]; exact set3 z5 _ _ _⟩
      rw [HX.out]
      refine ⟨none, 0, 0, rfl, Rw.zero _ _ _ _ _ _ (Nat.zero_le _), ?_⟩
      rw [← hW5]
      exact below3s b5 (Nat.le_of_eq HZB.out) _ _ _
    clear z5 b5 fz
    go_wp2
    refine bodyPost_ret (v := .tuple #[.agg #[.string ⟨#[]⟩, .int .i64 0, .slice none 0 0], .int .i64 4]) ?_ rfl HE.out.1
    exact res_2R (fn := Tryd.f28) (p := 2) (q := 3) (by rfl) _ _ zb _ (by rfl) HE.out.2 infoRA
  rw [show decide (f2 = 0) = true from decide_eq_true x2] at HC
  have W2 : Hid (getAt bs p1 = (n', p2, 0)) := by rw [← x2]; exact HP.out.2.1
  clear x2
  go_wp2_with fail
  refine HC.mono ?_
  rintro e V9 ⟨rfl, hV9⟩
  subst V9
  clear HC
  have HC := HNU.out p2 m' p3 f3 V1 HP.out.2.2.1 HP.out.2.2.2.2.1
  rw [HP.out.2.2.2.2.2.2.2.2] at HC
  by_cases x3 : f3 = 0
  rotate_left
  · rw [show decide (f3 = 0) = false from decide_eq_false x3] at HC
    have HX : Hid (decV KD62 bs = (zeroAu, 4)) := decV_none HNL.out (decA_3 W1.out W2.out (by rw [HP.out.2.2.1]; exact x3))
    clear x3
    go_wp2_with fail
    refine HC.mono ?_
    rintro e V9 ⟨rfl, hV9⟩
    subst V9
    clear HC
    have z5 := H1.out.1
    have b5 := H1.out.2
    obtain ⟨x0, x1, x2, fz⟩ := row3 z5
    have f0 := fz 0
    have f1 := fz 1
    have f2 := fz 2
    obtain ⟨W5, hW5⟩ : ∃ W5, ((V1.setCell ⟨zb, 0, none⟩ (.string ⟨#[]⟩)).setCell ⟨zb, 1, none⟩ (.int .i64 0)).setCell ⟨zb, 2, none⟩ (.slice none 0 0) = W5 := ⟨_, rfl⟩
    have HE : Hid (AuTo w (decV KD62 bs) (.returned (.tuple #[.agg #[.string ⟨#[]⟩, .int .i64 0, .slice none 0 0], .int .i64 4])) W5 ∧ W5.heap[zb]? = some (.cells #[.string ⟨#[]⟩, .int .i64 0, .slice none 0 0] 24 (0, 0))) := by
      refine ⟨?_, by rw [← hW5]; exact set3 z5 _ _ _⟩
      rw [HX.out]
      refine ⟨none, 0, 0, rfl, Rw.zero _ _ _ _ _ _ (Nat.zero_le _), ?_⟩
      rw [← hW5]
      exact below3s b5 (Nat.le_of_eq HZB.out) _ _ _
    clear z5 b5 fz
    go_wp2
    refine bodyPost_ret (v := .tuple #[.agg #[.string ⟨#[]⟩, .int .i64 0, .slice none 0 0], .int .i64 4]) ?_ rfl HE.out.1
    exact res_2R (fn := Tryd.f28) (p := 2) (q := 3) (by rfl) _ _ zb _ (by rfl) HE.out.2 infoRA
  rw [show decide (f3 = 0) = true from decide_eq_true x3] at HC
  have W3 : Hid (getAt bs p2 = (m', p3, 0)) := by rw [← x3]; exact HP.out.2.2.1
  clear x3
  by_cases x4 : 8 < m
  · have k8 : (8 : Int) < (m : Int) := by omega
    have HX : Hid (decV KD62 bs = (zeroAu, 4)) := decV_none HNL.out (decA_4 W1.out W2.out W3.out (by have := HP.out.2.2.2.2.2.2.2.2; omega))
    clear x4
    go_wp2_with fail
    refine HC.mono ?_
    rintro e V9 ⟨rfl, hV9⟩
    subst V9
    clear HC
    have z5 := H1.out.1
    have b5 := H1.out.2
    obtain ⟨x0, x1, x2, fz⟩ := row3 z5
    have f0 := fz 0
    have f1 := fz 1
    have f2 := fz 2
    obtain ⟨W5, hW5⟩ : ∃ W5, ((V1.setCell ⟨zb, 0, none⟩ (.string ⟨#[]⟩)).setCell ⟨zb, 1, none⟩ (.int .i64 0)).setCell ⟨zb, 2, none⟩ (.slice none 0 0) = W5 := ⟨_, rfl⟩
    have HE : Hid (AuTo w (decV KD62 bs) (.returned (.tuple #[.agg #[.string ⟨#[]⟩, .int .i64 0, .slice none 0 0], .int .i64 4])) W5 ∧ W5.heap[zb]? = some (.cells #[.string ⟨#[]⟩, .int .i64 0, .slice none 0 0] 24 (0, 0))) := by
      refine ⟨?_, by rw [← hW5]; exact set3 z5 _ _ _⟩
      rw [HX.out]
      refine ⟨none, 0, 0, rfl, Rw.zero _ _ _ _ _ _ (Nat.zero_le _), ?_⟩
      rw [← hW5]
      exact below3s b5 (Nat.le_of_eq HZB.out) _ _ _
    clear z5 b5 fz
    go_wp2
    refine bodyPost_ret (v := .tuple #[.agg #[.string ⟨#[]⟩, .int .i64 0, .slice none 0 0], .int .i64 4]) ?_ rfl HE.out.1
    exact res_2R (fn := Tryd.f28) (p := 2) (q := 3) (by rfl) _ _ zb _ (by rfl) HE.out.2 infoRA
  have k8 : ¬ (8 : Int) < (m : Int) := by omega
  have hm8 : m ≤ 8 := by omega
  have hmm' : m' = m := by have := HP.out.2.2.2.2.2.2.2.2; unfold KD62 at this; omega
  have HDA : Hid (decA KD62 bs = restA KD62 bs t n' m p3) := by
    show _ = _
    rw [decA_yes W1.out W2.out W3.out (by omega), hmm']
  clear hmm' x4
  obtain ⟨tb, htb⟩ : ∃ tb, V1.heap.size = tb := ⟨_, rfl⟩
  obtain ⟨U0, hU0⟩ : ∃ x, V1.alloc (.cells #[.string ⟨#[]⟩, .int .i64 0, .slice none 0 0] 24) = x := ⟨_, rfl⟩
  have rU : U0.heap[tb]? = some (.cells #[.string ⟨#[]⟩, .int .i64 0, .slice none 0 0] 24 (0, 0)) := by rw [← hU0, ← htb]; exact heap_alloc_new _ _
  have bU : Below V1.heap.size V1 U0 := by rw [← hU0]; exact (Below.refl _ _).alloc (Nat.le_refl _) _
  obtain ⟨q0, q1, q2, qz⟩ := row3 rU
  have qf0 := qz 0
  have qf1 := qz 1
  have qf2 := qz 2
  obtain ⟨V2, hV2⟩ : ∃ x, ((U0.setCell ⟨tb, 0, none⟩ (.string X)).setCell ⟨tb, 1, none⟩ (.int .i64 (n : Int))).setCell ⟨tb, 2, none⟩ (.slice none 0 0) = x := ⟨_, rfl⟩
  have r2 : V2.heap[tb]? = some (.cells #[.string X, .int .i64 (n : Int), .slice none 0 0] 24 (0, 0)) := by rw [← hV2]; exact set3 rU _ _ _
  have hb2 : Below V1.heap.size V1 V2 := by rw [← hV2]; exact below3s bU (Nat.le_of_eq htb) _ _ _
  have z2 := (hb2.block zb (lt_of_some H1.out.1)).trans H1.out.1
  have HTB : Hid (zb < tb ∧ w.heap.size ≤ tb) := by have h1 := lt_of_some H1.out.1; have := HZB.out; exact ⟨by omega, by omega⟩
  have H2 : Hid (V2.heap[zb]? = some (.cells #[.string ⟨#[]⟩, .int .i64 0, .slice none 0 0] 24 (0, 0)) ∧ V2.heap[tb]? = some (.cells #[.string X, .int .i64 (n : Int), .slice none 0 0] 24 (0, 0)) ∧ V2.ownsRow (tb + 1) 36 5 (.slice none 0 0) 0 (enR []) ∧ Below w.heap.size w V2) := ⟨z2, r2, World.ownsRow_nil _ _ _ _, H1.out.2.trans (hb2.mono H1.out.2.size)⟩
  clear rU bU qz r2 hb2 z2
  go_wp2_with fail
  refine HC.mono ?_
  rintro e V9 ⟨rfl, hV9⟩
  subst V9
  clear HC
  go_wp2
  clear q0 q1 q2 qf0 qf1 qf2
  go_loopw [10, 13] (fun va vi wr => ∃ (i : Nat) (l : List En) (q : Int) (a' : Option Addr) (c' : Nat), i ≤ m ∧ vi = .int .i64 i ∧ va = .int .i64 q ∧ entsAt KD62 bs p3 i = some (l, q) ∧ wr.heap[zb]? = some (.cells #[.string ⟨#[]⟩, .int .i64 0, .slice none 0 0] 24 (0, 0)) ∧ wr.heap[tb]? = some (.cells #[.string X, .int .i64 (n : Int), .slice a' i c'] 24 (0, 0)) ∧ wr.ownsRow (tb + 1) 36 5 (.slice a' i c') i (enR l) ∧ Below w.heap.size w wr) (fun _ vi _ => m - (intOf vi).toNat)
  case atStart => exact ⟨0, [], p3, none, 0, by omega, rfl, rfl, rfl, H2.out⟩
  case round =>
  obtain ⟨i, l, q, a', c', hi, rfl, rfl, hen, hz, ht, ho, hbw⟩ := hrel
  by_cases hlt : i < m
  · have kk : (i : Int) < (m : Int) := by omega
    have HG := HEN.out q wr (ents_in HP.out.2.2.2.2.2.1 i l q hen)
    cases hc : entAt KD62 bs q with
    | none =>
      rw [hc] at HG
      unfold EtTo at HG
      simp only at HG
      have HX : Hid (decV KD62 bs = (zeroAu, 4)) := decV_none HNL.out (by rw [HDA.out]; exact rest_no (ents_none hen hc) (by omega))
      have HI : Hid (wr.heap[zb]? = some (.cells #[.string ⟨#[]⟩, .int .i64 0, .slice none 0 0] 24 (0, 0)) ∧ Below w.heap.size w wr) := ⟨hz, hbw⟩
      clear hen hz ht ho hbw hc
      go_wp2_with fail
      refine HG.mono ?_
      rintro e V5 ⟨rfl, hb5⟩
      obtain ⟨eb, heb⟩ : ∃ x, V5.heap.size = x := ⟨_, rfl⟩
      obtain ⟨U5, hU5⟩ : ∃ x, V5.alloc (.cells #[.int .i64 0, .int .i64 0, .int .i64 0, .string ⟨#[]⟩, .int .i64 0] 36) = x := ⟨_, rfl⟩
      have rU : U5.heap[eb]? = some (.cells #[.int .i64 0, .int .i64 0, .int .i64 0, .string ⟨#[]⟩, .int .i64 0] 36 (0, 0)) := by rw [← hU5, ← heb]; exact heap_alloc_new _ _
      have bU : Below V5.heap.size V5 U5 := by rw [← hU5]; exact (Below.refl _ _).alloc (Nat.le_refl _) _
      obtain ⟨q0, q1, q2, q3, q4, qz⟩ := row5 rU
      have qf0 := qz 0
      have qf1 := qz 1
      have qf2 := qz 2
      have qf3 := qz 3
      have qf4 := qz 4
      obtain ⟨V6, hV6⟩ : ∃ x, ((((U5.setCell ⟨eb, 0, none⟩ (.int .i64 0)).setCell ⟨eb, 1, none⟩ (.int .i64 0)).setCell ⟨eb, 2, none⟩ (.int .i64 0)).setCell ⟨eb, 3, none⟩ (.string ⟨#[]⟩)).setCell ⟨eb, 4, none⟩ (.int .i64 0) = x := ⟨_, rfl⟩
      have hb6 : Below V5.heap.size V5 V6 := by rw [← hV6]; exact below5s bU (Nat.le_of_eq heb) _ _ _ _ _
      have hb56 : Below wr.heap.size wr V6 := hb5.trans (hb6.mono hb5.size)
      have H6 : Hid (Below wr.heap.size wr V6) := hb56
      clear HG hb5 rU bU qz hb6 hb56
      have z5 := (H6.out.block zb (lt_of_some HI.out.1)).trans HI.out.1
      have b5 := HI.out.2.trans (H6.out.mono HI.out.2.size)
      obtain ⟨x0, x1, x2, fz⟩ := row3 z5
      have f0 := fz 0
      have f1 := fz 1
      have f2 := fz 2
      obtain ⟨W5, hW5⟩ : ∃ W5, ((V6.setCell ⟨zb, 0, none⟩ (.string ⟨#[]⟩)).setCell ⟨zb, 1, none⟩ (.int .i64 0)).setCell ⟨zb, 2, none⟩ (.slice none 0 0) = W5 := ⟨_, rfl⟩
      have HE : Hid (AuTo w (decV KD62 bs) (.returned (.tuple #[.agg #[.string ⟨#[]⟩, .int .i64 0, .slice none 0 0], .int .i64 4])) W5 ∧ W5.heap[zb]? = some (.cells #[.string ⟨#[]⟩, .int .i64 0, .slice none 0 0] 24 (0, 0))) := by
        refine ⟨?_, by rw [← hW5]; exact set3 z5 _ _ _⟩
        rw [HX.out]
        refine ⟨none, 0, 0, rfl, Rw.zero _ _ _ _ _ _ (Nat.zero_le _), ?_⟩
        rw [← hW5]
        exact below3s b5 (Nat.le_of_eq HZB.out) _ _ _
      clear z5 b5 fz
      go_wp2
      refine bodyPost_ret (v := .tuple #[.agg #[.string ⟨#[]⟩, .int .i64 0, .slice none 0 0], .int .i64 4]) ?_ rfl HE.out.1
      exact res_2R (fn := Tryd.f28) (p := 2) (q := 3) (by rfl) _ _ zb _ (by rfl) HE.out.2 infoRA
    | some r =>
      obtain ⟨⟨g0, g1, g2, g3, g4⟩, q'⟩ := r
      rw [hc] at HG
      unfold EtTo at HG
      simp only at HG
      have hen2 := ents_next hen hc
      have HI : Hid (wr.heap[zb]? = some (.cells #[.string ⟨#[]⟩, .int .i64 0, .slice none 0 0] 24 (0, 0)) ∧ wr.heap[tb]? = some (.cells #[.string X, .int .i64 (n : Int), .slice a' i c'] 24 (0, 0)) ∧ wr.ownsRow (tb + 1) 36 5 (.slice a' i c') i (enR l) ∧ Below w.heap.size w wr ∧ entsAt KD62 bs p3 (i + 1) = some (l ++ [⟨g0, g1, g2, g3, g4⟩], q')) := ⟨hz, ht, ho, hbw, hen2⟩
      clear hen hz ht ho hbw hc hen2
      go_wp2_with fail
      refine HG.mono ?_
      rintro e V5 ⟨rfl, hb5⟩
      obtain ⟨eb, heb⟩ : ∃ x, V5.heap.size = x := ⟨_, rfl⟩
      obtain ⟨U5, hU5⟩ : ∃ x, V5.alloc (.cells #[.int .i64 0, .int .i64 0, .int .i64 0, .string ⟨#[]⟩, .int .i64 0] 36) = x := ⟨_, rfl⟩
      have rU : U5.heap[eb]? = some (.cells #[.int .i64 0, .int .i64 0, .int .i64 0, .string ⟨#[]⟩, .int .i64 0] 36 (0, 0)) := by rw [← hU5, ← heb]; exact heap_alloc_new _ _
      have bU : Below V5.heap.size V5 U5 := by rw [← hU5]; exact (Below.refl _ _).alloc (Nat.le_refl _) _
      obtain ⟨q0, q1, q2, q3, q4, qz⟩ := row5 rU
      have qf0 := qz 0
      have qf1 := qz 1
      have qf2 := qz 2
      have qf3 := qz 3
      have qf4 := qz 4
      obtain ⟨V6, hV6⟩ : ∃ x, ((((U5.setCell ⟨eb, 0, none⟩ (.int .i64 g0)).setCell ⟨eb, 1, none⟩ (.int .i64 g1)).setCell ⟨eb, 2, none⟩ (.int .i64 g2)).setCell ⟨eb, 3, none⟩ (.string g3)).setCell ⟨eb, 4, none⟩ (.int .i64 g4) = x := ⟨_, rfl⟩
      have r6 : V6.heap[eb]? = some (.cells #[.int .i64 g0, .int .i64 g1, .int .i64 g2, .string g3, .int .i64 g4] 36 (0, 0)) := by rw [← hV6]; exact set5 rU _ _ _ _ _
      have hb6 : Below V5.heap.size V5 V6 := by rw [← hV6]; exact below5s bU (Nat.le_of_eq heb) _ _ _ _ _
      have hb56 : Below wr.heap.size wr V6 := hb5.trans (hb6.mono hb5.size)
      obtain ⟨d0, d1, d2, d3, d4, _⟩ := row5 r6
      have t6 := (hb56.block tb (lt_of_some HI.out.2.1)).trans HI.out.2.1
      obtain ⟨_, _, y2, _⟩ := row3 t6
      obtain ⟨V7, hV7, r7, hb7⟩ := box_en (w := V6) g0 g1 g2 g3 g4
      obtain ⟨g7, hg7⟩ : ∃ x, V6.heap.size = x := ⟨_, rfl⟩
      rw [hg7] at r7
      have hb57 : Below wr.heap.size wr V7 := hb56.trans (hb7.mono hb56.size)
      have o7 : V7.ownsRow (tb + 1) 36 5 (.slice a' i c') i (enR l) := own_keep HI.out.2.2.1 (fun j hj => hb57.block j (HI.out.2.2.1.lt j hj).2)
      have b7 : Below w.heap.size w V7 := HI.out.2.2.2.1.trans (hb57.mono HI.out.2.2.2.1.size)
      have t7 := (hb57.block tb (lt_of_some HI.out.2.1)).trans HI.out.2.1
      have z7 := (hb57.block zb (lt_of_some HI.out.1)).trans HI.out.1
      obtain ⟨a8, c8, V8, hr8, o8, hg8, _⟩ := addE_own V7 o7 (enRow (p := ⟨g0, g1, g2, g3, g4⟩) r7) (by omega) (lt_of_some t7)
      have ngr : ∀ k, k < V7.heap.size → k ≤ tb → V8.heap[k]? = V7.heap[k]? := fun k hk hkt => hg8.block k hk (fun h9 => by have := (o7.lt k (by rw [ob_slice]; exact h9.symm)).1; omega)
      have t8 := (ngr tb (lt_of_some t7) (by omega)).trans t7
      have z8 := (ngr zb (lt_of_some z7) (by have := HTB.out; omega)).trans z7
      have b8 : Below w.heap.size w V8 := b7.grown hg8 b7.size (fun j hj => by have := (o7.lt j (by rw [ob_slice]; exact hj)).1; have := HTB.out; omega)
      obtain ⟨_, _, k8', kz⟩ := row3 t8
      have kf := kz 2
      obtain ⟨W9, hW9⟩ : ∃ x, V8.setCell ⟨tb, 2, none⟩ (.slice a8 (i + 1) c8) = x := ⟨_, rfl⟩
      have HE : Hid (entsAt KD62 bs p3 (i + 1) = some (l ++ [⟨g0, g1, g2, g3, g4⟩], q') ∧ W9.heap[zb]? = some (.cells #[.string ⟨#[]⟩, .int .i64 0, .slice none 0 0] 24 (0, 0)) ∧ W9.heap[tb]? = some (.cells #[.string X, .int .i64 (n : Int), .slice a8 (i + 1) c8] 24 (0, 0)) ∧ W9.ownsRow (tb + 1) 36 5 (.slice a8 (i + 1) c8) (i + 1) (enR (l ++ [⟨g0, g1, g2, g3, g4⟩])) ∧ Below w.heap.size w W9) := by
        have o9 : ∀ k, k ≠ tb → W9.heap[k]? = V8.heap[k]? := fun k hk => by rw [← hW9, heap_setCell_other _ _ _ _ hk]
        refine ⟨HI.out.2.2.2.2, (o9 zb (by have := HTB.out; omega)).trans z8, by rw [← hW9, heap_setCell_same _ _ _ _ _ _ t8]; rfl, own_keep o8 (fun j hj => o9 j (by have := (o8.lt j hj).1; omega)), ?_⟩
        rw [← hW9]
        exact b8.setCell (show w.heap.size ≤ tb from HTB.out.2) _
      clear HG hb5 rU bU qz r6 hb6 hb56 t6 r7 hb7 hb57 o7 b7 t7 z7 o8 hg8 ngr t8 z8 b8 kz
      go_wp2_with (at_builtin; refine wpList_app V7 rfl _ _ _ _ rfl rfl rfl (hr8 _) ?_)
      exact ⟨⟨i + 1, l ++ [⟨g0, g1, g2, g3, g4⟩], q', a8, c8, by omega, by go_num, rfl, HE.out⟩, by simp [intOf]; omega⟩
  · obtain rfl : i = m := by omega
    have kk : ¬ (i : Int) < (i : Int) := by omega
    have HDR : Hid (decA KD62 bs = if q = (s.size : Int) ∧ mayA ⟨X, (n : Int), l⟩ = true then some ⟨X, (n : Int), l⟩ else none) := by
      show _ = _
      rw [HDA.out]
      unfold restA
      rw [hen]
      simp only
      rw [HP.out.2.2.2.2.2.2.1, HP.out.2.2.2.2.2.2.2.1, HSZ.out]
    have HI : Hid (wr.heap[zb]? = some (.cells #[.string ⟨#[]⟩, .int .i64 0, .slice none 0 0] 24 (0, 0)) ∧ Below w.heap.size w wr ∧ wr.heap[tb]? = some (.cells #[.string X, .int .i64 (n : Int), .slice a' i c'] 24 (0, 0)) ∧ wr.ownsRow (tb + 1) 36 5 (.slice a' i c') i (enR l)) := ⟨hz, hbw, ht, ho⟩
    clear hen hz hbw ho
    by_cases x2 : q = (s.size : Int)
    rotate_left
    · have b4 : (q == (s.size : Int)) = false := by simpa using x2
      have m4 : (q != (s.size : Int)) = true := by simpa using x2
      have HX : Hid (decV KD62 bs = (zeroAu, 4)) := decV_none HNL.out (by rw [HDR.out, if_neg (fun h => x2 h.1)])
      clear x2 ht
      have z5 := HI.out.1
      have b5 := HI.out.2.1
      obtain ⟨x0, x1, x2, fz⟩ := row3 z5
      have f0 := fz 0
      have f1 := fz 1
      have f2 := fz 2
      obtain ⟨W5, hW5⟩ : ∃ W5, ((wr.setCell ⟨zb, 0, none⟩ (.string ⟨#[]⟩)).setCell ⟨zb, 1, none⟩ (.int .i64 0)).setCell ⟨zb, 2, none⟩ (.slice none 0 0) = W5 := ⟨_, rfl⟩
      have HE : Hid (AuTo w (decV KD62 bs) (.returned (.tuple #[.agg #[.string ⟨#[]⟩, .int .i64 0, .slice none 0 0], .int .i64 4])) W5 ∧ W5.heap[zb]? = some (.cells #[.string ⟨#[]⟩, .int .i64 0, .slice none 0 0] 24 (0, 0))) := by
        refine ⟨?_, by rw [← hW5]; exact set3 z5 _ _ _⟩
        rw [HX.out]
        refine ⟨none, 0, 0, rfl, Rw.zero _ _ _ _ _ _ (Nat.zero_le _), ?_⟩
        rw [← hW5]
        exact below3s b5 (Nat.le_of_eq HZB.out) _ _ _
      clear z5 b5 fz
      go_wp2
      refine bodyPost_ret (v := .tuple #[.agg #[.string ⟨#[]⟩, .int .i64 0, .slice none 0 0], .int .i64 4]) ?_ rfl HE.out.1
      exact res_2R (fn := Tryd.f28) (p := 2) (q := 3) (by rfl) _ _ zb _ (by rfl) HE.out.2 infoRA
    subst x2
    have HM := rmay_any X (n : Int) (Ew.own HI.out.2.2.2)
    unfold YeTo at HM
    obtain ⟨t0, t1, t2, _⟩ := row3 ht
    have hll : ((s.size : Int) != (s.size : Int)) = false := by simp
    cases hm : mayA ⟨X, (n : Int), l⟩ with
    | false =>
      rw [hm] at HM
      have HX : Hid (decV KD62 bs = (zeroAu, 4)) := decV_none HNL.out (by rw [HDR.out, if_neg (fun h => by rw [hm] at h; exact absurd h.2 (by decide))])
      clear hm ht
      go_wp2_with fail
      refine HM.mono ?_
      rintro e V5 ⟨rfl, hb5⟩
      have H5 : Hid (Below wr.heap.size wr V5) := hb5
      clear HM hb5 t0 t1 t2
      have z5 := (H5.out.block zb (lt_of_some HI.out.1)).trans HI.out.1
      have b5 := HI.out.2.1.trans (H5.out.mono HI.out.2.1.size)
      obtain ⟨x0, x1, x2, fz⟩ := row3 z5
      have f0 := fz 0
      have f1 := fz 1
      have f2 := fz 2
      obtain ⟨W5, hW5⟩ : ∃ W5, ((V5.setCell ⟨zb, 0, none⟩ (.string ⟨#[]⟩)).setCell ⟨zb, 1, none⟩ (.int .i64 0)).setCell ⟨zb, 2, none⟩ (.slice none 0 0) = W5 := ⟨_, rfl⟩
      have HE : Hid (AuTo w (decV KD62 bs) (.returned (.tuple #[.agg #[.string ⟨#[]⟩, .int .i64 0, .slice none 0 0], .int .i64 4])) W5 ∧ W5.heap[zb]? = some (.cells #[.string ⟨#[]⟩, .int .i64 0, .slice none 0 0] 24 (0, 0))) := by
        refine ⟨?_, by rw [← hW5]; exact set3 z5 _ _ _⟩
        rw [HX.out]
        refine ⟨none, 0, 0, rfl, Rw.zero _ _ _ _ _ _ (Nat.zero_le _), ?_⟩
        rw [← hW5]
        exact below3s b5 (Nat.le_of_eq HZB.out) _ _ _
      clear z5 b5 fz
      go_wp2
      refine bodyPost_ret (v := .tuple #[.agg #[.string ⟨#[]⟩, .int .i64 0, .slice none 0 0], .int .i64 4]) ?_ rfl HE.out.1
      exact res_2R (fn := Tryd.f28) (p := 2) (q := 3) (by rfl) _ _ zb _ (by rfl) HE.out.2 infoRA
    | true =>
      rw [hm] at HM
      have HX : Hid (decV KD62 bs = (⟨X, (n : Int), l⟩, 0)) := decV_some HNL.out (by rw [HDR.out, if_pos ⟨rfl, hm⟩])
      clear hm ht
      go_wp2_with fail
      refine HM.mono ?_
      rintro e V5 ⟨rfl, hb5⟩
      clear HM t0 t1 t2
      have t5 := (hb5.block tb (lt_of_some HI.out.2.2.1)).trans HI.out.2.2.1
      have z5 := (hb5.block zb (lt_of_some HI.out.1)).trans HI.out.1
      have b5 : Below w.heap.size w V5 := HI.out.2.1.trans (hb5.mono HI.out.2.1.size)
      have o5 : V5.ownsRow (tb + 1) 36 5 (.slice a' i c') i (enR l) := own_keep HI.out.2.2.2 (fun j hj => hb5.block j (HI.out.2.2.2.lt j hj).2)
      obtain ⟨t0, t1, t2, _⟩ := row3 t5
      obtain ⟨x0, x1, x2, fz⟩ := row3 z5
      have f0 := fz 0
      have f1 := fz 1
      have f2 := fz 2
      obtain ⟨W5, hW5⟩ : ∃ W5, ((V5.setCell ⟨zb, 0, none⟩ (.string X)).setCell ⟨zb, 1, none⟩ (.int .i64 (n : Int))).setCell ⟨zb, 2, none⟩ (.slice a' i c') = W5 := ⟨_, rfl⟩
      have HE : Hid (AuTo w (decV KD62 bs) (.returned (.tuple #[.agg #[.string X, .int .i64 (n : Int), .slice a' i c'], .int .i64 0])) W5 ∧ W5.heap[zb]? = some (.cells #[.string X, .int .i64 (n : Int), .slice a' i c'] 24 (0, 0))) := by
        refine ⟨?_, by rw [← hW5]; exact set3 z5 _ _ _⟩
        rw [HX.out]
        refine ⟨a', i, c', rfl, ?_, by rw [← hW5]; exact below3s b5 (Nat.le_of_eq HZB.out) _ _ _⟩
        refine Nw.own (own_keep o5 (fun j hj => ?_)) (show w.heap.size ≤ tb + 1 by have := HTB.out; omega)
        have := (o5.lt j hj).1
        rw [← hW5]
        exact other3s (by have := HTB.out; omega) _ _ _
      clear hb5 t5 z5 b5 o5 fz
      go_wp2
      refine bodyPost_ret (v := .tuple #[.agg #[.string X, .int .i64 (n : Int), .slice a' i c'], .int .i64 0]) ?_ rfl HE.out.1
      exact res_2R (fn := Tryd.f28) (p := 2) (q := 3) (by rfl) _ _ zb _ (by rfl) HE.out.2 infoRA
end Go.Proofs.YtkhidkilkbmpoaaDoor
