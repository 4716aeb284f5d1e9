/- A walk over keep. A walk over store. -/
import Derived.Test.YtdgffocmdkadpaaGreatQD
namespace Go.Proofs.YtdgffocmdkadpaaGreat
open Go.RowKit Go.Shelf Pg
/-- What is kept, the first k looked at again. -/
def Px.kepL (n : Nat) (X : Px) (D : Dk) (k : Nat) : List ByteArray := (List.range n).map fun j => if j < k ∧ (X.now.m j).isSome = true then pgOf n D j else X.kept.getD j ByteArray.empty
def Px.kepTo (n : Nat) (X : Px) (D : Dk) (k : Nat) : Px := { X with kept := X.kepL n D k }
theorem kepL_len (n : Nat) (X : Px) (D : Dk) (k : Nat) : (X.kepL n D k).length = n := by simp [Px.kepL]
theorem kepL_zero {n : Nat} {X : Px} (D : Dk) (h : X.kept.length = n) : X.kepL n D 0 = X.kept := by
  apply List.ext_getElem?
  intro i
  unfold Px.kepL
  rw [List.getElem?_map]
  by_cases hi : i < n
  · rw [List.getElem?_range hi, List.getElem?_eq_getElem (by omega)]
    simp only [Option.map_some]
    rw [if_neg (by omega), List.getD_eq_getElem?_getD, List.getElem?_eq_getElem (by omega)]
    rfl
  · rw [List.getElem?_eq_none (by simp; omega), List.getElem?_eq_none (by omega)]
    rfl
theorem kepL_no {n : Nat} {X : Px} {D : Dk} {k : Nat} (h : X.now.m k = none) : X.kepL n D (k + 1) = X.kepL n D k := by
  unfold Px.kepL
  apply List.map_congr_left
  intro j _
  by_cases e : j = k
  · subst e
    rw [if_neg (by rw [h]; simp), if_neg (by omega)]
  · by_cases hj : j < k
    · by_cases hs : (X.now.m j).isSome = true
      · rw [if_pos ⟨by omega, hs⟩, if_pos ⟨hj, hs⟩]
      · rw [if_neg (fun x => hs x.2), if_neg (fun x => hs x.2)]
    · rw [if_neg (by omega), if_neg (by omega)]
theorem kepL_yes {n : Nat} {X : Px} {D : Dk} {k : Nat} {s : ByteArray} (hk : k < n) (h : X.now.m k = some s) : X.kepL n D (k + 1) = (X.kepL n D k).set k (pgOf n D k) := by
  apply List.ext_getElem?
  intro i
  rw [List.getElem?_set]
  unfold Px.kepL
  rw [List.length_map, List.length_range, List.getElem?_map, List.getElem?_map]
  by_cases e : k = i
  · subst e
    rw [if_pos rfl, if_pos hk, List.getElem?_range hk]
    simp only [Option.map_some]
    rw [if_pos ⟨by omega, by rw [h]; rfl⟩]
  · rw [if_neg e]
    by_cases hi : i < n
    · rw [List.getElem?_range hi]
      simp only [Option.map_some]
      congr 1
      by_cases hj : i < k
      · by_cases hs : (X.now.m i).isSome = true
        · rw [if_pos ⟨by omega, hs⟩, if_pos ⟨hj, hs⟩]
        · rw [if_neg (fun x => hs x.2), if_neg (fun x => hs x.2)]
      · rw [if_neg (by omega), if_neg (by omega)]
    · rw [List.getElem?_eq_none (by simp; omega)]
      rfl
section
variable {h0 : Nat} {F : Nat → Prop} {w w' : World} {S : Nat → Prop} {g : Nat} {D : Dk} {pb jb n kb kc mb : Nat} {sa : Option Addr} {sc : Nat} {ss : List (Sn × Nat)} {X : Px}
theorem Pl.turnK (h : Pl h0 F w S g D pb jb n kb kc mb sa sc ss X) {K : List ByteArray} (hk : w'.ownsRow 0 9 1 (.slice (some ⟨kb, 0, none⟩) n kc) n (strsV K)) (hu : Upd (fun x => x = kb) w w') (hs : w'.heap.size = w.heap.size) : Pl h0 F w' S g D pb jb n kb kc mb sa sc ss { X with kept := K } ∧ Fr F w F w' ∧ Below h0 w w' := by
  obtain ⟨f1, f2, ho, f3, f4, f5⟩ := h.frame (.inr (.inl rfl)) hu hs
  have ap := h.apart
  have hl := h.lt
  refine ⟨{ h with disk := f1, jat := f2, c := (ho pb ap.pk (hl _ (.inl rfl))).trans h.c, k := hk, m := h.m.keep (ho mb ap.km.symm (hl _ (.inr (.inr (.inl rfl))))), s := own_keep h.s (fun x hx => ?_), sm := fun p hp => (h.sm p hp).keep (ho _ (ap.mkb p hp) (h.sm p hp).lt), fF := f5, h0w := by rw [hs]; exact h.h0w }, f3, f4⟩
  rw [ob_slice] at hx
  exact ho x (fun e => ap.sk (by rw [← e]; exact hx)) (hl _ (.inr (.inr (.inr (.inl hx)))))
theorem kep_ok (hok : X.Ok n) (D : Dk) (k : Nat) : (X.kepTo n D k).Ok n := { hok with kept := kepL_len n X D k }
theorem build_torn (n : Nat) (W : World) : (Instr.build 98 #[]).run Tryz.prog W = .ok (.agg (setA (noT n))) W := by
  refine run_build W 98 #[] _ ?_
  unfold setA noT
  rw [setL_none]
  kernel_rfl
theorem wpList_torn (n : Nat) {ops : Array Oper} {rest : List Oper} {o : Oper} {a : Act} {w : World} {Q : Exit → Act → World → Prop} (hgd : o.guard = none) (ho : o.op = .build 98 #[]) (hK : wpList Tryz.prog ops Q rest (a.put o.dst (.agg (setA (noT n)))) w) : wpList Tryz.prog ops Q (o :: rest) a w :=
  wpList_plain hgd fun K hk => by
    have hb := build_torn n w
    have e : (execOp a.eval o).run Tryz.prog w = .ok (.value (.agg (setA (noT n)))) w := by
      unfold execOp
      have e2 : (#[] : Array (Nat × Operand)).map (fun (i, x) => (i, a.eval x)) = #[] := by simp
      simp only [ho, Sem.run_bind, e2, hb, Result.andThen_ok, Sem.run_pure]
    unfold Oper.wp
    rw [e]
    exact hk _ _ hK
theorem Pl.store_torn (h : Pl h0 F w S g D pb jb n kb kc mb sa sc ss X) : (storeCells ⟨pb, 23, none⟩ (setA (noT n)).toList).run Tryz.prog w = .ok () w := by
  have e : (setA (noT n)).toList = setL (noT n) := rfl
  rw [e, run_storeCells_at Tryz.prog pb 23 109 (setL (noT n)) 0 _ w h.c (by rw [setL_len, pgA_size]; omega) (u8L_one _), setL_len]
  simp only [Nat.add_zero]
  have e2 : ((pgA jb X.good (.slice (some ⟨kb, 0, none⟩) n kc) (noT n) X.now.h mb (.slice sa ss.length sc)).toList.take 23 ++ setL (noT n) ++ (pgA jb X.good (.slice (some ⟨kb, 0, none⟩) n kc) (noT n) X.now.h mb (.slice sa ss.length sc)).toList.drop (23 + 16)).toArray = pgA jb X.good (.slice (some ⟨kb, 0, none⟩) n kc) (noT n) X.now.h mb (.slice sa ss.length sc) := by
    have e3 : (pgA jb X.good (.slice (some ⟨kb, 0, none⟩) n kc) (noT n) X.now.h mb (.slice sa ss.length sc)).toList = ([.pointer (some ⟨jb, 0, none⟩)] ++ (hdL X.good ++ [.slice (some ⟨kb, 0, none⟩) n kc])) ++ (setL (noT n) ++ (hdL X.now.h ++ [.map (some mb), .slice sa ss.length sc])) := by simp [pgA, pgL]
    have hl : ([Value.pointer (some ⟨jb, 0, none⟩)] ++ (hdL X.good ++ [Value.slice (some ⟨kb, 0, none⟩) n kc])).length = 23 := by simp [hdL_len]
    apply Array.toList_inj.1
    show _ ++ _ ++ _ = _
    rw [e3, ← hl, List.take_left, List.drop_append, List.drop_eq_nil_of_le (by omega), List.nil_append, show ∀ a : Nat, a + 16 - a = 16 by omega, ← setL_len (noT n), List.drop_left, List.append_assoc]
  rw [e2, setRow_self w pb _ _ _ h.c]
end
def KpRel (h0 : Nat) (F : Nat → Prop) (w : World) (S : Nat → Prop) (g : Nat) (D : Dk) (pb jb n : Nat) (X : Px) (k : Nat) (wr : World) : Prop := ∃ F1, Pgr h0 F1 wr S g D pb jb n (X.kepTo n D k) ∧ Fr F w F1 wr ∧ Below h0 w wr
section
variable {h0 : Nat} {F : Nat → Prop} {w : World} {S : Nat → Prop} {g : Nat} {D : Dk} {pb jb n : Nat} {X : Px}
set_option maxRecDepth 100000 in
set_option maxHeartbeats 4000000 in
theorem pkeep_any (h : Pgr h0 F w S g D pb jb n X) (hD : Asks n D) : Calls Tryz.prog 63 #[.pointer (some ⟨pb, 0, none⟩)] w fun e w' => e = .returned (.tuple #[]) ∧ PTo h0 F w g D pb jb n (X.kepTo n D n) w' := by
  obtain ⟨hok, hn2, hn12⟩ := h.ok
  have HOK : Hid (X.Ok n ∧ Asks n D) := ⟨hok, hD⟩
  obtain ⟨_, _, kb0, kc0, c22⟩ := h.cells
  have HI : Hid (KpRel h0 F w S g D pb jb n X 0 w) := ⟨F, by
    have : X.kepTo n D 0 = X := by unfold Px.kepTo; rw [kepL_zero D hok.kept]
    rw [this]
    exact h, Fr.refl _ _, Below.refl _ _⟩
  clear h hok
  go_enter Tryz.func63, Tryz.ntmps63
  go_wp2
  go_loopw [2, 3, 4, 5, 6, 12] (fun _ _ _ _ _ v wr => ∃ k : Nat, k ≤ n ∧ v = .int .i64 (k : Int) ∧ KpRel h0 F w S g D pb jb n X k wr) (fun _ _ _ _ _ v _ => n - (intOf v).toNat)
  case atStart => exact ⟨0, by omega, rfl, HI.out⟩
  case round =>
    clear HI c22
    obtain ⟨k, hk, rfl, hrel⟩ := hrel
    obtain ⟨F1, ⟨hok1, kb, kc, mb, sa, sc, ss, hP⟩, hf, hb⟩ := hrel
    obtain ⟨c0, c22, c39, c60, c61⟩ := hP.cells
    by_cases hlt : k < n
    · have kk : (k : Int) < (n : Int) := by omega
      have hlk0 := hP.m.look k (by omega)
      have HX : Hid ((X.kepTo n D k).now.m = X.now.m) := rfl
      rw [HX.out] at hlk0
      cases hm : X.now.m k with
      | some s =>
        have hlk : (Instr.lookup 103 (.map (some mb)) (.int .i64 (k : Int)) true).run Tryz.prog wr = .ok (.tuple #[.agg #[.int .i64 (k : Int), .string s], .bool true]) wr := by
          rw [hlk0]
          unfold lookV
          rw [hm]
          rfl
        obtain ⟨W1, hW1⟩ : ∃ W1, wr.alloc (.cells #[.int .i64 (k : Int), .string s] 32) = W1 := ⟨_, rfl⟩
        have hB1 : Below wr.heap.size wr W1 := by rw [← hW1]; exact (Below.refl _ wr).alloc (Nat.le_refl _) _
        have hP1 := hP.below hB1
        have e0 := hP1.cells.1
        have HJR := jread_any hP1.disk hP1.jat (by omega) HOK.out.2.len HOK.out.2.up HOK.out.2.sz k hlt
        have hq : pageAt D.seen (1 + 4 * n + 4 * k) = pgOf n D k := rfl
        rw [hq] at HJR
        have HP1 : Hid (Pl h0 (mor F1 wr W1) W1 S g D pb jb n kb kc mb sa sc ss (X.kepTo n D k) ∧ Fr F w (mor F1 wr W1) W1 ∧ Below h0 w W1) := ⟨hP1, hf.trans (Fr.below hB1), hb.trans (hB1.mono hP.h0w)⟩
        have HKL : Hid (X.kepL n D (k + 1) = (X.kepL n D k).set k (pgOf n D k)) := kepL_yes hlt hm
        obtain ⟨pg, hpg⟩ : ∃ pg, pgOf n D k = pg := ⟨_, rfl⟩
        rw [hpg] at HJR HKL
        clear hP hP1 hlk0 hm c0 c22 c39 c61 hf hb hB1 hpg hq hok1 HX
        go_wp2_with fail
        refine HJR.mono ?_
        rintro e V ⟨rfl, hV⟩
        have hP2 := HP1.out.1.below hV
        obtain ⟨d0, d22, _, _, _⟩ := hP2.cells
        have ck : V.cell? ⟨kb, k, none⟩ = some (.string ((X.kepTo n D k).kept.getD k ByteArray.empty)) := own_at hP2.k (by rw [strsV_at, List.getD_eq_getElem?_getD, List.getElem?_eq_getElem (by show k < (X.kepL n D k).length; rw [kepL_len]; exact hlt)]; rfl)
        have fk := own_fro hP2.k k
        have hrow := own_put hP2.k k (.string pg)
        rw [strsV_set] at hrow
        have hp := Put1.set (i := k) (v := .string pg) (own_cells hP2.k (x := kb) rfl).choose_spec
        have hT := hP2.turnK hrow hp.2.1 hp.2.2
        have HE : Hid (KpRel h0 F w S g D pb jb n X (k + 1) (V.setCell ⟨kb, k, none⟩ (.string pg))) := by
          refine ⟨mor (mor F1 wr W1) W1 V, ⟨kep_ok HOK.out.1 D (k + 1), kb, kc, mb, sa, sc, ss, ?_⟩, (HP1.out.2.1.trans (Fr.below hV)).trans hT.2.1, (HP1.out.2.2.trans (hV.mono HP1.out.1.h0w)).trans hT.2.2⟩
          have e : X.kepTo n D (k + 1) = { X.kepTo n D k with kept := (X.kepL n D k).set k pg } := by
            unfold Px.kepTo
            rw [HKL.out]
          rw [e]
          exact hT.1
        obtain ⟨kp, hkp⟩ : ∃ kp, (X.kepTo n D k).kept.getD k ByteArray.empty = kp := ⟨_, rfl⟩
        rw [hkp] at ck
        clear HJR hV hP2 HP1 hrow hp hT hkp HKL e0
        go_wp2
        exact ⟨⟨k + 1, by omega, by go_num, HE.out⟩, by simp [intOf]; omega⟩
      | none =>
        have hlk : (Instr.lookup 103 (.map (some mb)) (.int .i64 (k : Int)) true).run Tryz.prog wr = .ok (.tuple #[.agg #[.int .i64 0, .string ⟨#[]⟩], .bool false]) wr := by
          rw [hlk0]
          unfold lookV
          rw [hm]
          rfl
        have hB1 : Below wr.heap.size wr (wr.alloc (.cells #[.int .i64 0, .string ⟨#[]⟩] 32)) := (Below.refl _ wr).alloc (Nat.le_refl _) _
        have hP1 := hP.below hB1
        have hlt2 := hP1.ltorn
        have HT := phas_any (noT n) k (by omega) (wr.alloc (.cells #[.int .i64 0, .string ⟨#[]⟩] 32))
        rw [torn_none] at HT
        have HP1 : Hid (Pl h0 (mor F1 wr (wr.alloc (.cells #[.int .i64 0, .string ⟨#[]⟩] 32))) (wr.alloc (.cells #[.int .i64 0, .string ⟨#[]⟩] 32)) S g D pb jb n kb kc mb sa sc ss (X.kepTo n D k) ∧ Fr F w (mor F1 wr (wr.alloc (.cells #[.int .i64 0, .string ⟨#[]⟩] 32))) (wr.alloc (.cells #[.int .i64 0, .string ⟨#[]⟩] 32)) ∧ Below h0 w (wr.alloc (.cells #[.int .i64 0, .string ⟨#[]⟩] 32))) := ⟨hP1, hf.trans (Fr.below hB1), hb.trans (hB1.mono hP.h0w)⟩
        have HKL : Hid (X.kepL n D (k + 1) = X.kepL n D k) := kepL_no hm
        clear hP hP1 hlk0 hm c0 c22 c39 c61 hf hb hB1 hok1 HX
        go_wp2_with (refine wpList_load_w (by kernel_rfl) _ _ rfl rfl hlt2 ?_)
        refine HT.mono ?_
        rintro e V ⟨rfl, hV⟩
        have HE : Hid (KpRel h0 F w S g D pb jb n X (k + 1) V) := by
          refine ⟨_, ⟨kep_ok HOK.out.1 D (k + 1), kb, kc, mb, sa, sc, ss, ?_⟩, HP1.out.2.1.trans (Fr.below hV), HP1.out.2.2.trans (hV.mono HP1.out.1.h0w)⟩
          have e : X.kepTo n D (k + 1) = X.kepTo n D k := by unfold Px.kepTo; rw [HKL.out]
          rw [e]
          exact HP1.out.1.below hV
        clear HT hV HP1 HKL hlt2
        go_wp2
        exact ⟨⟨k + 1, by omega, by go_num, HE.out⟩, by simp [intOf]; omega⟩
    · obtain rfl : k = n := by omega
      have kk : ¬ (k : Int) < (k : Int) := by omega
      have hst := hP.store_torn
      have hsz := setA_size (noT k)
      have HE : Hid (PTo h0 F w g D pb jb k (X.kepTo k D k) wr) := ⟨F1, S, ⟨hok1, kb, kc, mb, sa, sc, ss, hP⟩, hf, hb⟩
      clear hP hf hb hok1 c0 c22 c39 c60 c61
      go_wp2_with (refine wpList_torn k rfl rfl ?_)
      refine bodyPost_end (v := .tuple #[]) ?_ rfl ⟨rfl, HE.out⟩
      simp [results, go_sem]
end
end Go.Proofs.YtdgffocmdkadpaaGreat
namespace Go.Proofs.YtdgffocmdkadpaaGreat
open Go.RowKit Go.Shelf Pg
theorem infoCh : (Tryz.prog.info? 32).map (fun i => (i.zero, i.size, i.bytes)) = some (some (.agg #[.int .i64 0, .string ByteArray.empty]), 2, 24) := by kernel_rfl
theorem addC_own (w : World) {base n c b : Nat} {a : Option Addr} {l : List Chi} {q : Chi} (h : w.ownsRow base 32 2 (.slice a n c) n (chiV l)) (hr : w.heap[b]? = some (.cells #[.int .i64 q.1, .string q.2] 32 (0, 0))) (hn : n + 1 ≤ 1000000) (hb : base ≤ w.heap.size) :
    ∃ a' c' w', (∀ ty, (Builtin.append_ #[33, 33] ty #[.slice a n c, .slice (some ⟨b, 0, none⟩) 1 1]).run Tryz.prog w = .ok (.slice a' (n + 1) c') w') ∧ w'.ownsRow base 32 2 (.slice a' (n + 1) c') (n + 1) (chiV (l ++ [q])) ∧ w.grownBy w' (ob a) := by
  obtain ⟨i, hi, hz, hs, hbb⟩ := info_of infoCh
  have h2 : Rw (fun _ => True) w 32 2 (some ⟨b, 0, none⟩) 1 1 [.int .i64 q.1, .string q.2] := by
    refine ⟨rfl, Nat.le_refl _, by unfold maxLen; omega, fun _ => ⟨b, 0, rfl, lt_of_some hr, trivial, fun j u hu => ?_⟩⟩
    rw [Nat.zero_add, cell_of_row _ b _ _ _ _ hr]
    simpa using hu
  obtain ⟨a', c', w', k1, k2, k3, _⟩ := app_own w 33 32 i _ 2 24 Tryz.underlying33 hi hz hs hbb rfl (by omega) h h2 (fun u hu => by simp at hu; rcases hu with rfl | rfl <;> rfl) (by omega) (by omega) hb
  refine ⟨a', c', w', k1, ?_, k3⟩
  rw [chiV_snoc]
  exact k2
def Pg.Hd.next (h : Hd) : Hd := { h with ser := h.ser + 1 }
def Px.nxt (X : Px) : Px := { X with now := ⟨X.now.h.next, X.now.m⟩ }
theorem hdA_ser (h : Hd) (s : Nat) : (hdA h).setIfInBounds 0 (.int .u64 (s : Int)) = hdA { h with ser := s } := rfl
/-- What is laid: the head, and the pages that are changed. -/
def Px.lays (n : Nat) (X : Px) (D : Dk) (ids : List Nat) : List Chi := (0, strOf X.now.h.next.text) :: ids.map fun (i : Nat) => ((i : Int), X.read n D (i : Int))
theorem lays_take (n : Nat) (X : Px) (D : Dk) (ids : List Nat) (k i : Nat) (h : ids[k]? = some i) : X.lays n D (ids.take (k + 1)) = X.lays n D (ids.take k) ++ [((i : Int), X.read n D (i : Int))] := by
  obtain ⟨hk, e⟩ := List.getElem?_eq_some_iff.1 h
  unfold Px.lays
  rw [List.take_succ_eq_append_getElem hk, e]
  simp
section
variable {jb : Nat} {good : Hd} {kv : Value} {tn : List Bool} {now : Hd} {mb : Nat} {sv : Value}
theorem pgL_now (now' : Hd) : (pgL jb good kv tn now mb sv).take 39 ++ hdL now' ++ (pgL jb good kv tn now mb sv).drop (39 + 21) = pgL jb good kv tn now' mb sv := by
  have e : ∀ (h : Hd), pgL jb good kv tn h mb sv = ([.pointer (some ⟨jb, 0, none⟩)] ++ (hdL good ++ ([kv] ++ setL tn))) ++ (hdL h ++ [Value.map (some mb), sv]) := fun h => by simp [pgL]
  have hl : ([Value.pointer (some ⟨jb, 0, none⟩)] ++ (hdL good ++ ([kv] ++ setL tn))).length = 39 := by simp [hdL_len, setL_len]
  rw [e now, e now']
  rw [← hl, List.take_left, List.drop_append, List.drop_eq_nil_of_le (by omega), List.nil_append, show ∀ a : Nat, a + 21 - a = 21 by omega, ← hdL_len now, List.drop_left, List.append_assoc]
theorem pgL_good (good' : Hd) : (pgL jb good kv tn now mb sv).take 1 ++ hdL good' ++ (pgL jb good kv tn now mb sv).drop (1 + 21) = pgL jb good' kv tn now mb sv := by
  have hl : [Value.pointer (some ⟨jb, 0, none⟩)].length = 1 := rfl
  unfold pgL
  rw [← hl, List.take_left, List.drop_append, List.drop_eq_nil_of_le (by omega), List.nil_append, show ∀ a : Nat, a + 21 - a = 21 by omega, ← hdL_len good, List.drop_left, List.append_assoc]
end
section
variable {h0 : Nat} {F : Nat → Prop} {w : World} {S : Nat → Prop} {g : Nat} {D : Dk} {pb jb n kb kc mb : Nat} {sa : Option Addr} {sc : Nat} {ss : List (Sn × Nat)} {X : Px}
theorem Pl.store_hd39 (h : Pl h0 F w S g D pb jb n kb kc mb sa sc ss X) (hd : Hd) : (storeCells ⟨pb, 39, none⟩ (hdA hd).toList).run Tryz.prog w = .ok () (w.setRow pb (pgA jb X.good (.slice (some ⟨kb, 0, none⟩) n kc) (noT n) hd mb (.slice sa ss.length sc))) := by
  rw [store_head w pb 39 hd _ _ h.c (by rw [pgA_size]; omega)]
  have e2 : (pgA jb X.good (.slice (some ⟨kb, 0, none⟩) n kc) (noT n) X.now.h mb (.slice sa ss.length sc)).toList = pgL jb X.good (.slice (some ⟨kb, 0, none⟩) n kc) (noT n) X.now.h mb (.slice sa ss.length sc) := rfl
  rw [e2, pgL_now]
  rfl
theorem Pl.store_hd1 (h : Pl h0 F w S g D pb jb n kb kc mb sa sc ss X) (hd : Hd) : (storeCells ⟨pb, 1, none⟩ (hdA hd).toList).run Tryz.prog w = .ok () (w.setRow pb (pgA jb hd (.slice (some ⟨kb, 0, none⟩) n kc) (noT n) X.now.h mb (.slice sa ss.length sc))) := by
  rw [store_head w pb 1 hd _ _ h.c (by rw [pgA_size]; omega)]
  have e2 : (pgA jb X.good (.slice (some ⟨kb, 0, none⟩) n kc) (noT n) X.now.h mb (.slice sa ss.length sc)).toList = pgL jb X.good (.slice (some ⟨kb, 0, none⟩) n kc) (noT n) X.now.h mb (.slice sa ss.length sc) := rfl
  rw [e2, pgL_good]
  rfl
end
section
variable {h0 : Nat} {F : Nat → Prop} {w w' : World} {S : Nat → Prop} {g : Nat} {D : Dk} {pb jb n kb kc mb : Nat} {sa : Option Addr} {sc : Nat} {ss : List (Sn × Nat)} {X : Px}
theorem Pl.turnN (h : Pl h0 F w S g D pb jb n kb kc mb sa sc ss X) (hc : w'.heap[pb]? = some (.cells (pgA jb X.good (.slice (some ⟨kb, 0, none⟩) n kc) (noT n) X.now.h.next mb (.slice sa ss.length sc)) 109 (0, 0))) (hu : Upd (fun x => x = pb) w w') (hs : w'.heap.size = w.heap.size) : Pl h0 F w' S g D pb jb n kb kc mb sa sc ss X.nxt ∧ Fr F w F w' ∧ Below h0 w w' := by
  obtain ⟨f1, f2, ho, f3, f4, f5⟩ := h.frame (.inl rfl) hu hs
  have ap := h.apart
  have hl := h.lt
  exact ⟨{ h with
    disk := f1
    jat := f2
    c := hc
    k := own_keep h.k (fun x hx => by cases hx; exact ho kb ap.pk.symm (hl _ (.inr (.inl rfl))))
    m := h.m.keep (ho mb ap.pm.symm (hl _ (.inr (.inr (.inl rfl)))))
    s := own_keep h.s (fun x hx => ho x (fun e => by rw [ob_slice] at hx; exact ap.sp (by rw [hx, e])) (h.s.lt x hx).2)
    sm := fun p hp => (h.sm p hp).keep (ho _ (ap.mp p hp) (h.sm p hp).lt)
    fF := f5
    h0w := by rw [hs]; exact h.h0w }, f3, f4⟩
end
/-- A set of pages at place 23 of a block, whatever it is. -/
def TornRel (pb n : Nat) (V wr : World) : Prop := ∃ (u : List Bool) (cs : Array Value), u.length = n ∧ wr.heap[pb]? = some (.cells cs 109 (0, 0)) ∧ (∀ j, j < 16 → cs[23 + j]? = some (.int .u8 ((bitN u j : Nat) : Int))) ∧ Upd (fun x => x = pb) V wr ∧ wr.heap.size = V.heap.size ∧ 39 ≤ cs.size
theorem TornRel.step {pb n i : Nat} {V wr w' : World} {u : List Bool} {cs : Array Value} (hl : u.length = n) (hi : i < n) (hc : ∀ j, j < 16 → cs[23 + j]? = some (.int .u8 ((bitN u j : Nat) : Int))) (hu : Upd (fun x => x = pb) V wr) (hs : wr.heap.size = V.heap.size) (hz : 39 ≤ cs.size) (hp : Put1 pb (23 + i / 8) (.int .u8 ((bitN (u.set i true) (i / 8) : Nat) : Int)) cs 109 wr w') : TornRel pb n V w' := by
  refine ⟨u.set i true, _, by rw [List.length_set]; exact hl, hp.1, fun j hj => ?_, hu.trans hp.2.1 (fun x hx _ => hx), by rw [hp.2.2]; exact hs, by simpa using hz⟩
  rw [Array.getElem?_setIfInBounds]
  by_cases e : 23 + i / 8 = 23 + j
  · have e2 : i / 8 = j := by omega
    subst e2
    rw [if_pos rfl, if_pos (by omega)]
  · rw [if_neg e, hc j hj, bitN_other u i j true (by omega) (fun x => e (by omega))]
/-- What store leaves when the journal's Commit was broken off. -/
def Broke (h0 : Nat) (F : Nat → Prop) (w : World) (g : Nat) (D : Dk) (w' : World) : Prop := ∃ S', DiskIs w' S' g D ∧ (∀ x, S' x → h0 ≤ x) ∧ (∀ x, F x → ¬ S' x) ∧ Fr F w F w' ∧ Below h0 w w'
def StTo (h0 : Nat) (F : Nat → Prop) (w : World) (g : Nat) (D2 : Dk) (cc pb jb n : Nat) (X : Px) (e : Ending) (w' : World) : Prop := e = .returned (.int .i64 (cc : Int)) ∧ ((cc = 0 ∧ PTo h0 F w g D2 pb jb n X.nxt w') ∨ (cc ≠ 0 ∧ Broke h0 F w g D2 w'))
theorem nxt_ok {n : Nat} {X : Px} (hok : X.Ok n) (hs : X.now.h.ser < 9223372036854775807) : X.nxt.Ok n :=
  { hok with now := ⟨⟨hok.now.h.len, hok.now.h.u0, hok.now.h.k, by show X.now.h.ser + 1 ≤ _; omega⟩, hok.now.m⟩ }
section
variable {h0 : Nat} {F : Nat → Prop} {w : World} {S : Nat → Prop} {g : Nat} {D : Dk} {pb jb n : Nat} {X : Px}
set_option maxRecDepth 100000 in
set_option maxHeartbeats 8000000 in
theorem pstore_any (h : Pgr h0 F w S g D pb jb n X) (hD : Asks n D) (hwr : D.writes + 200 < 1000000) (hser : X.now.h.ser < 9223372036854775807) (ids : List Nat) (hids : ∀ i ∈ ids, X.why n (i : Int) = 0) (hlen : ids.length ≤ 11) (ia : Option Addr) (ic : Nat) (hrow : Rw F w 3 1 ia (ids.length + 1) ic (intsV (0 :: ids))) :
    Calls Tryz.prog 62 #[.pointer (some ⟨pb, 0, none⟩), .slice ia (ids.length + 1) ic] w fun e w' => StTo h0 F w g (comDisk n D (X.lays n D ids)) (comCode n D (X.lays n D ids)) pb jb n X e w' := by
  obtain ⟨hok, hn2, hn12⟩ := h.ok
  have HOK : Hid (X.Ok n ∧ Asks n D ∧ X.nxt.Ok n) := ⟨hok, hD, nxt_ok hok hser⟩
  have HH : Hid (Pgr h0 F w S g D pb jb n X) := h
  obtain ⟨_, kb, kc, mb, sa, sc, ss, hP⟩ := h
  have hln := hP.lnow
  obtain ⟨C, hC⟩ : ∃ C, w.heap.size = C := ⟨_, rfl⟩
  have hz := zero_head n
  obtain ⟨W1, hW1⟩ : ∃ W1, w.alloc (.cells (hdA (hd0 n)) 100) = W1 := ⟨_, rfl⟩
  have hr1 : W1.heap[C]? = some (.cells (hdA (hd0 n)) 100 (0, 0)) := by rw [← hW1, ← hC]; exact heap_alloc_new w _
  have hst := store_hd W1 C X.now.h _ _ hr1 (hdA_size _)
  obtain ⟨W2, hW2⟩ : ∃ W2, W1.setRow C (hdA X.now.h) = W2 := ⟨_, rfl⟩
  rw [hW2] at hst
  have hr2 : W2.heap[C]? = some (.cells (hdA X.now.h) 100 (0, 0)) := by rw [← hW2]; exact setRow_heap W1 C _ _ _ _ hr1
  have hb2 : Below C w W2 := by
    rw [← hW2]
    exact setRow_below (by rw [← hW1, ← hC]; exact (Below.refl _ w).alloc (Nat.le_refl _) _) (Nat.le_refl _) _
  have d0 : W2.cell? ⟨C, 0, none⟩ = some (.int .u64 (X.now.h.ser : Int)) := by rw [cell_of_row W2 C _ _ _ _ hr2]; rfl
  have f0 := frozen_of_row W2 C 0 _ _ hr2
  obtain ⟨sr, hsr⟩ : ∃ sr, X.now.h.ser = sr := ⟨_, rfl⟩
  have HSR : Hid (X.now.h.next = { X.now.h with ser := sr + 1 }) := by show _ = _; unfold Hd.next; rw [hsr]
  rw [hsr] at d0 hser
  have ks : ¬ (sr : Int) = 9223372036854775807 := by omega
  have ksb : ((sr : Int) == 9223372036854775807) = false := by simpa using ks
  have kw : IntKind.u64.wrap ((sr : Int) + 1) = (sr : Int) + 1 := by
    unfold IntKind.wrap
    simp [IntKind.signed, IntKind.bits]
    omega
  obtain ⟨W3, hW3⟩ : ∃ W3, W2.setCell ⟨C, 0, none⟩ (.int .u64 ((sr : Int) + 1)) = W3 := ⟨_, rfl⟩
  have hr3 : W3.heap[C]? = some (.cells (hdA X.now.h.next) 100 (0, 0)) := by
    rw [← hW3, heap_setCell_same W2 C 0 _ _ _ hr2, HSR.out]
    rfl
  have hb3 : Below C w W3 := by rw [← hW3]; exact hb2.setCell (Nat.le_refl _) _
  have hl3 := load_head W3 C _ _ _ hr3
  have HTX := text_any X.now.h.next W3 (fun k hk => by
    have := (HOK.out.2.2.now.h.k k hk).1
    show X.now.h.next.root k < _
    have e : X.nxt.now.h.root k = X.now.h.next.root k := rfl
    omega)
  obtain ⟨tx, htx⟩ : ∃ tx, strOf X.now.h.next.text = tx := ⟨_, rfl⟩
  rw [htx] at HTX
  have H3 : Hid (W3.heap[C]? = some (.cells (hdA X.now.h.next) 100 (0, 0)) ∧ Below C w W3 ∧ strOf X.now.h.next.text = tx) := ⟨hr3, hb3, htx⟩
  obtain ⟨m, hm⟩ : ∃ m, ids.length = m := ⟨_, rfl⟩
  rw [hm] at hrow hlen ⊢
  have HM : Hid (ids.length = m ∧ ∀ i ∈ ids, X.why n (i : Int) = 0) := ⟨hm, hids⟩
  obtain ⟨ib, io, rfl, hib, hiF, hic⟩ := hrow.2.2.2 (by omega)
  have HIC : Hid (∀ j u, (intsV (0 :: ids))[j]? = some u → w.cell? ⟨ib, io + j, none⟩ = some u) := hic
  have HIF : Hid (F ib ∧ ib < w.heap.size) := ⟨hiF, hib⟩
  have hcap : m + 1 ≤ ic ∧ ic ≤ 9223372036854775807 := by have h1 := hrow.2.1; have h2 := hrow.2.2.1; unfold maxLen at h2; omega
  have HP : Hid (Pl h0 F w S g D pb jb n kb kc mb sa sc ss X) := hP
  have hsz := hdA_size X.now.h
  have hszn := hdA_size X.now.h.next
  obtain ⟨cc, hcc⟩ : ∃ cc, comCode n D (X.lays n D ids) = cc := ⟨_, rfl⟩
  obtain ⟨D2, hD2⟩ : ∃ D2, comDisk n D (X.lays n D ids) = D2 := ⟨_, rfl⟩
  have HCC : Hid (comCode n D (X.lays n D ids) = cc ∧ comDisk n D (X.lays n D ids) = D2) := ⟨hcc, hD2⟩
  rw [hcc, hD2]
  clear hcc hD2
  clear hP hr1 hr2 hb2 hr3 hb3 hok hD hids hrow hib hiF hic htx hm
  go_enter Tryz.func62, Tryz.ntmps62
  go_wp2_with (first | (refine wpList_load_w (by kernel_rfl) _ _ rfl rfl hln ?_) | (refine wpList_load_w (by kernel_rfl) _ _ rfl rfl hl3 ?_))
  refine HTX.mono ?_
  rintro e V ⟨rfl, hV⟩
  have hrV : V.heap[C]? = some (.cells (hdA X.now.h.next) 100 (0, 0)) := (hV.block C (lt_of_some H3.out.1)).trans H3.out.1
  have hbV : Below C w V := H3.out.2.1.trans (hV.mono (by have := lt_of_some H3.out.1; omega))
  have hCV : C < V.heap.size := lt_of_some hrV
  obtain ⟨q0, hq0⟩ : ∃ q0, V.heap.size = q0 := ⟨_, rfl⟩
  have HI : Hid ((V.alloc (.cells #[.int .i64 0, .string tx] 32)).ownsRow (C + 1) 32 2 (.slice (some ⟨q0, 0, none⟩) 1 1) 1 (chiV (X.lays n D (ids.take 0))) ∧ Below C w (V.alloc (.cells #[.int .i64 0, .string tx] 32)) ∧ (V.alloc (.cells #[.int .i64 0, .string tx] 32)).heap[C]? = some (.cells (hdA X.now.h.next) 100 (0, 0))) := by
    refine ⟨⟨rfl, .inr ⟨q0, 1, _, rfl, by omega, by rw [← hq0]; exact heap_alloc_new V _, Nat.le_refl _, by unfold maxLen; omega, rfl, ?_⟩⟩, hbV.alloc (by omega) _, by rw [Below.heap_alloc _ _ _ hCV]; exact hrV⟩
    unfold Px.lays
    rw [H3.out.2.2]
    rfl
  clear HTX hV hrV hbV H3 hst hln hl3 hz d0 f0 hW1 hW2 hW3
  go_wp2
  all_goals
    go_loopw [6, 8, 9, 10, 33] (fun v6 _ _ _ v33 wr => ∃ (k : Nat) (a : Option Addr) (c : Nat), k ≤ m ∧ v33 = .int .i64 (k : Int) ∧ v6 = .slice a (k + 1) c ∧ wr.ownsRow (C + 1) 32 2 (.slice a (k + 1) c) (k + 1) (chiV (X.lays n D (ids.take k))) ∧ Below C w wr ∧ wr.heap[C]? = some (.cells (hdA X.now.h.next) 100 (0, 0))) (fun _ _ _ _ v _ => m - (intOf v).toNat)
    case atStart => exact ⟨0, some ⟨q0, 0, none⟩, 1, by omega, rfl, rfl, HI.out⟩
    case round =>
      clear HI
      obtain ⟨k, a, c, hk, rfl, rfl, ho, hbw, hrc⟩ := hrel
      have hbw' : Below w.heap.size w wr := by rw [hC]; exact hbw
      by_cases hlt : k < m
      · first
          | (exfalso; omega)
          | (have kk : (k : Int) < (m : Int) := by omega
             obtain ⟨i, hi⟩ : ∃ i, ids[k]? = some i := ⟨_, List.getElem?_eq_getElem (by rw [HM.out.1]; exact hlt)⟩
             have cid : wr.cell? ⟨ib, io + 1 + k, none⟩ = some (.int .i64 (i : Int)) := by
               rw [hbw'.cell HIF.out.2, show io + 1 + k = io + (k + 1) by omega]
               refine HIC.out (k + 1) _ ?_
               unfold intsV
               rw [List.map_cons, List.getElem?_cons_succ, List.getElem?_map, hi]
               rfl
             have HRD := pread_any (HH.out.below hbw') HOK.out.2.1.len HOK.out.2.1.up HOK.out.2.1.sz (i : Int)
             rw [HM.out.2 i (List.mem_of_getElem? hi)] at HRD
             have HRD : Calls Tryz.prog 29 #[.pointer (some ⟨pb, 0, none⟩), .int .i64 (i : Int)] wr fun e w' => e = .returned (.tuple #[.string (X.read n D (i : Int)), .int .i64 0]) ∧ Below wr.heap.size wr w' := HRD
             have HLA := lays_take n X D ids k i hi
             obtain ⟨tt, htt⟩ : ∃ tt, X.read n D (i : Int) = tt := ⟨_, rfl⟩
             rw [htt] at HRD HLA
             have HO : Hid (wr.ownsRow (C + 1) 32 2 (.slice a (k + 1) c) (k + 1) (chiV (X.lays n D (ids.take k))) ∧ Below C w wr ∧ wr.heap[C]? = some (.cells (hdA X.now.h.next) 100 (0, 0)) ∧ X.lays n D (ids.take (k + 1)) = X.lays n D (ids.take k) ++ [((i : Int), tt)]) := ⟨ho, hbw, hrc, HLA⟩
             clear ho hbw hrc HLA htt hi hbw'
             go_wp2_with fail
             refine HRD.mono ?_
             rintro e V2 ⟨rfl, hV2⟩
             have hCr : C < wr.heap.size := lt_of_some HO.out.2.2.1
             have hN2 : V2.ownsRow (C + 1) 32 2 (.slice a (k + 1) c) (k + 1) (chiV (X.lays n D (ids.take k))) := own_keep HO.out.1 (fun k hk => hV2.block k (HO.out.1.lt k hk).2)
             have hB2 : Below C w V2 := HO.out.2.1.trans (hV2.mono (by omega))
             have hr2 := (hV2.block C hCr).trans HO.out.2.2.1
             have hs2 : C < V2.heap.size := lt_of_some hr2
             obtain ⟨V3, hV3⟩ : ∃ V3, V2.alloc (.cells #[.int .i64 (i : Int), .string tt] 32) = V3 := ⟨_, rfl⟩
             have hr3 : V3.heap[V2.heap.size]? = some (.cells #[.int .i64 ((i : Int), tt).1, .string ((i : Int), tt).2] 32 (0, 0)) := by rw [← hV3]; exact heap_alloc_new V2 _
             have hB3 : Below C w V3 := by rw [← hV3]; exact hB2.alloc (by omega) _
             have hs3 : C + 1 ≤ V3.heap.size := by rw [← hV3]; simp; omega
             have hN3 : V3.ownsRow (C + 1) 32 2 (.slice a (k + 1) c) (k + 1) (chiV (X.lays n D (ids.take k))) := by rw [← hV3]; exact hN2.alloc _
             have hrc3 : V3.heap[C]? = some (.cells (hdA X.now.h.next) 100 (0, 0)) := by rw [← hV3, Below.heap_alloc _ _ _ hs2]; exact hr2
             obtain ⟨aA, cA, V4, hrA, hoA, hgA⟩ := addC_own V3 hN3 hr3 (by omega) hs3
             have hl3 : ∀ x, ob a = some x → C + 1 ≤ x := fun x hx => (hN3.lt x (by rw [ob_slice]; exact hx)).1
             have HN : Hid (V4.ownsRow (C + 1) 32 2 (.slice aA (k + 1 + 1) cA) (k + 1 + 1) (chiV (X.lays n D (ids.take (k + 1)))) ∧ Below C w V4 ∧ V4.heap[C]? = some (.cells (hdA X.now.h.next) 100 (0, 0))) := ⟨by rw [HO.out.2.2.2]; exact hoA, hB3.grown hgA (by omega) (fun x hx => by have := hl3 x hx; omega), (hgA.block C (by omega) (fun e => by have := hl3 C e.symm; omega)).trans hrc3⟩
             clear HRD hV2 HO hN2 hB2 hr2 hr3 hB3 hN3 hrc3 hoA hgA hl3
             go_wp2_with ((at_builtin; refine wpList_app V3 rfl _ _ _ _ rfl rfl rfl (hrA _) ?_))
             exact ⟨⟨k + 1, aA, cA, by omega, by go_num, rfl, HN.out⟩, by simp [intOf]; omega⟩)
      · obtain rfl : k = m := by omega
        have kk : ¬ (k : Int) < (k : Int) := by omega
        have hids : ids.take k = ids := by rw [← HM.out.1, List.take_length]
        rw [hids] at ho
        have hPw := (HP.out.below hbw').less (F' := F) (fun _ hx => .inl hx)
        obtain ⟨c0, _⟩ := hPw.cells
        have hll : (X.lays n D ids).length = k + 1 := by unfold Px.lays; rw [List.length_cons, List.length_map, HM.out.1]
        have HCM := commit_any hPw.disk hPw.jat hPw.sj (by omega) HOK.out.2.1.len a (k + 1) c (X.lays n D ids) (Ci.own ho hll) (fun x hx => (ho.lt x (by rw [ob_slice]; exact hx)).2) (by omega) hwr
        rw [HCC.out.1, HCC.out.2] at HCM
        have HW : Hid (Pl h0 F wr S g D pb jb n kb kc mb sa sc ss X ∧ Below C w wr ∧ wr.heap[C]? = some (.cells (hdA X.now.h.next) 100 (0, 0))) := ⟨hPw, hbw, hrc⟩
        clear ho hbw hrc hPw hids hll hbw'
        go_wp2_with fail
        refine HCM.mono ?_
        rintro e w5 ⟨rfl, S5, hd5, hu5, hs5⟩
        have hT := HW.out.1.turnD hd5 hu5 hs5
        have hfw : Fr F w F wr := ⟨HW.out.2.1.size, fun _ hx => hx, fun x hx hl => (HW.out.2.1.block x (by rw [← hC]; exact hl))⟩
        have hbh : Below h0 w wr := HW.out.2.1.mono (by rw [← hC]; exact HP.out.h0w)
        have hib5 : ∀ j, j < k + 1 → ∀ x, (0 :: ids)[j]? = some x → w5.cell? ⟨ib, io + j, none⟩ = some (.int .i64 (x : Int)) := fun j hj x hx => by
          rw [World.cell?_of_block (w := wr) (hT.2.1.blk ib HIF.out.1 (Nat.lt_of_lt_of_le HIF.out.2 (by rw [hC]; have := HW.out.2.1.size; omega))), HW.out.2.1.cell (by show ib < C; rw [← hC]; exact HIF.out.2)]
          refine HIC.out j _ ?_
          unfold intsV
          rw [List.getElem?_map, hx]
          rfl
        have H5 : Hid (Pl h0 F w5 S5 g D2 pb jb n kb kc mb sa sc ss X ∧ Fr F w F w5 ∧ Below h0 w w5 ∧ w5.heap[C]? = some (.cells (hdA X.now.h.next) 100 (0, 0)) ∧ ∀ j, j < k + 1 → ∀ x, (0 :: ids)[j]? = some x → w5.cell? ⟨ib, io + j, none⟩ = some (.int .i64 (x : Int))) := by
          refine ⟨hT.1, hfw.trans hT.2.1, hbh.trans hT.2.2, ?_, hib5⟩
          have hCl : C < wr.heap.size := lt_of_some HW.out.2.2
          refine (hu5.block C hCl (fun hs => ?_)).trans HW.out.2.2
          have := HP.out.disk.bd C hs
          omega
        clear HCM hd5 hu5 hs5 hT hfw hbh hib5 c0 HW
        by_cases hc0 : cc = 0
        · subst hc0
          have hlC := load_head w5 C _ _ _ H5.out.2.2.2.1
          have hst := H5.out.1.store_hd39 X.now.h.next
          obtain ⟨w6, hw6⟩ : ∃ w6, w5.setRow pb (pgA jb X.good (.slice (some ⟨kb, 0, none⟩) n kc) (noT n) X.now.h.next mb (.slice sa ss.length sc)) = w6 := ⟨_, rfl⟩
          rw [hw6] at hst
          have HE : Hid (PTo h0 F w g D2 pb jb n X.nxt w6) := by
            have hP5 := H5.out.1
            have hc6 : w6.heap[pb]? = some (.cells (pgA jb X.good (.slice (some ⟨kb, 0, none⟩) n kc) (noT n) X.now.h.next mb (.slice sa ss.length sc)) 109 (0, 0)) := by rw [← hw6]; exact setRow_heap w5 pb _ _ _ _ hP5.c
            have hu6 : Upd (fun x => x = pb) w5 w6 := by
              rw [← hw6]
              exact ⟨rfl, rfl, rfl, by rw [size_setRow]; exact Nat.le_refl _, fun x _ hx => setRow_other w5 pb x _ hx⟩
            have hs6 : w6.heap.size = w5.heap.size := by rw [← hw6, size_setRow]
            have hT6 := hP5.turnN hc6 hu6 hs6
            exact ⟨F, S5, ⟨HOK.out.2.2, kb, kc, mb, sa, sc, ss, hT6.1⟩, H5.out.2.1.trans hT6.2.1, H5.out.2.2.1.trans hT6.2.2⟩
          have hp5 := H5.out.1.lnow
          clear H5 hw6
          go_wp2_with (refine wpList_load_w (by kernel_rfl) _ _ rfl rfl hlC ?_)
          go_ret
          exact ⟨rfl, .inl ⟨rfl, HE.out⟩⟩
        · have kc0 : ¬ (cc : Int) = 0 := by omega
          have kc0b : ((cc : Int) == 0) = false := by simpa using hc0
          have kc0n : ((cc : Int) != 0) = true := by simpa using hc0
          have HI2 : Hid (TornRel pb n w5 w5) := by
            have hP5 := H5.out.1
            refine ⟨noT n, _, by simp [noT], hP5.c, fun j hj => ?_, Upd.refl _ _, rfl, by rw [pgA_size]; omega⟩
            rw [pgA_torn j hj, setL_at _ _ hj]
          have HPB : Hid (ib ≠ pb) := fun e => (HP.out.fF ib HIF.out.1).2.1 (.inl e)
          have HLT : Hid (∀ j, j < k + 1 → ∃ x, (0 :: ids)[j]? = some x ∧ x < n) := fun j hj => by
            cases j with
            | zero => exact ⟨0, rfl, by omega⟩
            | succ j =>
              have hjl : j < ids.length := by rw [HM.out.1]; omega
              obtain ⟨y0, hy0⟩ : ∃ y0, ids[j]? = some y0 := ⟨_, List.getElem?_eq_getElem hjl⟩
              obtain ⟨y, h1, h2, h3, _⟩ := why_zero (HM.out.2 y0 (List.mem_of_getElem? hy0))
              exact ⟨y0, by rw [List.getElem?_cons_succ]; exact hy0, by omega⟩
          go_wp2
          go_loopw [13, 63] (fun _ v wr => ∃ j : Nat, j ≤ k + 1 ∧ v = .int .i64 (j : Int) ∧ TornRel pb n w5 wr) (fun _ v _ => (k + 1) - (intOf v).toNat)
          case atStart => exact ⟨0, by omega, rfl, HI2.out⟩
          case round =>
            clear HI2
            obtain ⟨j, hj, rfl, hrel⟩ := hrel
            by_cases hlt : j < k + 1
            · have kk2 : (j : Int) < (k : Int) + 1 := by omega
              obtain ⟨x, hx, hxn⟩ := HLT.out j hlt
              obtain ⟨u, cs, t1, t2, t3, t4, t5, t6⟩ := hrel
              have hil : ib < w5.heap.size := Nat.lt_of_lt_of_le HIF.out.2 H5.out.2.1.sz
              have cid : wr.cell? ⟨ib, io + j, none⟩ = some (.int .i64 (x : Int)) := by
                rw [World.cell?_of_block (w := w5) (t4.block ib hil HPB.out)]
                exact H5.out.2.2.2.2 j hlt x hx
              have HPA := padd_any u pb 23 x cs 109 wr (by omega) (by omega) t2 t3
              have HRE : Hid (∀ w', Put1 pb (23 + x / 8) (.int .u8 ((bitN (u.set x true) (x / 8) : Nat) : Int)) cs 109 wr w' → TornRel pb n w5 w') := fun w' hp => TornRel.step t1 hxn t3 t4 t5 t6 hp
              clear t1 t2 t3 t4 t5 t6 hx hil
              go_wp2_with fail
              refine HPA.mono ?_
              rintro e V9 ⟨rfl, hV9⟩
              have HN := HRE.out V9 hV9
              have HN : Hid (TornRel pb n w5 V9) := HN
              clear HPA hV9 HRE
              go_wp2
              exact ⟨⟨j + 1, by omega, by go_num, HN.out⟩, by simp [intOf]; omega⟩
            · obtain rfl : j = k + 1 := by omega
              have kk2 : ¬ ((k + 1 : Nat) : Int) < (k : Int) + 1 := by omega
              have HE : Hid (Broke h0 F w g D2 wr) := by
                obtain ⟨u, cs, t1, t2, t3, t4, t5, t6⟩ := hrel
                have hP5 := H5.out.1
                obtain ⟨f1, f2, ho, f3, f4, f5⟩ := hP5.frame (.inl rfl) t4 t5
                exact ⟨S5, f1, hP5.h0S, fun x hx => (hP5.fF x hx).1, H5.out.2.1.trans f3, H5.out.2.2.1.trans f4⟩
              clear hrel
              go_wp2
              go_ret
              exact ⟨rfl, .inr ⟨hc0, HE.out⟩⟩
end
end Go.Proofs.YtdgffocmdkadpaaGreat
