/- Rows that closures make; Unpack's closure. -/
import Derived.Test.YtekbmdpokghmmaaLD
import Derived.Laws.MakeOwn
import Derived.Deep.RegionLaw
namespace Go.Proofs.Ytekbmdpokghmmaa
open Go.RowKit Lz
/-- A variable with a row of one's own. -/
def OutR (w : World) (R B ty e sz : Nat) (a : Option Addr) (n c : Nat) (xs : List Value) : Prop :=
  R ≤ B ∧ w.heap[B]? = some (.cells #[.slice a n c] ty (0, 0)) ∧ ob a ≠ some B ∧ w.ownsRow R e sz (.slice a n c) n xs
theorem OutR.keep {w w' : World} {R B ty e sz : Nat} {a : Option Addr} {n c : Nat} {xs : List Value} (h : OutR w R B ty e sz a n c xs) (hB : w'.heap[B]? = w.heap[B]?) (ha : ∀ x, ob a = some x → w'.heap[x]? = w.heap[x]?) : OutR w' R B ty e sz a n c xs :=
  ⟨h.1, hB.trans h.2.1, h.2.2.1, own_keep h.2.2.2 (fun k hk => ha k (by rw [← ob_slice a n c]; exact hk))⟩
theorem OutR.lt {w : World} {R B ty e sz : Nat} {a : Option Addr} {n c : Nat} {xs : List Value} (h : OutR w R B ty e sz a n c xs) : B < w.heap.size ∧ ∀ x, ob a = some x → R ≤ x ∧ x < w.heap.size :=
  ⟨lt_of_some h.2.1, fun x hx => h.2.2.2.lt x (by rw [ob_slice]; exact hx)⟩
theorem OutR.below {w w' : World} {R B ty e sz : Nat} {a : Option Addr} {n c : Nat} {xs : List Value} (h : OutR w R B ty e sz a n c xs) (hb : Below w.heap.size w w') : OutR w' R B ty e sz a n c xs :=
  h.keep (hb.block B h.lt.1) (fun x hx => hb.block x (h.lt.2 x hx).2)
/-- What a call makes of it. -/
def OutTo (w : World) (R B ty e sz : Nat) (a : Option Addr) (n : Nat) (xs : List Value) (w' : World) : Prop :=
  ∃ a' c', OutR w' R B ty e sz a' n c' xs ∧ (∀ x, ob a' = some x → ob a = some x ∨ w.heap.size ≤ x) ∧ Upd (fun x => x = B ∨ ob a = some x) w w'
def InvR (w0 : World) (R B ty e sz : Nat) (cnt : List Tk → Nat) (enc : List Tk → List Value) (W : World) (ts : List Tk) (F : Nat → Prop) : Prop :=
  ∃ a c, OutR W R B ty e sz a (cnt ts) c (enc ts) ∧ (F = fun x => x = B ∨ ob a = some x) ∧ Below R w0 W
theorem lyv_of {w0 : World} {R B ty e sz size f : Nat} {cnt : List Tk → Nat} {enc : List Tk → List Value} {lb : Array Value}
    (en : ∀ args w, (callFunc f args).run Try.prog w = .ok (.enter f args) w)
    (go : ∀ W ts t a c, OutR W R B ty e sz a (cnt ts) c (enc ts) → Goes size 0 (ts ++ [t]) → Calls Try.prog f (#[.agg #[.int .i64 (t.b : Int), .int .i64 (t.s : Int), .string (strOf t.d)]] ++ lb) W fun e' w' => e' = .returned (.tuple #[]) ∧ OutTo W R B ty e sz a (cnt (ts ++ [t])) (enc (ts ++ [t])) w') :
    LyV R size f lb (InvR w0 R B ty e sz cnt enc) := by
  refine ⟨en, ?_, ?_, ?_⟩
  · rintro W ts F ⟨a, c, h, rfl, hb⟩
    have := h.lt
    refine ⟨by have := h.1; omega, fun x hx => ?_⟩
    rcases hx with rfl | hx
    · exact ⟨h.1, h.lt.1⟩
    · exact h.lt.2 x hx
  · rintro W ts t F ⟨a, c, h, rfl, hb⟩ hg
    refine (go W ts t a c h hg).mono ?_
    rintro e' w' ⟨rfl, a', c', h1, h2, h3⟩
    refine ⟨rfl, _, ⟨a', c', h1, rfl, ?_⟩, ?_, h3⟩
    · refine hb.trans (h3.below ?_ ?_)
      · have := h.1; have := h.lt.1; omega
      · rintro k (rfl | hk)
        · exact h.1
        · exact (h.lt.2 k hk).1
    · rintro x (rfl | hx)
      · exact .inl (.inl rfl)
      · rcases h2 x hx with h2 | h2
        · exact .inl (.inr h2)
        · exact .inr h2
  · rintro W W' ts F ⟨a, c, h, rfl, hb⟩ hB hk
    exact ⟨a, c, h.keep (hk B (.inl rfl)) (fun x hx => hk x (.inr hx)), rfl, hb.trans hB⟩
theorem OutTo.step {w w1 w2 : World} {R B ty e sz : Nat} {a : Option Addr} {n n2 c1 : Nat} {a1 : Option Addr} {xs2 : List Value} {xs : List Value} (h0 : OutR w R B ty e sz a n c1 xs) (h1 : ∀ x, ob a1 = some x → ob a = some x ∨ w.heap.size ≤ x) (h2 : Upd (fun x => x = B ∨ ob a = some x) w w1) (h3 : OutTo w1 R B ty e sz a1 n2 xs2 w2) : OutTo w R B ty e sz a n2 xs2 w2 := by
  obtain ⟨a2, c2, k1, k2, k3⟩ := h3
  refine ⟨a2, c2, k1, fun x hx => ?_, h2.trans k3 ?_⟩
  · rcases k2 x hx with k | k
    · exact h1 x k
    · exact .inr (Nat.le_trans h2.size k)
  · rintro x (rfl | hx) hl
    · exact .inl rfl
    · rcases h1 x hx with h | h
      · exact .inr h
      · omega
/-- The variable is written anew. -/
theorem OutTo.set {w w1 w2 : World} {R B ty e sz : Nat} {a a2 : Option Addr} {n c m c2 : Nat} {xs ys : List Value} (h : OutR w R B ty e sz a n c xs) (hb : Below w.heap.size w w1) (hg : w1.grownBy w2 (ob a)) (ha : ob a2 = ob a ∨ ob a2 = some w1.heap.size) (ho : w2.ownsRow R e sz (.slice a2 m c2) m ys) :
    w2.heap[B]? = some (.cells #[.slice a n c] ty (0, 0)) ∧ OutTo w R B ty e sz a m ys (w2.setCell ⟨B, 0, none⟩ (.slice a2 m c2)) := by
  have hB1 := (h.below hb).2.1
  have hlt := h.lt
  have hs := hb.size
  have hne : ob a2 ≠ some B := by
    rcases ha with e1 | e1
    · rw [e1]; exact h.2.2.1
    · rw [e1]; intro e2; cases e2; have := hlt.1; omega
  have hB2 : w2.heap[B]? = some (.cells #[.slice a n c] ty (0, 0)) := (hg.block B (by have := hlt.1; omega) (fun e => h.2.2.1 e.symm)).trans hB1
  refine ⟨hB2, a2, c2, ⟨h.1, ?_, hne, ?_⟩, ?_, ?_⟩
  · rw [heap_setCell_same _ _ _ _ _ _ hB2]; rfl
  · refine own_keep ho (fun x hx => heap_setCell_other _ _ _ _ (fun e1 => ?_))
    rw [ob_slice] at hx
    rw [e1] at hx
    exact hne hx
  · intro x hx
    rcases ha with e1 | e1
    · exact .inl (by rw [← e1]; exact hx)
    · rw [e1] at hx; cases hx; exact .inr hs
  · refine Upd.setCell (S := fun x => x = B ∨ ob a = some x) (p := ⟨B, 0, none⟩) ?_ (fun _ => .inl rfl) _
    exact (Upd.of_below (S := fun x => x = B ∨ ob a = some x) hb).grown hg (fun k hk _ => .inr hk)
set_option maxRecDepth 100000 in
set_option maxHeartbeats 8000000 in
theorem unp1_any {w : World} {R B N c : Nat} {a : Option Addr} {bs : List UInt8} (t : Tk) (h : OutR w R B 22 5 1 a N c (bytesV bs)) (hN : N = bs.length) (hb : t.s = 0 ∨ (1 ≤ t.b ∧ t.b ≤ N)) (hl : N + t.told ≤ 200000) :
    Calls Try.prog 23 #[.agg #[.int .i64 (t.b : Int), .int .i64 (t.s : Int), .string (strOf t.d)], .pointer (some ⟨B, 0, none⟩)] w fun e w' => e = .returned (.tuple #[]) ∧ OutTo w R B 22 5 1 a (N + t.told) (bytesV (tellT bs t)) w' := by
  obtain ⟨b, s, d⟩ := t
  unfold Tk.told at hl ⊢
  unfold tellT
  simp only at hb hl ⊢
  obtain ⟨C, hC⟩ : ∃ C, w.heap.size = C := ⟨_, rfl⟩
  obtain ⟨T, hT⟩ : ∃ T, strOf d = T := ⟨_, rfl⟩
  obtain ⟨W1, hW1⟩ : ∃ W, w.alloc (.cells #[.int .i64 (b : Int), .int .i64 (s : Int), .string T] 51) = W := ⟨_, rfl⟩
  have hb1 : Below w.heap.size w W1 := by rw [← hW1]; exact (Below.refl _ w).alloc (Nat.le_refl _) _
  have hr1 : W1.heap[C]? = some (.cells #[.int .i64 (b : Int), .int .i64 (s : Int), .string T] 51 (0, 0)) := by rw [← hW1, ← hC]; exact heap_alloc_new w _
  have z0 : W1.cell? ⟨C, 0, none⟩ = some (.int .i64 (b : Int)) := by rw [cell_of_row _ _ _ _ _ _ hr1]; rfl
  have z1 : W1.cell? ⟨C, 1, none⟩ = some (.int .i64 (s : Int)) := by rw [cell_of_row _ _ _ _ _ _ hr1]; rfl
  have z2 : W1.cell? ⟨C, 2, none⟩ = some (.string T) := by rw [cell_of_row _ _ _ _ _ _ hr1]; rfl
  have h1 := h.below hb1
  have x0 : W1.cell? ⟨B, 0, none⟩ = some (.slice a N c) := by rw [cell_of_row _ _ _ _ _ _ h1.2.1]; rfl
  have hRs : R ≤ W1.heap.size := by have := h1.1; have := h1.lt.1; omega
  obtain ⟨a2, c2, W2, hr2, ho2, hg2, ha2⟩ := app_str W1 h1.2.2.2 d (by omega) hRs
  obtain ⟨hB2, hOT⟩ := OutTo.set h hb1 hg2 ha2 ho2
  rw [hT] at hr2 ⊢
  obtain ⟨M, hM⟩ : ∃ M, N + d.length = M := ⟨_, rfl⟩
  rw [hM] at hr2 hOT
  have f2 := frozen_of_row W2 B 0 _ _ hB2
  have x2 : W2.cell? ⟨B, 0, none⟩ = some (.slice a N c) := by rw [cell_of_row _ _ _ _ _ _ hB2]; rfl
  obtain ⟨W3, hW3⟩ : ∃ W3, W2.setCell ⟨B, 0, none⟩ (.slice a2 M c2) = W3 := ⟨_, rfl⟩
  rw [hW3] at hOT
  have hC3 : W3.heap[C]? = some (.cells #[.int .i64 (b : Int), .int .i64 (s : Int), .string T] 51 (0, 0)) := by
    rw [← hW3, heap_setCell_other _ _ _ _ (by show C ≠ B; have := h.lt.1; omega), hg2.block C (lt_of_some hr1) (fun e => by have := h.lt.2 C e.symm; omega)]
    exact hr1
  have y1 : W3.cell? ⟨C, 1, none⟩ = some (.int .i64 (s : Int)) := by rw [cell_of_row _ _ _ _ _ _ hC3]; rfl
  have HO : Hid (OutR w R B 22 5 1 a N c (bytesV bs)) := h
  have HM : Hid (N + d.length = M ∧ (bs ++ d).length = M ∧ w.heap.size = C) := ⟨hM, by rw [List.length_append, ← hN]; exact hM, hC⟩
  have H3 : Hid (OutTo w R B 22 5 1 a M (bytesV (bs ++ d)) W3 ∧ W3.heap[C]? = some (.cells #[.int .i64 (b : Int), .int .i64 (s : Int), .string T] 51 (0, 0))) := ⟨hOT, hC3⟩
  rw [show N + (d.length + s) = M + s by omega]
  clear h hb1 hr1 h1 hRs ho2 hg2 ha2 hB2 hOT hC3 hM hT hN
  go_enter Try.func23, Try.ntmps23
  go_wp2_with (refine wpList_app W1 rfl _ _ _ _ rfl rfl rfl (hr2 _) ?_)
  go_loopw [9] (fun v9 wr => ∃ k : Nat, k ≤ s ∧ v9 = .int .i64 (k : Int) ∧ OutTo w R B 22 5 1 a (M + k) (bytesV (cpy b k (bs ++ d))) wr ∧ wr.heap[C]? = some (.cells #[.int .i64 (b : Int), .int .i64 (s : Int), .string T] 51 (0, 0))) (fun v9 _ => s - (intOf v9).toNat)
  case atStart => exact ⟨0, Nat.zero_le _, rfl, H3.out.1, H3.out.2⟩
  case round =>
    clear H3 x2 f2 hr2 hW3 y1 x0 z0 z1 z2 hW1 hC
    obtain ⟨k, hk, rfl, hot, hrC⟩ := hrel
    by_cases hlt : k < s
    · have kk : (k : Int) < (s : Int) := by omega
      have hb : 1 ≤ b ∧ b ≤ N := hb.resolve_left (by omega)
      obtain ⟨g1, c1, ho, ha, hu⟩ := hot
      obtain ⟨o, ho'⟩ : ∃ o, cpy b k (bs ++ d) = o := ⟨_, rfl⟩
      have hol : o.length = M + k := by rw [← ho', cpy_len, HM.out.2.1]
      rw [ho'] at ho
      obtain ⟨P, hP⟩ : ∃ P, M + k = P := ⟨_, rfl⟩
      rw [hP] at ho hol
      have hNM : N ≤ M := by have := HM.out.1; omega
      obtain ⟨g, rfl⟩ : ∃ g, g1 = some ⟨g, 0, none⟩ := by
        obtain ⟨g, cap, e, _⟩ := own_some ho.2.2.2 (fun e => by simp only [Value.slice.injEq] at e; omega)
        simp only [Value.slice.injEq] at e
        exact ⟨g, e.1⟩
      have hcp := own_cap ho.2.2.2
      have hPl : P < 200000 := by have := HM.out.1; omega
      obtain ⟨J, hJ⟩ : ∃ J, P - b = J := ⟨_, rfl⟩
      have wj : IntKind.i64.wrap ((P : Int) - (b : Int)) = (J : Int) := by rw [IntKind.wrap_i64]; omega
      have kj : (J : Int) < (P : Int) := by omega
      obtain ⟨x, hx⟩ : ∃ x, o.getD J 0 = x := ⟨_, rfl⟩
      obtain ⟨xn, hxn⟩ : ∃ n, x.toNat = n := ⟨_, rfl⟩
      have cj : wr.cell? ⟨g, J, none⟩ = some (.int .u8 (xn : Int)) := by
        refine own_at ho.2.2.2 ?_
        rw [← hxn, ← hx]
        unfold bytesV
        simp [List.getElem?_eq_getElem (show J < o.length by omega), List.getD_eq_getElem?_getD]
      have cB : wr.cell? ⟨B, 0, none⟩ = some (.slice (some ⟨g, 0, none⟩) P c1) := by rw [cell_of_row _ _ _ _ _ _ ho.2.1]; rfl
      have cC : wr.cell? ⟨C, 0, none⟩ = some (.int .i64 (b : Int)) := by rw [cell_of_row _ _ _ _ _ _ hrC]; rfl
      obtain ⟨V1, hV1⟩ : ∃ V, wr.drew.alloc (.cells #[.int .u8 (xn : Int)] 5) = V := ⟨_, rfl⟩
      obtain ⟨D, hD⟩ : ∃ D, wr.heap.size = D := ⟨_, rfl⟩
      have hbq : Below wr.heap.size wr V1 := by rw [← hV1]; exact ((Below.refl _ wr).drew).alloc (Nat.le_refl _) _
      have uB := keepc hbq cB
      have uC := keepc hbq cC
      have uj := keepc hbq cj
      have hbv : bytesV [x] = [.int .u8 (xn : Int)] := by rw [← hxn]; rfl
      have hbw : Below wr.heap.size wr V1 := by rw [← hV1]; exact ((Below.refl _ wr).drew).alloc (Nat.le_refl _) _
      have hnr := newRow wr.drew [x] (by simp)
      rw [hbv] at hnr
      have hnr : Rw (fun _ => True) V1 5 1 (some ⟨D, 0, none⟩) 1 1 (bytesV [x]) := by rw [← hV1, ← hD, hbv]; exact hnr
      have hRs : R ≤ V1.heap.size := by have := hbw.size; have := ho.1; have := ho.lt.1; omega
      have hl2 : P + 1 ≤ 1000000 := by omega
      obtain ⟨a3, c3, W5, hr5, ho5, hg5, ha5⟩ := app_bytes V1 ((ho.below hbw).2.2.2) hnr hl2 hRs
      obtain ⟨hB5, hOT⟩ := OutTo.set ho hbw hg5 ha5 ho5
      have f5 := frozen_of_row W5 B 0 _ _ hB5
      have x5 : W5.cell? ⟨B, 0, none⟩ = some (.slice (some ⟨g, 0, none⟩) P c1) := by rw [cell_of_row _ _ _ _ _ _ hB5]; rfl
      have hot := OutTo.step HO.out ha hu hOT
      obtain ⟨W6, hW6⟩ : ∃ W, W5.setCell ⟨B, 0, none⟩ (.slice a3 (P + 1) c3) = W := ⟨_, rfl⟩
      have hCl := lt_of_some hrC
      have hgC : g ≠ C := fun e => by
        rcases ho.2.2.2.2 with ⟨e2, _⟩ | ⟨g', cp, cur, e2, _, hr, _⟩
        · cases e2
        · cases e2
          rw [e, hrC] at hr
          cases hr
      have hrC6 : W6.heap[C]? = some (.cells #[.int .i64 (b : Int), .int .i64 (s : Int), .string T] 51 (0, 0)) := by
        rw [← hW6, heap_setCell_other _ _ _ _ (by show C ≠ B; have := HO.out.lt.1; have := HM.out.2.2; omega), hg5.block C (by have := hbw.size; omega) (fun e => hgC (by cases e; rfl)), hbw.block C hCl]
        exact hrC
      rw [hW6] at hot
      have H6 : Hid (OutTo w R B 22 5 1 a (M + (k + 1)) (bytesV (cpy b (k + 1) (bs ++ d))) W6 ∧ W6.heap[C]? = some (.cells #[.int .i64 (b : Int), .int .i64 (s : Int), .string T] 51 (0, 0))) := by
        refine ⟨?_, hrC6⟩
        rw [cpy_snoc, ho', hol, hJ, hx, show M + (k + 1) = P + 1 by omega]
        exact hot
      clear ho ha hu ho' hol hx hxn hbv hbw hnr hRs hl2 ho5 hg5 ha5 hB5 hOT hot hrC6 hgC hCl hJ hP
      go_wp2
      go_region_law (rw [if_pos (by rfl)]; refine wp_app V1 (.tmp 11) (.tmp 20) 22 22 rfl rfl rfl (hr5 _) ?_)
      all_goals
        clear hr5 x5 f5 uB uC uj cj cB cC hnr hbq hV1 hW6 wj kj kk
        go_wp2
        exact ⟨⟨k + 1, by omega, by go_num, H6.out⟩, by simp [intOf]; omega⟩
    · obtain rfl : s = k := by omega
      have kk : ¬ (s : Int) < (s : Int) := by omega
      have HOT : Hid (OutTo w R B 22 5 1 a (M + s) (bytesV (cpy b s (bs ++ d))) wr) := hot
      clear hot
      go_wp2
      refine bodyPost_end (v := .tuple #[]) ?_ rfl ⟨rfl, HOT.out⟩
      simp [results, go_sem]
end Go.Proofs.Ytekbmdpokghmmaa
