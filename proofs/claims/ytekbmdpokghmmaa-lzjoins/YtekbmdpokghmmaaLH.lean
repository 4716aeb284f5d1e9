/- withToken; Pack's closure. -/
import Derived.Test.YtekbmdpokghmmaaLG
namespace Go.Proofs.Ytekbmdpokghmmaa
open Go.RowKit Lz
/-- What withToken leaves. -/
def WtTo (w : World) (R : Nat) (a : Option Addr) (bs : List UInt8) (n : Nat) (e : Ending) (w' : World) : Prop :=
  ∃ a' c', e = .returned (.slice a' n c') ∧ w'.ownsRow R 5 1 (.slice a' n c') n (bytesV bs) ∧ (ob a' = ob a ∨ ∃ x, ob a' = some x ∧ w.heap.size ≤ x) ∧ Upd (fun x => ob a = some x) w w'
theorem WtTo.mk1 {w W1 W2 : World} {R n : Nat} {a a' : Option Addr} {c' : Nat} {bs : List UInt8} (hb : Below w.heap.size w W1) (ho : W2.ownsRow R 5 1 (.slice a' n c') n (bytesV bs)) (hg : W1.grownBy W2 (ob a)) (ha : ob a' = ob a ∨ ob a' = some W1.heap.size) : WtTo w R a bs n (.returned (.slice a' n c')) W2 := by
  refine ⟨a', c', rfl, ho, ?_, (Upd.of_below (S := fun x => ob a = some x) hb).grown hg (fun k hk _ => hk)⟩
  rcases ha with h | h
  · exact .inl h
  · exact .inr ⟨_, h, hb.size⟩
theorem WtTo.mk2 {w W1 W2 W3 : World} {R n m : Nat} {a a' a2 : Option Addr} {c' c2 : Nat} {bs : List UInt8} (hb : Below w.heap.size w W1) (hg : W1.grownBy W2 (ob a)) (ha : ob a' = ob a ∨ ob a' = some W1.heap.size) (_ : W2.ownsRow R 5 1 (.slice a' m c') m (bytesV bs)) {bs2 : List UInt8} (ho : W3.ownsRow R 5 1 (.slice a2 n c2) n (bytesV bs2)) (hg2 : W2.grownBy W3 (ob a')) (ha2 : ob a2 = ob a' ∨ ob a2 = some W2.heap.size) : WtTo w R a bs2 n (.returned (.slice a2 n c2)) W3 := by
  have hs := hb.size
  have hs2 := hg.size
  refine ⟨a2, c2, rfl, ho, ?_, ?_⟩
  · rcases ha2 with h | h
    · rcases ha with h' | h'
      · exact .inl (h.trans h')
      · exact .inr ⟨_, h.trans h', hs⟩
    · exact .inr ⟨_, h, by omega⟩
  · refine ((Upd.of_below (S := fun x => ob a = some x) hb).grown hg (fun k hk _ => hk)).grown hg2 (fun k hk hl => ?_)
    rcases ha with h | h
    · rw [← h]; exact hk
    · rw [h] at hk; cases hk; omega
set_option maxRecDepth 100000 in
set_option maxHeartbeats 4000000 in
theorem with_own {w : World} {R N c : Nat} {a : Option Addr} {bs : List UInt8} (d : List UInt8) (h1 : 1 ≤ d.length) (h2 : d.length ≤ 128) (h : w.ownsRow R 5 1 (.slice a N c) N (bytesV bs)) (hl : N ≤ 200000) (hR : R ≤ w.heap.size) :
    Calls Try.prog 29 #[.slice a N c, .agg #[.int .i64 0, .int .i64 0, .string (strOf d)]] w (WtTo w R a (bs ++ (UInt8.ofNat (d.length - 1) :: d)) (N + (d.length + 1))) := by
  obtain ⟨C, hC⟩ : ∃ C, w.heap.size = C := ⟨_, rfl⟩
  obtain ⟨x, hx⟩ : ∃ x, UInt8.ofNat (d.length - 1) = x := ⟨_, rfl⟩
  obtain ⟨xn, hxn⟩ : ∃ n, x.toNat = n := ⟨_, rfl⟩
  have hxd : xn = d.length - 1 := by rw [← hxn, ← hx]; exact toNat_of (by omega)
  rw [hx]
  have hbv : bytesV [x] = [.int .u8 (xn : Int)] := by rw [← hxn]; rfl
  obtain ⟨W1, hW1⟩ : ∃ W, w.alloc (.cells #[.int .i64 0, .int .i64 0, .string (strOf d)] 51) = W := ⟨_, rfl⟩
  have hb1 : Below w.heap.size w W1 := by rw [← hW1]; exact (Below.refl _ w).alloc (Nat.le_refl _) _
  have hr1 : W1.heap[C]? = some (.cells #[.int .i64 0, .int .i64 0, .string (strOf d)] 51 (0, 0)) := by rw [← hW1, ← hC]; exact heap_alloc_new w _
  have z1 : W1.cell? ⟨C, 1, none⟩ = some (.int .i64 0) := by rw [cell_of_row _ _ _ _ _ _ hr1]; rfl
  have z2 : W1.cell? ⟨C, 2, none⟩ = some (.string (strOf d)) := by rw [cell_of_row _ _ _ _ _ _ hr1]; rfl
  obtain ⟨D, hD⟩ : ∃ D, W1.heap.size = D := ⟨_, rfl⟩
  obtain ⟨V1, hV1⟩ : ∃ V, W1.drew.alloc (.cells #[.int .u8 (xn : Int)] 5) = V := ⟨_, rfl⟩
  have hb2 : Below W1.heap.size W1 V1 := by rw [← hV1]; exact ((Below.refl _ W1).drew).alloc (Nat.le_refl _) _
  have hb3 : Below w.heap.size w V1 := hb1.trans (hb2.mono hb1.size)
  have hnr := newRow W1.drew [x] (by simp)
  rw [hbv] at hnr
  have hnr : Rw (fun _ => True) V1 5 1 (some ⟨D, 0, none⟩) 1 1 (bytesV [x]) := by rw [← hV1, ← hD, hbv]; exact hnr
  have hRs : R ≤ V1.heap.size := by have := hb3.size; omega
  have hra : ∀ x, ob a = some x → x < w.heap.size := fun x hx => (h.lt x (by rw [ob_slice]; exact hx)).2
  have hoV : V1.ownsRow R 5 1 (.slice a N c) N (bytesV bs) := own_keep h (fun x hx => hb3.block x (hra x (by rw [← ob_slice a N c]; exact hx)))
  obtain ⟨a3, c3, W5, hr5, ho5, hg5, ha5⟩ := app_bytes V1 hoV hnr (by omega) hRs
  obtain ⟨a4, c4, W7, hr7, ho7, hg7, ha7⟩ := app_str W5 ho5 d (by omega) (by have := hg5.size; omega)
  have hWT : WtTo w R a (bs ++ (x :: d)) (N + (d.length + 1)) (.returned (.slice a4 (N + (d.length + 1)) c4)) W7 := by
    have e : N + 1 + d.length = N + (d.length + 1) := by omega
    have := WtTo.mk2 hb3 hg5 ha5 ho5 ho7 hg7 ha7
    rw [e, List.append_assoc] at this
    exact this
  have y1 : V1.cell? ⟨C, 2, none⟩ = some (.string (strOf d)) := keepc hb2 z2
  have hCl : C < V1.heap.size := by have := hb2.size; have := lt_of_some hr1; omega
  have y2 : W5.cell? ⟨C, 2, none⟩ = some (.string (strOf d)) := by
    rw [World.cell?_of_block (w := V1) (hg5.block C hCl (fun e => by have := hra C e.symm; omega))]; exact y1
  have y3 : W7.cell? ⟨C, 2, none⟩ = some (.string (strOf d)) := by
    rw [World.cell?_of_block (w := W5) (hg7.block C (by have := hg5.size; omega) (fun e => by
      rcases ha5 with h | h
      · have := hra C (by rw [← h]; exact e.symm); omega
      · rw [h] at e; cases e; omega))]
    exact y2
  have hz : (strOf d).size = d.length := strOf_size d
  have wsz : IntKind.i64.wrap (((strOf d).size : Int) - 1) = (xn : Int) := by rw [hz, IntKind.wrap_i64]; omega
  have w8 : IntKind.u8.wrap (xn : Int) = (xn : Int) := by rw [IntKind.wrap_u8']; omega
  have HWT : Hid (WtTo w R a (bs ++ (x :: d)) (N + (d.length + 1)) (.returned (.slice a4 (N + (d.length + 1)) c4)) W7) := hWT
  have hr7' : ∀ ty, (Builtin.append_ #[22, 9] ty #[.slice a3 (N + 1) c3, .string (strOf d)]).run Try.prog W5 = .ok (.slice a4 (N + (d.length + 1)) c4) W7 := fun ty => by
    have := hr7 ty
    rw [show N + 1 + d.length = N + (d.length + 1) by omega] at this
    exact this
  have HY : Hid (V1.cell? ⟨C, 2, none⟩ = some (.string (strOf d)) ∧ W5.cell? ⟨C, 2, none⟩ = some (.string (strOf d)) ∧ W7.cell? ⟨C, 2, none⟩ = some (.string (strOf d))) := ⟨y1, y2, y3⟩
  clear h hb1 hr1 hb2 hb3 hnr hRs hra hoV ho5 hg5 ha5 ho7 hg7 ha7 hWT hr7 y1 y2 y3 hz hx hbv hxn hxd hCl
  generalize strOf d = T at *
  go_enter Try.func29, Try.ntmps29
  go_wp2
  refine wp_region_held_drew (S := fun V => V.cell? ⟨C, 2, none⟩ = some (.string T)) (by kernel_rfl) (z2) (fun hHeld => ?_)
  refine wpAnyH_take (i := 0) (v := ?v0) rfl (by kernel_rfl) (by kernel_rfl) (by kernel_rfl) (fun _ _ _ h => h) (Or.inl ⟨by first | kernel_rfl | rfl, ?y0⟩) hHeld ?r0
  case y0 => (intro W hSW; (try dsimp only at hSW); go_simp; (try with_reducible rfl))
  change wpAnyH _ _ _ _ _ _ _ (Act.put _ (some 9) _) _
  simp only [Act.put, List.setIfInBounds_toArray, List.set_cons_zero, List.set_cons_succ]
  refine wpAnyH_take (i := 1) (v := ?v1) rfl (by kernel_rfl) (by kernel_rfl) (by kernel_rfl) (fun _ _ _ h => h) (Or.inl ⟨by first | kernel_rfl | rfl, ?y1⟩) hHeld ?r1
  case y1 => (intro W hSW; (try dsimp only at hSW); go_simp; (try with_reducible rfl))
  change wpAnyH _ _ _ _ _ _ _ (Act.put _ (some 10) _) _
  simp only [Act.put, List.setIfInBounds_toArray, List.set_cons_zero, List.set_cons_succ]
  refine wpAnyH_take (i := 2) (v := ?v2) rfl (by kernel_rfl) (by kernel_rfl) (by kernel_rfl) (fun _ _ _ h => h) (Or.inl ⟨by first | kernel_rfl | rfl, ?y2⟩) hHeld ?r2
  case y2 => (intro W hSW; (try dsimp only at hSW); go_simp; (try with_reducible rfl))
  change wpAnyH _ _ _ _ _ _ _ (Act.put _ (some 11) _) _
  simp only [Act.put, List.setIfInBounds_toArray, List.set_cons_zero, List.set_cons_succ]
  refine wpAnyH_take (i := 3) (v := ?v3) rfl (by kernel_rfl) (by kernel_rfl) (by kernel_rfl) (fun _ _ _ h => h) (Or.inl ⟨by first | kernel_rfl | rfl, ?y3⟩) hHeld ?r3
  case y3 => (intro W hSW; (try dsimp only at hSW); go_simp; (try with_reducible rfl))
  change wpAnyH _ _ _ _ _ _ _ (Act.put _ (some 12) _) _
  simp only [Act.put, List.setIfInBounds_toArray, List.set_cons_zero, List.set_cons_succ]
  refine wpAnyH_take (i := 4) (v := ?v4) rfl (by kernel_rfl) (by kernel_rfl) (by kernel_rfl) (fun _ _ _ h => h) (Or.inl ⟨by first | kernel_rfl | rfl, ?y4⟩) hHeld ?r4
  case y4 => (intro W hSW; (try dsimp only at hSW); go_simp; (try with_reducible rfl))
  change wpAnyH _ _ _ _ _ _ _ (Act.put _ (some 13) _) _
  simp only [Act.put, List.setIfInBounds_toArray, List.set_cons_zero, List.set_cons_succ]
  refine wpAnyH_take (i := 5) (v := ?v5) rfl (by kernel_rfl) (by kernel_rfl) (by kernel_rfl) (fun _ _ _ h => h) (Or.inl ⟨by first | kernel_rfl | rfl, ?y5⟩) hHeld ?r5
  case y5 => (intro W hSW; (try dsimp only at hSW); go_simp; (try with_reducible rfl))
  change wpAnyH _ _ _ _ _ _ _ (Act.put _ (some 14) _) _
  simp only [Act.put, List.setIfInBounds_toArray, List.set_cons_zero, List.set_cons_succ]
  refine wpAnyH_take (i := 8) (v := ?v8) rfl (by kernel_rfl) (by kernel_rfl) (by kernel_rfl) (fun _ _ _ h => h) (Or.inl ⟨by first | kernel_rfl | rfl, ?y8⟩) hHeld ?r8
  case y8 => (intro W hSW; (try dsimp only at hSW); go_simp; (try with_reducible rfl))
  change wpAnyH _ _ _ _ _ _ _ (Act.put _ (some 17) _) _
  simp only [Act.put, List.setIfInBounds_toArray, List.set_cons_zero, List.set_cons_succ]
  refine wpAnyH_take (i := 9) (v := ?v9) rfl (by kernel_rfl) (by kernel_rfl) (by kernel_rfl) (fun _ _ _ h => h) (Or.inl ⟨by first | kernel_rfl | rfl, ?y9⟩) hHeld ?r9
  case y9 => (intro W hSW; (try dsimp only at hSW); go_simp; (try with_reducible rfl))
  change wpAnyH _ _ _ _ _ _ _ (Act.put _ (some 18) _) _
  simp only [Act.put, List.setIfInBounds_toArray, List.set_cons_zero, List.set_cons_succ]
  refine wpAnyH_ready (rs := [6]) (by kernel_rfl) (by simp) ?_
  refine AllReadyH.cons rfl (fun K hK => ?_) AllReadyH.nil
  go_simp
  refine hK.out _ _ (HY.out.1) (fun hHeld => ?_)
  clear hK K
  try simp only [Act.put, List.setIfInBounds_toArray, List.set_cons_zero, List.set_cons_succ]
  refine wpAnyH_ready (rs := [7]) (by kernel_rfl) (by simp) ?_
  refine AllReadyH.cons rfl (fun K hK => ?_) AllReadyH.nil
  rw [if_pos (by rfl)]
  refine wp_app V1 _ _ _ _ rfl rfl rfl (hr5 _) ?_
  skip
  refine hK.out _ _ (HY.out.2.1) (fun hHeld => ?_)
  clear hK K
  change wpAnyH _ _ _ _ _ _ _ (Act.put _ (some 16) _) _
  simp only [Act.put, List.setIfInBounds_toArray, List.set_cons_zero, List.set_cons_succ]
  refine wpAnyH_ready (rs := [10]) (by kernel_rfl) (by simp) ?_
  refine AllReadyH.cons rfl (fun K hK => ?_) AllReadyH.nil
  rw [if_pos (by rfl)]
  refine wp_app W5 _ _ _ _ rfl rfl rfl (hr7' _) ?_
  skip
  refine hK.out _ _ (HY.out.2.2) (fun hHeld => ?_)
  clear hK K
  change wpAnyH _ _ _ _ _ _ _ (Act.put _ (some 19) _) _
  simp only [Act.put, List.setIfInBounds_toArray, List.set_cons_zero, List.set_cons_succ]
  refine wpAnyH_take (i := 11) (v := ?v11) rfl (by kernel_rfl) (by kernel_rfl) (by kernel_rfl) (fun _ _ _ h => h) (Or.inl ⟨by first | kernel_rfl | rfl, ?y11⟩) hHeld ?r11
  case y11 => (intro W hSW; (try dsimp only at hSW); go_simp; (try with_reducible rfl))
  change wpAnyH _ _ _ _ _ _ _ (Act.put _ (some 4) _) _
  simp only [Act.put, List.setIfInBounds_toArray, List.set_cons_zero, List.set_cons_succ]
  refine wpAnyH_done (by kernel_rfl) ?_ _
  clear hHeld
  go_wp2
  go_ret
  exact HWT.out
set_option maxRecDepth 100000 in
set_option maxHeartbeats 4000000 in
theorem with_ear {w : World} {R N c b s : Nat} {a : Option Addr} {bs : List UInt8} (h1 : 3 ≤ s) (h2 : s ≤ 130) (h3 : 1 ≤ b) (h4 : b ≤ 65536) (h : w.ownsRow R 5 1 (.slice a N c) N (bytesV bs)) (hl : N ≤ 200000) (hR : R ≤ w.heap.size) :
    Calls Try.prog 29 #[.slice a N c, .agg #[.int .i64 (b : Int), .int .i64 (s : Int), .string (strOf [])]] w (WtTo w R a (bs ++ [UInt8.ofNat (s + 125), UInt8.ofNat ((b - 1) / 256), UInt8.ofNat ((b - 1) % 256)]) (N + 3)) := by
  obtain ⟨C, hC⟩ : ∃ C, w.heap.size = C := ⟨_, rfl⟩
  obtain ⟨D, hD⟩ : ∃ D, b - 1 = D := ⟨_, rfl⟩
  obtain ⟨p, hp⟩ : ∃ p, D / 256 = p := ⟨_, rfl⟩
  obtain ⟨q, hq⟩ : ∃ q, D % 256 = q := ⟨_, rfl⟩
  rw [hD, hp, hq]
  have hbv : bytesV [UInt8.ofNat (s + 125), UInt8.ofNat p, UInt8.ofNat q] = [.int .u8 ((s : Int) + 125), .int .u8 ((D : Int) / 256), .int .u8 (q : Int)] := by
    show [Value.int .u8 (((UInt8.ofNat (s + 125)).toNat : Nat) : Int), Value.int .u8 (((UInt8.ofNat p).toNat : Nat) : Int), Value.int .u8 (((UInt8.ofNat q).toNat : Nat) : Int)] = _
    rw [toNat_of (by omega), toNat_of (by omega), toNat_of (by omega), show ((s + 125 : Nat) : Int) = (s : Int) + 125 by omega, show (p : Int) = (D : Int) / 256 by omega]
  obtain ⟨W1, hW1⟩ : ∃ W, w.alloc (.cells #[.int .i64 (b : Int), .int .i64 (s : Int), .string (strOf [])] 51) = W := ⟨_, rfl⟩
  have hb1 : Below w.heap.size w W1 := by rw [← hW1]; exact (Below.refl _ w).alloc (Nat.le_refl _) _
  have hr1 : W1.heap[C]? = some (.cells #[.int .i64 (b : Int), .int .i64 (s : Int), .string (strOf [])] 51 (0, 0)) := by rw [← hW1, ← hC]; exact heap_alloc_new w _
  have z0 : W1.cell? ⟨C, 0, none⟩ = some (.int .i64 (b : Int)) := by rw [cell_of_row _ _ _ _ _ _ hr1]; rfl
  have z1 : W1.cell? ⟨C, 1, none⟩ = some (.int .i64 (s : Int)) := by rw [cell_of_row _ _ _ _ _ _ hr1]; rfl
  obtain ⟨E, hE⟩ : ∃ D, W1.heap.size = D := ⟨_, rfl⟩
  obtain ⟨V1, hV1⟩ : ∃ V, W1.alloc (.cells #[.int .u8 ((s : Int) + 125), .int .u8 ((D : Int) / 256), .int .u8 (q : Int)] 5) = V := ⟨_, rfl⟩
  have hb2 : Below W1.heap.size W1 V1 := by rw [← hV1]; exact (Below.refl _ W1).alloc (Nat.le_refl _) _
  have hb3 : Below w.heap.size w V1 := hb1.trans (hb2.mono hb1.size)
  have hnr := newRow W1 [UInt8.ofNat (s + 125), UInt8.ofNat p, UInt8.ofNat q] (by simp)
  rw [hbv] at hnr
  have hnr : Rw (fun _ => True) V1 5 1 (some ⟨E, 0, none⟩) 3 3 (bytesV [UInt8.ofNat (s + 125), UInt8.ofNat p, UInt8.ofNat q]) := by rw [← hV1, ← hE, hbv]; exact hnr
  have hRs : R ≤ V1.heap.size := by have := hb3.size; omega
  have hra : ∀ x, ob a = some x → x < w.heap.size := fun x hx => (h.lt x (by rw [ob_slice]; exact hx)).2
  have hoV : V1.ownsRow R 5 1 (.slice a N c) N (bytesV bs) := own_keep h (fun x hx => hb3.block x (hra x (by rw [← ob_slice a N c]; exact hx)))
  obtain ⟨a3, c3, W5, hr5, ho5, hg5, ha5⟩ := app_bytes V1 hoV hnr (by omega) hRs
  have HWT : Hid (WtTo w R a (bs ++ [UInt8.ofNat (s + 125), UInt8.ofNat p, UInt8.ofNat q]) (N + 3) (.returned (.slice a3 (N + 3) c3)) W5) := WtTo.mk1 hb3 ho5 hg5 ha5
  have ks : ¬ (s : Int) = 0 := by omega
  have ks2 : ((s : Int) == 0) = false := by simp; omega
  have wb : IntKind.i64.wrap ((b : Int) - 1) = (D : Int) := by rw [IntKind.wrap_i64]; omega
  have ws : IntKind.i64.wrap ((s : Int) + 125) = (s : Int) + 125 := by rw [IntKind.wrap_i64]; omega
  have w8 : IntKind.u8.wrap ((s : Int) + 125) = (s : Int) + 125 := by rw [IntKind.wrap_u8']; omega
  have w9 : IntKind.u8.wrap (D : Int) = (q : Int) := by rw [IntKind.wrap_u8']; omega
  clear h hb1 hr1 hb2 hb3 hnr hRs hra hoV ho5 hg5 ha5 hbv
  generalize strOf [] = T at *
  go_enter Try.func29, Try.ntmps29
  go_wp2_with (refine wpList_app V1 rfl _ _ _ _ rfl rfl rfl (hr5 _) ?_)
  go_ret
  exact HWT.out
end Go.Proofs.Ytekbmdpokghmmaa
