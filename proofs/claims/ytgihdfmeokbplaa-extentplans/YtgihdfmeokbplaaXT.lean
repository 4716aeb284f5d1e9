/- Walk over Encode. -/
import Derived.Test.YtgihdfmeokbplaaXR
import Derived.Test.YtgihdfmeokbplaaEC
namespace Go.Proofs.Ytgihdfmeokbplaa
open Go.RowKit Ex
/-- The bytes that were put so far: their variable, their row. -/
def OutB (w : World) (B : Nat) (a : Option Addr) (c : Nat) (bs : List UInt8) : Prop := w.heap[B]? = some (.cells #[.slice a bs.length c] 48 (0, 0)) ∧ w.ownsRow (B + 1) 5 1 (.slice a bs.length c) bs.length (bytesV bs)
theorem OutB.below {w w' : World} {B : Nat} {a : Option Addr} {c : Nat} {bs : List UInt8} (h : OutB w B a c bs) (hb : Below w.heap.size w w') : OutB w' B a c bs :=
  ⟨(hb.block B (lt_of_some h.1)).trans h.1, own_keep h.2 (fun x hx => hb.block x (h.2.lt x hx).2)⟩
theorem OutB.fr {w : World} {B : Nat} {a : Option Addr} {c : Nat} {bs : List UInt8} (h : OutB w B a c bs) : ∀ x, ob a = some x → B + 1 ≤ x ∧ x < w.heap.size := fun x hx => h.2.lt x (by rw [ob_slice]; exact hx)
/-- What a put leaves. -/
def PuTo (w : World) (B : Nat) (a : Option Addr) (bs : List UInt8) (w' : World) : Prop := ∃ a' c', OutB w' B a' c' bs ∧ (∀ x, ob a' = some x → ob a = some x ∨ w.heap.size ≤ x) ∧ Upd (fun x => x = B ∨ ob a = some x) w w'
set_option maxRecDepth 100000 in
set_option maxHeartbeats 8000000 in
theorem put1_any {w : World} {B n : Nat} {bs : List UInt8} {a : Option Addr} {c : Nat} (h : OutB w B a c bs) (hn : n ≤ 9223372036854775807) (hl : bs.length ≤ 20000000) : Calls Try.prog 43 #[.int .i64 (n : Int), .pointer (some ⟨B, 0, none⟩)] w fun e w' => e = .returned (.tuple #[]) ∧ PuTo w B a (bs ++ putN n) w' := by
  obtain ⟨h1, h2⟩ := h
  obtain ⟨N, hN⟩ : ∃ N, bs.length = N := ⟨_, rfl⟩
  rw [hN] at h1 h2 hl
  have HB : Hid (w.heap[B]? = some (.cells #[.slice a N c] 48 (0, 0)) ∧ w.ownsRow (B + 1) 5 1 (.slice a N c) N (bytesV bs) ∧ bs.length = N) := ⟨h1, h2, hN⟩
  have x1 : w.drew.cell? ⟨B, 0, none⟩ = some (.slice a N c) := by show w.cell? _ = _; rw [cell_of_row _ _ _ _ _ _ h1]; rfl
  obtain ⟨P, hP⟩ : ∃ P, (putN n).length = P := ⟨_, rfl⟩
  have HPU : Hid (∀ V, Calls Try.prog 44 #[.slice none 0 0, .int .u64 (n : Int)] V fun e w' => e = .returned (.slice (some ⟨V.heap.size, 0, none⟩) P P) ∧ w'.ownsRow V.heap.size 5 1 (.slice (some ⟨V.heap.size, 0, none⟩) P P) P (bytesV (putN n)) ∧ Below V.heap.size V w') := fun V => by
    have h9 := put_any none 0 0 [] n V (Bs.nil V) (by omega) (by omega)
    rw [hP, Nat.zero_add, List.nil_append] at h9
    exact h9
  have HPN : Hid (1 ≤ P ∧ P ≤ 10 ∧ (putN n).length = P) := ⟨by rw [← hP]; exact putN_pos n, by rw [← hP]; exact putN_le10 n (by omega), hP⟩
  have hwu : IntKind.u64.wrap (n : Int) = (n : Int) := by rw [IntKind.wrap_u64]; omega
  obtain ⟨i0, hi0, hz0, hzs, hzb⟩ := info_parts info5
  clear h1 h2 hN hP
  go_enter Try.func43, Try.ntmps43
  go_wp2
  refine wp_region_held_drew (S := fun _ => True) (by kernel_rfl) (trivial) (fun hHeld => ?_)
  refine wpAnyH_take (i := 1) (v := ?vz1) rfl (by kernel_rfl) (by kernel_rfl) (by kernel_rfl) (fun _ _ _ h => h) (Or.inl ⟨by first | kernel_rfl | rfl, ?yz1⟩) hHeld ?rz1
  case yz1 => (intro W hSW; (try dsimp only at hSW); go_simp; (try with_reducible rfl))
  change wpAnyH _ _ _ _ _ _ _ (Act.put _ (some 4) _) _
  simp only [Act.put, List.setIfInBounds_toArray, List.set_cons_zero, List.set_cons_succ]
  refine wpAnyH_take (i := 2) (v := ?vz2) rfl (by kernel_rfl) (by kernel_rfl) (by kernel_rfl) (fun _ _ _ h => h) (Or.inl ⟨by first | kernel_rfl | rfl, ?yz2⟩) hHeld ?rz2
  case yz2 => (intro W hSW; (try dsimp only at hSW); go_simp; (try with_reducible rfl))
  change wpAnyH _ _ _ _ _ _ _ (Act.put _ (some 5) _) _
  simp only [Act.put, List.setIfInBounds_toArray, List.set_cons_zero, List.set_cons_succ]
  refine wpAnyH_ready (rs := [0, 3]) (by kernel_rfl) (by simp) ?_
  refine AllReadyH.cons rfl (fun K hK => ?_) (AllReadyH.cons rfl (fun K hK => ?_) AllReadyH.nil)
  · go_simp
    refine hK.out _ _ (hHeld) (fun hHeld => ?_)
    clear hK K
    try simp only [Act.put, List.setIfInBounds_toArray, List.set_cons_zero, List.set_cons_succ]
    refine wpAnyH_ready (rs := [3]) (by kernel_rfl) (by simp) ?_
    refine AllReadyH.cons rfl (fun K hK => ?_) AllReadyH.nil
    go_simp
    refine (HPU.out _).mono ?_
    rintro e V5 ⟨rfl, hrow5, hV5⟩
    refine hK.out _ _ (trivial) (fun hHeld => ?_)
    clear hK K
    try simp only [Act.put, List.setIfInBounds_toArray, List.set_cons_zero, List.set_cons_succ]
    have hB5 : V5.heap[B]? = some (.cells #[.slice a N c] 48 (0, 0)) := (hV5.block B (lt_of_some HB.out.1)).trans HB.out.1
    have hO5 : V5.ownsRow (B + 1) 5 1 (.slice a N c) N (bytesV bs) := own_keep HB.out.2.1 (fun x hx => hV5.block x (HB.out.2.1.lt x hx).2)
    have hcs : ∀ j u, (bytesV (putN n))[j]? = some u → V5.cell? ((⟨w.drew.heap.size, 0, none⟩ : Addr).add j) = some u := fun j u hu => by
      rw [add_at, Nat.zero_add]; exact own_at hrow5 hu
    have HO5 : Hid (V5.ownsRow (B + 1) 5 1 (.slice a N c) N (bytesV bs) ∧ (bytesV (putN n)).length = P * 1 ∧ (∀ j u, (bytesV (putN n))[j]? = some u → V5.cell? ((⟨w.drew.heap.size, 0, none⟩ : Addr).add j) = some u) ∧ V5.heap[B]? = some (.cells #[.slice a N c] 48 (0, 0)) ∧ Below w.heap.size w V5) := ⟨hO5, by rw [bytesV_len, HPN.out.2.2, Nat.mul_one], hcs, hB5, (Below.refl _ w).drew.trans hV5⟩
    clear hrow5 hV5 hB5 hO5 hcs
    refine wpAnyH_ready (rs := [4]) (by kernel_rfl) (by simp) ?_
    refine AllReadyH.cons rfl (fun K hK => ?_) AllReadyH.nil
    rw [if_pos (by rfl)]
    refine wp_append_lies V5 _ _ 48 rfl (B + 1) 5 i0 (.int .u8 0) 1 1 Try.underlying48 hi0 hz0 hzs hzb rfl (by decide) _ N (bytesV bs) rfl HO5.out.1 ⟨w.drew.heap.size, 0, none⟩ P P (bytesV (putN n)) rfl HO5.out.2.1 HO5.out.2.2.1 (bytesV_one _) (by have := HPN.out; omega) (by unfold maxLen; have := HPN.out; omega) (by have := HPN.out; omega) (by have := HO5.out.2.2.2.2.size; have := lt_of_some HB.out.1; omega) _ rfl ?_
    intro g cp w7 hown hgrow hat hlt
    refine hK.out _ _ (trivial) (fun hHeld => ?_)
    clear hK K
    change wpAnyH _ _ _ _ _ _ _ (Act.put _ (some 7) _) _
    simp only [Act.put, List.setIfInBounds_toArray, List.set_cons_zero, List.set_cons_succ]
    have hg1 : B + 1 ≤ g := by
      rcases hat with hat | hat
      · exact (HO5.out.1.lt g hat).1
      · have := HO5.out.2.2.2.2.size; have := lt_of_some HB.out.1; omega
    have hB7 : w7.heap[B]? = some (.cells #[.slice a N c] 48 (0, 0)) := (hgrow.block B (lt_of_some HO5.out.2.2.2.1) (fun e => by have := (HO5.out.1.lt B e.symm).1; omega)).trans HO5.out.2.2.2.1
    have f7 := frozen_of_row w7 B 0 _ _ hB7
    have c7 : w7.cell? ⟨B, 0, none⟩ = some (.slice a N c) := by rw [cell_of_row _ _ _ _ _ _ hB7]; rfl
    have HG9 : Hid (V5.grownBy w7 (ob a) ∧ (ob a = some g ∨ g = V5.heap.size)) := ⟨by rw [← ob_slice a N c]; exact hgrow, by rw [← ob_slice a N c]; exact hat⟩
    have HF : Hid (∀ V, V = w7.setCell ⟨B, 0, none⟩ (.slice (some ⟨g, 0, none⟩) (N + P) cp) → PuTo w B a (bs ++ putN n) V) := fun V hV => by
      subst hV
      have e1 : (bs ++ putN n).length = N + P := by rw [List.length_append, HB.out.2.2, HPN.out.2.2]
      refine ⟨some ⟨g, 0, none⟩, cp, ⟨?_, ?_⟩, fun x hx => ?_, ?_⟩
      · rw [heap_setCell_same _ _ _ _ _ _ hB7, e1]; rfl
      · rw [e1, bytesV_append]
        refine own_keep (W := w7) hown (fun x hx => ?_)
        cases hx
        exact heap_setCell_other _ _ _ _ (by show g ≠ B; omega)
      · cases hx
        rcases HG9.out.2 with hat | hat
        · exact .inl hat
        · exact .inr (by show w.heap.size ≤ g; have := HO5.out.2.2.2.2.size; omega)
      · refine Upd.setCell (S := fun x => x = B ∨ ob a = some x) (p := ⟨B, 0, none⟩) ?_ (fun _ => .inl rfl) _
        exact (Upd.of_below (S := fun x => x = B ∨ ob a = some x) HO5.out.2.2.2.2).grown HG9.out.1 (fun k hk _ => .inr hk)
    clear hown hgrow hat hlt hB7 HO5 hg1
    refine wpAnyH_ready (rs := [5]) (by kernel_rfl) (by simp) ?_
    refine AllReadyH.cons rfl (fun K hK => ?_) AllReadyH.nil
    go_simp
    refine hK.out _ _ (trivial) (fun hHeld => ?_)
    clear hK K
    refine wpAnyH_done (by kernel_rfl) ?_ _
    have HG := HF.out _ rfl
    clear hHeld
    go_wp2
    refine bodyPost_end (v := .tuple #[]) ?_ rfl ⟨rfl, HG⟩
    simp [results, go_sem]
  · go_simp
    refine (HPU.out _).mono ?_
    rintro e V5 ⟨rfl, hrow5, hV5⟩
    refine hK.out _ _ (trivial) (fun hHeld => ?_)
    clear hK K
    try simp only [Act.put, List.setIfInBounds_toArray, List.set_cons_zero, List.set_cons_succ]
    have x5 : V5.cell? ⟨B, 0, none⟩ = some (.slice a N c) := keepc hV5 x1
    refine wpAnyH_ready (rs := [0]) (by kernel_rfl) (by simp) ?_
    refine AllReadyH.cons rfl (fun K hK => ?_) AllReadyH.nil
    go_simp
    refine hK.out _ _ (hHeld) (fun hHeld => ?_)
    clear hK K
    try simp only [Act.put, List.setIfInBounds_toArray, List.set_cons_zero, List.set_cons_succ]
    have hB5 : V5.heap[B]? = some (.cells #[.slice a N c] 48 (0, 0)) := (hV5.block B (lt_of_some HB.out.1)).trans HB.out.1
    have hO5 : V5.ownsRow (B + 1) 5 1 (.slice a N c) N (bytesV bs) := own_keep HB.out.2.1 (fun x hx => hV5.block x (HB.out.2.1.lt x hx).2)
    have hcs : ∀ j u, (bytesV (putN n))[j]? = some u → V5.cell? ((⟨w.drew.heap.size, 0, none⟩ : Addr).add j) = some u := fun j u hu => by
      rw [add_at, Nat.zero_add]; exact own_at hrow5 hu
    have HO5 : Hid (V5.ownsRow (B + 1) 5 1 (.slice a N c) N (bytesV bs) ∧ (bytesV (putN n)).length = P * 1 ∧ (∀ j u, (bytesV (putN n))[j]? = some u → V5.cell? ((⟨w.drew.heap.size, 0, none⟩ : Addr).add j) = some u) ∧ V5.heap[B]? = some (.cells #[.slice a N c] 48 (0, 0)) ∧ Below w.heap.size w V5) := ⟨hO5, by rw [bytesV_len, HPN.out.2.2, Nat.mul_one], hcs, hB5, (Below.refl _ w).drew.trans hV5⟩
    clear hrow5 hV5 hB5 hO5 hcs
    refine wpAnyH_ready (rs := [4]) (by kernel_rfl) (by simp) ?_
    refine AllReadyH.cons rfl (fun K hK => ?_) AllReadyH.nil
    rw [if_pos (by rfl)]
    refine wp_append_lies V5 _ _ 48 rfl (B + 1) 5 i0 (.int .u8 0) 1 1 Try.underlying48 hi0 hz0 hzs hzb rfl (by decide) _ N (bytesV bs) rfl HO5.out.1 ⟨w.drew.heap.size, 0, none⟩ P P (bytesV (putN n)) rfl HO5.out.2.1 HO5.out.2.2.1 (bytesV_one _) (by have := HPN.out; omega) (by unfold maxLen; have := HPN.out; omega) (by have := HPN.out; omega) (by have := HO5.out.2.2.2.2.size; have := lt_of_some HB.out.1; omega) _ rfl ?_
    intro g cp w7 hown hgrow hat hlt
    refine hK.out _ _ (trivial) (fun hHeld => ?_)
    clear hK K
    change wpAnyH _ _ _ _ _ _ _ (Act.put _ (some 7) _) _
    simp only [Act.put, List.setIfInBounds_toArray, List.set_cons_zero, List.set_cons_succ]
    have hg1 : B + 1 ≤ g := by
      rcases hat with hat | hat
      · exact (HO5.out.1.lt g hat).1
      · have := HO5.out.2.2.2.2.size; have := lt_of_some HB.out.1; omega
    have hB7 : w7.heap[B]? = some (.cells #[.slice a N c] 48 (0, 0)) := (hgrow.block B (lt_of_some HO5.out.2.2.2.1) (fun e => by have := (HO5.out.1.lt B e.symm).1; omega)).trans HO5.out.2.2.2.1
    have f7 := frozen_of_row w7 B 0 _ _ hB7
    have c7 : w7.cell? ⟨B, 0, none⟩ = some (.slice a N c) := by rw [cell_of_row _ _ _ _ _ _ hB7]; rfl
    have HG9 : Hid (V5.grownBy w7 (ob a) ∧ (ob a = some g ∨ g = V5.heap.size)) := ⟨by rw [← ob_slice a N c]; exact hgrow, by rw [← ob_slice a N c]; exact hat⟩
    have HF : Hid (∀ V, V = w7.setCell ⟨B, 0, none⟩ (.slice (some ⟨g, 0, none⟩) (N + P) cp) → PuTo w B a (bs ++ putN n) V) := fun V hV => by
      subst hV
      have e1 : (bs ++ putN n).length = N + P := by rw [List.length_append, HB.out.2.2, HPN.out.2.2]
      refine ⟨some ⟨g, 0, none⟩, cp, ⟨?_, ?_⟩, fun x hx => ?_, ?_⟩
      · rw [heap_setCell_same _ _ _ _ _ _ hB7, e1]; rfl
      · rw [e1, bytesV_append]
        refine own_keep (W := w7) hown (fun x hx => ?_)
        cases hx
        exact heap_setCell_other _ _ _ _ (by show g ≠ B; omega)
      · cases hx
        rcases HG9.out.2 with hat | hat
        · exact .inl hat
        · exact .inr (by show w.heap.size ≤ g; have := HO5.out.2.2.2.2.size; omega)
      · refine Upd.setCell (S := fun x => x = B ∨ ob a = some x) (p := ⟨B, 0, none⟩) ?_ (fun _ => .inl rfl) _
        exact (Upd.of_below (S := fun x => x = B ∨ ob a = some x) HO5.out.2.2.2.2).grown HG9.out.1 (fun k hk _ => .inr hk)
    clear hown hgrow hat hlt hB7 HO5 hg1
    refine wpAnyH_ready (rs := [5]) (by kernel_rfl) (by simp) ?_
    refine AllReadyH.cons rfl (fun K hK => ?_) AllReadyH.nil
    go_simp
    refine hK.out _ _ (trivial) (fun hHeld => ?_)
    clear hK K
    refine wpAnyH_done (by kernel_rfl) ?_ _
    have HG := HF.out _ rfl
    clear hHeld
    go_wp2
    refine bodyPost_end (v := .tuple #[]) ?_ rfl ⟨rfl, HG⟩
    simp [results, go_sem]
set_option maxHeartbeats 400000 in
theorem encode_nil (w : World) : Calls Try.prog 19 #[.pointer none] w fun e w' => e = .returned (.slice none 0 0) ∧ w' = w := by
  go_enter Try.func19, Try.ntmps19
  go_wp2
  go_ret
  exact ⟨rfl, rfl⟩
theorem putN10 (n : Nat) (h : n < 2 ^ 64) : (putN n).length ≤ 10 := putN_le10 n h
set_option maxRecDepth 100000 in
set_option maxHeartbeats 8000000 in
theorem encode_any {w : World} {S : Nat → Prop} {ab : Nat} {X : Ar} (h : AIs w S ab X) : Calls Try.prog 19 #[.pointer (some ⟨ab, 0, none⟩)] w fun e w' => ∃ a c, e = .returned (.slice a (encB X).length c) ∧ w'.ownsRow w.heap.size 5 1 (.slice a (encB X).length c) (encB X).length (bytesV (encB X)) ∧ Below w.heap.size w w' := by
  have hok := h.ok
  have hlen := hok.len
  have hszm := hok.s2
  obtain ⟨ha, hc, hL⟩ := h
  have hal : ab < w.heap.size := hL.bd _ hL.Sa
  obtain ⟨B, hB⟩ : ∃ B, w.heap.size = B := ⟨_, rfl⟩
  have HAR : Hid (∀ V, Below B w V → (V.cell? ⟨ab, 0, none⟩ = some (.int .i64 (X.sz : Int)) ∧ V.cell? ⟨ab, 1, none⟩ = some (.slice ha X.hs.length hc)) ∧ SpW V ha X.hs.length hc X.hs) := fun V hV => by
    rw [← hB] at hV
    have h9 := hL.keep (w' := V) (fun x hx => hV.block x (hL.bd x hx))
    exact ⟨⟨h9.cells.1, h9.cells.2.1⟩, h9.sp⟩
  have HX : Hid X.Ok := hok
  have HEN : Hid (∀ k, k ≤ X.hs.length → (putN X.sz ++ putN X.hs.length ++ encT 0 (X.hs.take k)).length ≤ 19000000) := fun k hk => by
    have h1 := putN10 X.sz (by omega)
    have h2 := putN10 X.hs.length (by omega)
    have h3 := encT_len 0 (X.hs.take k) putN10 (fun s hs => by have := sp_i64 hok (List.mem_of_mem_take hs); omega) (by omega)
    rw [List.length_take] at h3
    simp only [List.length_append]
    omega
  obtain ⟨W0, hW0⟩ : ∃ W0, w.alloc (.cells #[.slice none 0 0] 48) = W0 := ⟨_, rfl⟩
  have hb0 : Below B w W0 := by rw [← hW0, ← hB]; exact (Below.refl _ w).alloc (Nat.le_refl _) _
  have hO0 : OutB W0 B none 0 [] := ⟨by rw [← hW0, ← hB]; exact heap_alloc_new w _, World.ownsRow_nil _ _ _ _⟩
  have HO0 : Hid (Below B w W0) := hb0
  have HPB : Hid (∀ (V V' : World) (a : Option Addr) (bs : List UInt8) (c0 : Nat) (b0 : List UInt8), Below B w V → OutB V B a c0 b0 → PuTo V B a bs V' → Below B w V') := fun V V' a bs c0 b0 hV ho hp => by
    obtain ⟨_, _, _, _, hu⟩ := hp
    exact hV.trans (hu.below (by have := hV.size; omega) (fun x hx => hx.elim (fun e => by omega) (fun e => by have := (ho.fr x e).1; omega)))
  have y0 : W0.cell? ⟨ab, 0, none⟩ = some (.int .i64 (X.sz : Int)) := (HAR.out W0 hb0).1.1
  have HP1 := put1_any hO0 (n := X.sz) (by omega) (by simp)
  rw [List.nil_append] at HP1
  obtain ⟨N, hN⟩ : ∃ N, X.hs.length = N := ⟨_, rfl⟩
  have HN : Hid (X.hs.length = N) := hN
  rw [hN] at HAR hlen HEN
  have HOZ : Hid (OutB W0 B none 0 []) := hO0
  clear hL hO0 hb0 hok
  go_enter Try.func19, Try.ntmps19
  go_wp2_with fail
  refine HP1.mono ?_
  rintro e V1 ⟨rfl, hp1⟩
  have HO1 : Hid (Below B w V1) := HPB.out W0 V1 none _ 0 [] HO0.out HOZ.out hp1
  obtain ⟨a1, c1, ho1, _, _⟩ := hp1
  have y1 : V1.cell? ⟨ab, 1, none⟩ = some (.slice ha N hc) := (HAR.out V1 HO1.out).1.2
  have HOA : Hid (OutB V1 B a1 c1 (putN X.sz)) := ho1
  have HP2 := put1_any ho1 (n := N) (by omega) (by have := putN10 X.sz (by omega); omega)
  clear HP1 ho1 y0 HO0 hW0 HOZ
  go_wp2_with fail
  refine HP2.mono ?_
  rintro e V2 ⟨rfl, hp2⟩
  have hb2 := HPB.out V1 V2 a1 _ c1 _ HO1.out HOA.out hp2
  obtain ⟨a2, c2, ho2, _, _⟩ := hp2
  have HO2 : Hid ((∃ a c, OutB V2 B a c (putN X.sz ++ putN N ++ encT 0 (X.hs.take 0))) ∧ Below B w V2) := ⟨⟨a2, c2, by rw [List.take_zero, encT, List.append_nil]; exact ho2⟩, hb2⟩
  have y2 : V2.cell? ⟨ab, 1, none⟩ = some (.slice ha N hc) := (HAR.out V2 HO2.out.2).1.2
  have hcap := (HAR.out V2 HO2.out.2).2.hcp
  clear HP2 ho2 hb2 y1 HO1 HOA
  go_wp2
  go_loopw [5, 29] (fun v5 v29 wr => ∃ k : Nat, k ≤ N ∧ v29 = .int .i64 (k : Int) ∧ v5 = .int .i64 (endOf 0 (X.hs.take k)) ∧ (∃ a c, OutB wr B a c (putN X.sz ++ putN N ++ encT 0 (X.hs.take k))) ∧ Below B w wr) (fun _ v _ => N - (intOf v).toNat)
  case atStart => exact ⟨0, by omega, rfl, rfl, HO2.out⟩
  case round =>
    clear HO2 y2
    obtain ⟨k, hk, rfl, rfl, ⟨oa, oc, ho⟩, hb⟩ := hrel
    by_cases hlt : k < N
    · have kk : (k : Int) < (N : Int) := by omega
      obtain ⟨_, hsp⟩ := HAR.out wr hb
      obtain ⟨b, o, rfl, hbl, hcs⟩ := hsp.hat (by omega)
      obtain ⟨q, hq⟩ : ∃ q, X.hs[k]? = some q := ⟨_, List.getElem?_eq_getElem (by rw [HN.out]; exact hlt)⟩
      obtain ⟨d1, d2⟩ := hcs k q hq
      obtain ⟨W1, hW1⟩ : ∃ W1, wr.alloc (.cells #[.int .i64 q.1, .int .i64 q.2] 37) = W1 := ⟨_, rfl⟩
      obtain ⟨C, hC⟩ : ∃ C, wr.heap.size = C := ⟨_, rfl⟩
      have hbW : Below wr.heap.size wr W1 := by rw [← hW1]; exact (Below.refl _ _).alloc (Nat.le_refl _) _
      have hr1 : W1.heap[C]? = some (.cells #[.int .i64 q.1, .int .i64 q.2] 37 (0, 0)) := by rw [← hW1, ← hC]; exact heap_alloc_new _ _
      have g1 : W1.cell? ⟨C, 0, none⟩ = some (.int .i64 q.1) := by rw [cell_of_row _ _ _ _ _ _ hr1]; rfl
      have hm := sp_i64 HX.out (List.mem_of_getElem? hq)
      obtain ⟨hen1, hen2, hen3⟩ := endOf_take HX.out.g (by omega) k
      have hen4 := hen3 q hq
      obtain ⟨E0, hE0⟩ : ∃ E0, endOf 0 (X.hs.take k) = E0 := ⟨_, rfl⟩
      rw [hE0] at hen1 hen4 ⊢
      obtain ⟨dn, hdn⟩ : ∃ dn : Nat, q.1 - E0 = (dn : Int) := ⟨(q.1 - E0).toNat, by omega⟩
      obtain ⟨sn, hsn⟩ : ∃ sn : Nat, q.2 = (sn : Int) := ⟨q.2.toNat, by omega⟩
      have hw1 : IntKind.i64.wrap (q.1 - E0) = (dn : Int) := by rw [IntKind.wrap_i64]; omega
      have HP1 := put1_any (ho.below hbW) (n := dn) (by omega) (by have := HEN.out k (by omega); omega)
      have HLN : Hid ((putN X.sz ++ putN N ++ encT 0 (X.hs.take k)).length ≤ 19000000) := HEN.out k (by omega)
      have HEQ : Hid (endOf 0 (X.hs.take (k + 1)) = q.1 + q.2 ∧ encT 0 (X.hs.take (k + 1)) = encT 0 (X.hs.take k) ++ (putN dn ++ putN sn)) := by
        have e : X.hs.take (k + 1) = X.hs.take k ++ [q] := by rw [List.take_add_one, hq]; rfl
        rw [e, endOf_snoc, encT_snoc, hE0, hdn, hsn]
        exact ⟨by rw [← hsn]; rfl, rfl⟩
      have HEND : Hid (∀ V, Calls Try.prog 37 #[.agg #[.int .i64 q.1, .int .i64 q.2]] V fun e w' => e = .returned (.int .i64 (q.1 + q.2)) ∧ Below V.heap.size V w') := fun V => end_any q.1 q.2 V ⟨by omega, by omega⟩
      have hBC : B < C := by have := lt_of_some ho.1; omega
      have hbW1 : Below B w W1 := hb.trans (hbW.mono (by omega))
      have HC1 : Hid (W1.heap[C]? = some (.cells #[.int .i64 q.1, .int .i64 q.2] 37 (0, 0)) ∧ B < C ∧ C < W1.heap.size ∧ (∀ x, ob oa = some x → x < C)) := ⟨hr1, hBC, lt_of_some hr1, fun x hx => by have := (ho.fr x hx).2; omega⟩
      have HO1 : Hid (OutB W1 B oa oc (putN X.sz ++ putN N ++ encT 0 (X.hs.take k)) ∧ Below B w W1) := ⟨ho.below hbW, hbW1⟩
      have HSN : Hid (q.2 = (sn : Int)) := hsn
      have hbd : dn ≤ 1048576 ∧ sn ≤ 1048576 := ⟨by omega, by omega⟩
      clear hcs hsp hE0 hdn hq hr1 hbW ho hb hen3 hbW1 hsn
      go_wp2_with fail
      refine HP1.mono ?_
      rintro e V3 ⟨rfl, hp3⟩
      have hb3 := HPB.out W1 V3 oa _ oc _ HO1.out.2 HO1.out.1 hp3
      obtain ⟨a3, c3, ho3, hat3, hu3⟩ := hp3
      have hr3 : V3.heap[C]? = some (.cells #[.int .i64 q.1, .int .i64 q.2] 37 (0, 0)) := (hu3.block C HC1.out.2.2.1 (fun h => h.elim (fun e => by have := HC1.out.2.1; omega) (fun e => by have := HC1.out.2.2.2 C e; omega))).trans HC1.out.1
      have g2 : V3.cell? ⟨C, 1, none⟩ = some (.int .i64 (sn : Int)) := by rw [cell_of_row _ _ _ _ _ _ hr3, ← HSN.out]; rfl
      have HP2 := put1_any ho3 (n := sn) (by omega) (by rw [List.length_append]; have := HLN.out; have := putN10 dn (by omega); omega)
      have HC3 : Hid (V3.heap[C]? = some (.cells #[.int .i64 q.1, .int .i64 q.2] 37 (0, 0)) ∧ (∀ x, ob a3 = some x → x ≠ C) ∧ OutB V3 B a3 c3 (putN X.sz ++ putN N ++ encT 0 (X.hs.take k) ++ putN dn) ∧ Below B w V3) := ⟨hr3, fun x hx e => by rcases hat3 x hx with h9 | h9; have := HC1.out.2.2.2 x h9; omega; have := HC1.out.2.2.1; omega, ho3, hb3⟩
      clear HP1 ho3 hat3 hu3 hr3 hb3 g1
      go_wp2_with fail
      refine HP2.mono ?_
      rintro e V4 ⟨rfl, hp4⟩
      have hb4 := HPB.out V3 V4 a3 _ c3 _ HC3.out.2.2.2 HC3.out.2.2.1 hp4
      obtain ⟨a4, c4, ho4, _, hu4⟩ := hp4
      have hr4 : V4.heap[C]? = some (.cells #[.int .i64 q.1, .int .i64 q.2] 37 (0, 0)) := (hu4.block C (lt_of_some HC3.out.1) (fun h => h.elim (fun e => by have := HC1.out.2.1; omega) (fun e => HC3.out.2.1 C e rfl))).trans HC3.out.1
      have g3 : V4.cell? ⟨C, 0, none⟩ = some (.int .i64 q.1) := by rw [cell_of_row _ _ _ _ _ _ hr4]; rfl
      have g4 : V4.cell? ⟨C, 1, none⟩ = some (.int .i64 q.2) := by rw [cell_of_row _ _ _ _ _ _ hr4]; rfl
      have HO4 : Hid (OutB V4 B a4 c4 (putN X.sz ++ putN N ++ encT 0 (X.hs.take (k + 1))) ∧ Below B w V4) := ⟨by rw [HEQ.out.2, ← List.append_assoc, ← List.append_assoc]; exact ho4, hb4⟩
      clear HP2 ho4 hu4 hr4 hb4 g2 HC3 HO1
      go_wp2_with fail
      refine (HEND.out _).mono ?_
      rintro e V5 ⟨rfl, hV5⟩
      have HO5 : Hid ((∃ a c, OutB V5 B a c (putN X.sz ++ putN N ++ encT 0 (X.hs.take (k + 1)))) ∧ Below B w V5) := ⟨⟨a4, c4, HO4.out.1.below hV5⟩, HO4.out.2.trans (hV5.mono (by have := lt_of_some HO4.out.1.1; omega))⟩
      clear hV5
      go_wp2
      exact ⟨⟨k + 1, by omega, by go_num, by rw [HEQ.out.1], HO5.out⟩, by simp [intOf]; omega⟩
    · obtain rfl : k = N := by omega
      have kk : ¬ (k : Int) < (k : Int) := by omega
      have e1 : putN X.sz ++ putN k ++ encT 0 (X.hs.take k) = encB X := by rw [List.take_of_length_le (by rw [HN.out]; exact Nat.le_refl _), ← HN.out]; rfl
      rw [e1] at ho
      obtain ⟨h1, h2⟩ := ho
      have z1 : wr.cell? ⟨B, 0, none⟩ = some (.slice oa (encB X).length oc) := by rw [cell_of_row _ _ _ _ _ _ h1]; rfl
      have HF : Hid (wr.ownsRow B 5 1 (.slice oa (encB X).length oc) (encB X).length (bytesV (encB X)) ∧ Below B w wr) := ⟨own_base h2 (by omega), hb⟩
      clear h1 h2 hb e1
      go_wp2
      go_ret
      exact ⟨oa, oc, rfl, HF.out⟩
end Go.Proofs.Ytgihdfmeokbplaa
