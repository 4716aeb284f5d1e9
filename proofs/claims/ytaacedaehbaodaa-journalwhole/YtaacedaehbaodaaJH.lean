/- Walks over the statements' pagesOf and sameTexts, and over the document's Why. -/
import Derived.Test.YtaacedaehbaodaaJHW
namespace Go.Proofs.Ytaacedaehbaodaa
open Go.RowKit Go.Shelf
theorem one_row (w : World) (v : Value) (t : TypeId) : ∀ j u, [v][j]? = some u → (w.alloc (.cells #[v] t)).cell? ((⟨w.heap.size, 0, none⟩ : Addr).add j) = some u := by
  intro j u hj
  match j, hj with
  | 0, hj => simp at hj; subst hj; simp [Addr.add]
  | j + 1, hj => simp at hj
set_option maxHeartbeats 400000 in
theorem pages_nil (w : World) : Calls Try.prog 11 #[.pointer none] w fun e w' => e = .returned (.int .i64 0) ∧ w' = w := by
  go_enter Try.func11, Try.ntmps11
  go_wp2
  go_ret
  exact ⟨rfl, rfl⟩
set_option maxHeartbeats 400000 in
theorem pages_any {w : World} {jb g n : Nat} (h : Jat w jb g n) : Calls Try.prog 11 #[.pointer (some ⟨jb, 0, none⟩)] w fun e w' => e = .returned (.int .i64 (n : Int)) ∧ w' = w := by
  obtain ⟨c0, c1⟩ := h.cells
  clear h
  go_enter Try.func11, Try.ntmps11
  go_wp2
  go_ret
  exact ⟨rfl, rfl⟩
/-- What all pages have. -/
def pgs (n : Nat) (K : List ByteArray) : List ByteArray := (List.range n).map fun i => pageAt K (1 + 4 * n + 4 * i)
theorem pgs_len (n : Nat) (K : List ByteArray) : (pgs n K).length = n := by simp [pgs]
theorem pgs_take (n : Nat) (K : List ByteArray) (i : Nat) (h : i < n) : (pgs n K).take (i + 1) = (pgs n K).take i ++ [pageAt K (1 + 4 * n + 4 * i)] := by
  rw [List.take_succ_eq_append_getElem (by rw [pgs_len]; exact h)]
  simp [pgs]
set_option maxRecDepth 100000 in
set_option maxHeartbeats 1000000 in
theorem pagesOf_any {w : World} {S : Nat → Prop} {jb g n : Nat} {D : Dk} (h : DiskIs w S g D) (hj : Jat w jb g n) (hn : n ≤ 128) (hkn : 8 * n + 1 ≤ D.kept.length) (hu : D.up = true) (hsz : ∀ s ∈ D.seen, s.size = 256) :
    Calls Try.prog 17 #[.pointer (some ⟨jb, 0, none⟩)] w fun e w' => ∃ a cap, e = .returned (.slice a n cap) ∧ w'.ownsRow w.heap.size 9 1 (.slice a n cap) n (strsV (pgs n D.seen)) ∧ Below w.heap.size w w' := by
  obtain ⟨i0, hi, hz0, hz1, hz2⟩ := info_parts info9
  have HPG : Hid (∀ W, Below w.heap.size w W → Calls Try.prog 11 #[.pointer (some ⟨jb, 0, none⟩)] W fun e w' => e = .returned (.int .i64 (n : Int)) ∧ w' = W) := fun W hW => pages_any (hj.below hW)
  have HRD : Hid (∀ W i, Below w.heap.size w W → i < n → Calls Try.prog 9 #[.pointer (some ⟨jb, 0, none⟩), .int .i64 (i : Int)] W fun e w' => e = .returned (.tuple #[.string (pageAt D.seen (1 + 4 * n + 4 * i)), .int .i64 0]) ∧ Below W.heap.size W w') := fun W i hW hi => jread_any (h.below hW) (hj.below hW) hn hkn hu hsz i hi
  clear h hj hsz
  go_enter Try.func17, Try.ntmps17
  go_wp2
  go_loopw [3, 4] (fun v iv wr => ∃ (i : Nat) (a : Option Addr) (cap : Nat), i ≤ n ∧ iv = .int .i64 i ∧ v = .slice a i cap ∧ wr.ownsRow w.heap.size 9 1 v i (strsV ((pgs n D.seen).take i)) ∧ Below w.heap.size w wr) (fun _ iv _ => n - (intOf iv).toNat)
  case atStart => exact ⟨0, none, 0, by omega, rfl, rfl, by simpa [strsV] using World.ownsRow_nil _ _ _ _, Below.refl _ _⟩
  case round =>
    obtain ⟨i, a, cap, hin, rfl, rfl, hown, hbel⟩ := hrel
    have HO : Hid (wr.ownsRow w.heap.size 9 1 _ i (strsV ((pgs n D.seen).take i))) := hown
    have HB : Hid (Below w.heap.size w wr) := hbel
    have HP := HPG.out wr hbel
    clear hown hbel
    by_cases hlt : i < n
    · have kk : (i : Int) < (n : Int) := by omega
      have HR := HRD.out wr i HB.out hlt
      have HT0 := pgs_take n D.seen i hlt
      obtain ⟨t, ht⟩ : ∃ t, pageAt D.seen (1 + 4 * n + 4 * i) = t := ⟨_, rfl⟩
      rw [ht] at HR HT0
      have HT : Hid ((pgs n D.seen).take (i + 1) = (pgs n D.seen).take i ++ [t]) := HT0
      clear ht HT0
      go_wp2_with (go_at_call 11; refine HP.mono ?_; rintro e V1 ⟨rfl, hV⟩; subst V1)
      refine HR.mono ?_
      rintro e V1 ⟨rfl, hb1⟩
      have HO1 : Hid (V1.ownsRow w.heap.size 9 1 (.slice a i cap) i (strsV ((pgs n D.seen).take i))) := own_keep HO.out (fun x hx => hb1.block x (HO.out.lt x hx).2)
      have HB1 : Hid (Below w.heap.size w V1) := HB.out.trans (hb1.mono HB.out.size)
      have hbs := HB1.out.size
      clear HR hb1 HO HB HP
      go_wp2_with (at_builtin; refine wpList_append_lies _ rfl _ _ 42 rfl w.heap.size 9 i0 (.string ByteArray.empty) 1 16 Try.underlying42 hi hz0 hz1 hz2 rfl (by decide) _ i (strsV ((pgs n D.seen).take i)) rfl (HO1.out.alloc _) ⟨V1.heap.size, 0, none⟩ 1 1 [.string t] rfl rfl (one_row _ _ _) (by simp [Value.oneCell']) (by omega) (by unfold maxLen; omega) (by omega) (by simp; omega) _ rfl ?_)
      intro g3 c3 w3 hown' hgrow3 hg3 hlt3
      have HO3 : Hid (w3.ownsRow w.heap.size 9 1 (.slice (some ⟨g3, 0, none⟩) (i + 1) c3) (i + 1) (strsV ((pgs n D.seen).take (i + 1)))) := by
        have := hown'
        rw [HT.out]
        simpa [Hid, strsV] using this
      have HB3 : Hid (Below w.heap.size w w3) := Below.grown (HB1.out.alloc HB1.out.size _) hgrow3 (by simp; omega) (fun j hj => (HO1.out.lt _ hj).1)
      clear hown' hgrow3 hg3 hlt3 HO1 HB1
      go_wp2
      exact ⟨⟨i + 1, _, _, by omega, by go_num, rfl, HO3.out, HB3.out⟩, by simp [intOf]; omega⟩
    · obtain rfl : i = n := by omega
      have kk : ¬ (i : Int) < (i : Int) := by omega
      have HE : Hid (wr.ownsRow w.heap.size 9 1 (.slice a i cap) i (strsV (pgs i D.seen))) := by
        have := HO.out
        rwa [List.take_of_length_le (by rw [pgs_len]; omega)] at this
      go_wp2_with (go_at_call 11; refine HP.mono ?_; rintro e V1 ⟨rfl, hV⟩; subst V1)
      go_ret
      exact ⟨a, cap, rfl, HE.out, HB.out⟩
/-- What a walk is told of a slice of strings. -/
def Ss (w : World) (a : Option Addr) (len cap : Nat) (l : List ByteArray) : Prop :=
  l.length = len ∧ len ≤ cap ∧ cap ≤ 9223372036854775807 ∧ (0 < len → ∃ b o, a = some ⟨b, o, none⟩ ∧ b < w.heap.size ∧ ∀ i (h : i < l.length), w.cell? ⟨b, o + i, none⟩ = some (.string l[i]))
theorem Ss.keep {w w' : World} {a : Option Addr} {len cap : Nat} {l : List ByteArray} (h : Ss w a len cap l) (hsz : w.heap.size ≤ w'.heap.size) (hk : ∀ x, ob a = some x → x < w.heap.size → w'.heap[x]? = w.heap[x]?) : Ss w' a len cap l := by
  obtain ⟨h1, h2, h3, h4⟩ := h
  refine ⟨h1, h2, h3, fun h0 => ?_⟩
  obtain ⟨b, o, rfl, hb, hc⟩ := h4 h0
  refine ⟨b, o, rfl, by omega, fun i hi => ?_⟩
  have e := hk b rfl hb
  have k : ∀ z, w'.cell? ⟨b, z, none⟩ = w.cell? ⟨b, z, none⟩ := fun z => World.cell?_of_block (w := w) e
  rw [k]
  exact hc i hi
theorem Ss.below {w w' : World} {a : Option Addr} {len cap : Nat} {l : List ByteArray} (h : Ss w a len cap l) (hb : Below w.heap.size w w') : Ss w' a len cap l := h.keep hb.size fun x _ hx => hb.block x hx
theorem Ss.own {w : World} {base : Nat} {a : Option Addr} {len cap : Nat} {l : List ByteArray} (h : w.ownsRow base 9 1 (.slice a len cap) len (strsV l)) (hl : l.length = len) : Ss w a len cap l := by
  rcases h.2 with ⟨h2, h3⟩ | ⟨g', cap', cur, e, hb, hr, h3, h4, h5, h6⟩
  · cases h2
    exact ⟨hl, Nat.le_refl _, by omega, by omega⟩
  · cases e
    refine ⟨hl, h3, by unfold maxLen at h4; omega, fun h0 => ⟨g', 0, rfl, lt_of_some hr, fun i hi => ?_⟩⟩
    rw [Nat.zero_add]
    exact own_at h (by rw [strsV_at, List.getElem?_eq_getElem hi]; rfl)
set_option maxRecDepth 100000 in
set_option maxHeartbeats 1000000 in
theorem same_any {w : World} (a : Option Addr) (n c : Nat) (l : List ByteArray) (h1 : Ss w a n c l) (b : Option Addr) (m d : Nat) (k : List ByteArray) (h2 : Ss w b m d k) :
    Calls Try.prog 24 #[.slice a n c, .slice b m d] w fun e w' => e = .returned (.bool (decide (l = k))) ∧ Below w.heap.size w w' := by
  have hl1 := h1.1
  have hl2 := h2.1
  have hc1 := h1.2.1
  have hc1' := h1.2.2.1
  have hc2 := h2.2.1
  have hc2' := h2.2.2.1
  have H1 : Hid (Ss w a n c l) := h1
  have H2 : Hid (Ss w b m d k) := h2
  clear h1 h2
  by_cases hnm : n = m
  · subst hnm
    go_enter Try.func24, Try.ntmps24
    go_wp2
    go_loopw [5] (fun v wr => ∃ i : Nat, i ≤ n ∧ v = .int .i64 i ∧ l.take i = k.take i ∧ Below w.heap.size w wr) (fun v _ => n - (intOf v).toNat)
    case atStart => exact ⟨0, by omega, rfl, by simp, Below.refl _ _⟩
    case round =>
      obtain ⟨i, hi, rfl, htk, hbel⟩ := hrel
      have HTK : Hid (l.take i = k.take i) := htk
      have HB : Hid (Below w.heap.size w wr.drew) := hbel.drew
      have HB0 : Hid (Below w.heap.size w wr) := hbel
      clear htk
      by_cases hlt : i < n
      · have kk : (i : Int) < (n : Int) := by omega
        obtain ⟨b1, o1, rfl, hb1, hce1⟩ := (H1.out.below HB.out).2.2.2 (by omega)
        obtain ⟨b2, o2, rfl, hb2, hce2⟩ := (H2.out.below HB.out).2.2.2 (by omega)
        have c1 := hce1 i (by omega)
        have c2 := hce2 i (by omega)
        have hil : i < l.length := by omega
        have hik : i < k.length := by omega
        obtain ⟨s, hs⟩ : ∃ s, l[i] = s := ⟨_, rfl⟩
        obtain ⟨t, ht⟩ : ∃ t, k[i] = t := ⟨_, rfl⟩
        rw [hs] at c1
        rw [ht] at c2
        by_cases hst : s = t
        · have HN : Hid (l.take (i + 1) = k.take (i + 1)) := by
            show _ = _
            rw [List.take_succ_eq_append_getElem hil, List.take_succ_eq_append_getElem hik, HTK.out, hs, ht, hst]
          subst hst
          clear hce1 hce2 hbel hs ht
          go_wp2
          refine wp_region_held_drew (S := fun V => V.cell? ⟨b1, o1 + i, none⟩ = some (.string s) ∧ V.cell? ⟨b2, o2 + i, none⟩ = some (.string s)) (by kernel_rfl) (⟨c1, c2⟩) (fun hHeld => ?_)
          refine wpAnyH_take (i := 0) (v := ?va0) rfl (by kernel_rfl) (by kernel_rfl) (by kernel_rfl) (fun _ _ _ h => h) (Or.inl ⟨by first | kernel_rfl | rfl, ?ya0⟩) hHeld ?ra0
          case ya0 => (intro W hSW; (try dsimp only at hSW); go_simp; (try with_reducible rfl))
          change wpAnyH _ _ _ _ _ _ _ (Act.put _ (some 17) _) _
          simp only [Act.put, List.setIfInBounds_toArray, List.set_cons_zero, List.set_cons_succ]
          refine wpAnyH_take (i := 1) (v := ?va1) rfl (by kernel_rfl) (by kernel_rfl) (by kernel_rfl) (fun _ _ _ h => h) (Or.inl ⟨by first | kernel_rfl | rfl, ?ya1⟩) hHeld ?ra1
          case ya1 => (intro W hSW; (try dsimp only at hSW); go_simp; (try with_reducible rfl))
          change wpAnyH _ _ _ _ _ _ _ (Act.put _ (some 18) _) _
          simp only [Act.put, List.setIfInBounds_toArray, List.set_cons_zero, List.set_cons_succ]
          refine wpAnyH_take (i := 2) (v := ?va2) rfl (by kernel_rfl) (by kernel_rfl) (by kernel_rfl) (fun _ _ _ h => h) (Or.inl ⟨by first | kernel_rfl | rfl, ?ya2⟩) hHeld ?ra2
          case ya2 => (intro W hSW; (try dsimp only at hSW); go_simp; (try with_reducible rfl))
          change wpAnyH _ _ _ _ _ _ _ (Act.put _ (some 19) _) _
          simp only [Act.put, List.setIfInBounds_toArray, List.set_cons_zero, List.set_cons_succ]
          refine wpAnyH_take (i := 3) (v := ?va3) rfl (by kernel_rfl) (by kernel_rfl) (by kernel_rfl) (fun _ _ _ h => h) (Or.inl ⟨by first | kernel_rfl | rfl, ?ya3⟩) hHeld ?ra3
          case ya3 => (intro W hSW; (try dsimp only at hSW); go_simp; (try with_reducible rfl))
          change wpAnyH _ _ _ _ _ _ _ (Act.put _ (some 20) _) _
          simp only [Act.put, List.setIfInBounds_toArray, List.set_cons_zero, List.set_cons_succ]
          refine wpAnyH_take (i := 4) (v := ?va4) rfl (by kernel_rfl) (by kernel_rfl) (by kernel_rfl) (fun _ _ _ h => h) (Or.inl ⟨by first | kernel_rfl | rfl, ?ya4⟩) hHeld ?ra4
          case ya4 => (intro W hSW; (try dsimp only at hSW); go_simp; (try with_reducible rfl))
          change wpAnyH _ _ _ _ _ _ _ (Act.put _ (some 21) _) _
          simp only [Act.put, List.setIfInBounds_toArray, List.set_cons_zero, List.set_cons_succ]
          refine wpAnyH_take (i := 5) (v := ?va5) rfl (by kernel_rfl) (by kernel_rfl) (by kernel_rfl) (fun _ _ _ h => h) (Or.inl ⟨by first | kernel_rfl | rfl, ?ya5⟩) hHeld ?ra5
          case ya5 => (intro W hSW; (try dsimp only at hSW); go_simp; (try with_reducible rfl))
          change wpAnyH _ _ _ _ _ _ _ (Act.put _ (some 22) _) _
          simp only [Act.put, List.setIfInBounds_toArray, List.set_cons_zero, List.set_cons_succ]
          refine wpAnyH_take (i := 6) (v := ?va6) rfl (by kernel_rfl) (by kernel_rfl) (by kernel_rfl) (fun _ _ _ h => h) (Or.inl ⟨by first | kernel_rfl | rfl, ?ya6⟩) hHeld ?ra6
          case ya6 => (intro W hSW; (try dsimp only at hSW); go_simp; (try with_reducible rfl))
          change wpAnyH _ _ _ _ _ _ _ (Act.put _ (some 23) _) _
          simp only [Act.put, List.setIfInBounds_toArray, List.set_cons_zero, List.set_cons_succ]
          refine wpAnyH_take (i := 7) (v := ?va7) rfl (by kernel_rfl) (by kernel_rfl) (by kernel_rfl) (fun _ _ _ h => h) (Or.inl ⟨by first | kernel_rfl | rfl, ?ya7⟩) hHeld ?ra7
          case ya7 => (intro W hSW; (try dsimp only at hSW); go_simp; (try with_reducible rfl))
          change wpAnyH _ _ _ _ _ _ _ (Act.put _ (some 24) _) _
          simp only [Act.put, List.setIfInBounds_toArray, List.set_cons_zero, List.set_cons_succ]
          refine wpAnyH_take (i := 8) (v := ?va8) rfl (by kernel_rfl) (by kernel_rfl) (by kernel_rfl) (fun _ _ _ h => h) (Or.inl ⟨by first | kernel_rfl | rfl, ?ya8⟩) hHeld ?ra8
          case ya8 => (intro W hSW; (try dsimp only at hSW); go_simp; (try with_reducible rfl))
          change wpAnyH _ _ _ _ _ _ _ (Act.put _ (some 25) _) _
          simp only [Act.put, List.setIfInBounds_toArray, List.set_cons_zero, List.set_cons_succ]
          refine wpAnyH_done (by kernel_rfl) ?_ _
          clear hHeld
          go_wp2
          exact ⟨⟨i + 1, by omega, by go_num, HN.out, HB.out⟩, by simp [intOf]; omega⟩
        · have HN : Hid (decide (l = k) = false) := decide_eq_false (fun e => hst (by rw [← hs, ← ht]; simp only [e]))
          have hst2 := str_ne hst
          have hst3 := str_nb hst
          clear hce1 hce2 hbel hs ht
          go_wp2
          refine wp_region_held_drew (S := fun V => V.cell? ⟨b1, o1 + i, none⟩ = some (.string s) ∧ V.cell? ⟨b2, o2 + i, none⟩ = some (.string t)) (by kernel_rfl) (⟨c1, c2⟩) (fun hHeld => ?_)
          refine wpAnyH_take (i := 0) (v := ?vb0) rfl (by kernel_rfl) (by kernel_rfl) (by kernel_rfl) (fun _ _ _ h => h) (Or.inl ⟨by first | kernel_rfl | rfl, ?yb0⟩) hHeld ?rb0
          case yb0 => (intro W hSW; (try dsimp only at hSW); go_simp; (try with_reducible rfl))
          change wpAnyH _ _ _ _ _ _ _ (Act.put _ (some 17) _) _
          simp only [Act.put, List.setIfInBounds_toArray, List.set_cons_zero, List.set_cons_succ]
          refine wpAnyH_take (i := 1) (v := ?vb1) rfl (by kernel_rfl) (by kernel_rfl) (by kernel_rfl) (fun _ _ _ h => h) (Or.inl ⟨by first | kernel_rfl | rfl, ?yb1⟩) hHeld ?rb1
          case yb1 => (intro W hSW; (try dsimp only at hSW); go_simp; (try with_reducible rfl))
          change wpAnyH _ _ _ _ _ _ _ (Act.put _ (some 18) _) _
          simp only [Act.put, List.setIfInBounds_toArray, List.set_cons_zero, List.set_cons_succ]
          refine wpAnyH_take (i := 2) (v := ?vb2) rfl (by kernel_rfl) (by kernel_rfl) (by kernel_rfl) (fun _ _ _ h => h) (Or.inl ⟨by first | kernel_rfl | rfl, ?yb2⟩) hHeld ?rb2
          case yb2 => (intro W hSW; (try dsimp only at hSW); go_simp; (try with_reducible rfl))
          change wpAnyH _ _ _ _ _ _ _ (Act.put _ (some 19) _) _
          simp only [Act.put, List.setIfInBounds_toArray, List.set_cons_zero, List.set_cons_succ]
          refine wpAnyH_take (i := 3) (v := ?vb3) rfl (by kernel_rfl) (by kernel_rfl) (by kernel_rfl) (fun _ _ _ h => h) (Or.inl ⟨by first | kernel_rfl | rfl, ?yb3⟩) hHeld ?rb3
          case yb3 => (intro W hSW; (try dsimp only at hSW); go_simp; (try with_reducible rfl))
          change wpAnyH _ _ _ _ _ _ _ (Act.put _ (some 20) _) _
          simp only [Act.put, List.setIfInBounds_toArray, List.set_cons_zero, List.set_cons_succ]
          refine wpAnyH_take (i := 4) (v := ?vb4) rfl (by kernel_rfl) (by kernel_rfl) (by kernel_rfl) (fun _ _ _ h => h) (Or.inl ⟨by first | kernel_rfl | rfl, ?yb4⟩) hHeld ?rb4
          case yb4 => (intro W hSW; (try dsimp only at hSW); go_simp; (try with_reducible rfl))
          change wpAnyH _ _ _ _ _ _ _ (Act.put _ (some 21) _) _
          simp only [Act.put, List.setIfInBounds_toArray, List.set_cons_zero, List.set_cons_succ]
          refine wpAnyH_take (i := 5) (v := ?vb5) rfl (by kernel_rfl) (by kernel_rfl) (by kernel_rfl) (fun _ _ _ h => h) (Or.inl ⟨by first | kernel_rfl | rfl, ?yb5⟩) hHeld ?rb5
          case yb5 => (intro W hSW; (try dsimp only at hSW); go_simp; (try with_reducible rfl))
          change wpAnyH _ _ _ _ _ _ _ (Act.put _ (some 22) _) _
          simp only [Act.put, List.setIfInBounds_toArray, List.set_cons_zero, List.set_cons_succ]
          refine wpAnyH_take (i := 6) (v := ?vb6) rfl (by kernel_rfl) (by kernel_rfl) (by kernel_rfl) (fun _ _ _ h => h) (Or.inl ⟨by first | kernel_rfl | rfl, ?yb6⟩) hHeld ?rb6
          case yb6 => (intro W hSW; (try dsimp only at hSW); go_simp; (try with_reducible rfl))
          change wpAnyH _ _ _ _ _ _ _ (Act.put _ (some 23) _) _
          simp only [Act.put, List.setIfInBounds_toArray, List.set_cons_zero, List.set_cons_succ]
          refine wpAnyH_take (i := 7) (v := ?vb7) rfl (by kernel_rfl) (by kernel_rfl) (by kernel_rfl) (fun _ _ _ h => h) (Or.inl ⟨by first | kernel_rfl | rfl, ?yb7⟩) hHeld ?rb7
          case yb7 => (intro W hSW; (try dsimp only at hSW); go_simp; (try with_reducible rfl))
          change wpAnyH _ _ _ _ _ _ _ (Act.put _ (some 24) _) _
          simp only [Act.put, List.setIfInBounds_toArray, List.set_cons_zero, List.set_cons_succ]
          refine wpAnyH_take (i := 8) (v := ?vb8) rfl (by kernel_rfl) (by kernel_rfl) (by kernel_rfl) (fun _ _ _ h => h) (Or.inl ⟨by first | kernel_rfl | rfl, ?yb8⟩) hHeld ?rb8
          case yb8 => (intro W hSW; (try dsimp only at hSW); go_simp; (try with_reducible rfl))
          change wpAnyH _ _ _ _ _ _ _ (Act.put _ (some 25) _) _
          simp only [Act.put, List.setIfInBounds_toArray, List.set_cons_zero, List.set_cons_succ]
          refine wpAnyH_done (by kernel_rfl) ?_ _
          clear hHeld
          go_wp2
          go_ret
          exact ⟨by rw [HN.out]; rfl, HB.out⟩
      · obtain rfl : i = n := by omega
        have kk : ¬ (i : Int) < (i : Int) := by omega
        have HN : Hid (decide (l = k) = true) := decide_eq_true (by
          have := HTK.out
          rwa [List.take_of_length_le (by omega), List.take_of_length_le (by omega)] at this)
        go_wp2
        go_ret
        exact ⟨by rw [HN.out]; rfl, HB0.out⟩
  · have kk : ¬ (n : Int) = (m : Int) := by omega
    have HN : Hid (decide (l = k) = false) := decide_eq_false (fun e => hnm (by rw [← hl1, ← hl2, e]))
    go_enter Try.func24, Try.ntmps24
    go_wp2
    go_ret
    exact ⟨by rw [HN.out]; rfl, Below.refl _ _⟩
end Go.Proofs.Ytaacedaehbaodaa
