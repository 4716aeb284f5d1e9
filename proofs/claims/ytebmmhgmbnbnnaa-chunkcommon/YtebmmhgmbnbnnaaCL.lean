/- Where chunks end; numbers that are looked for; arguments that came in. -/
import Derived.Test.YtebmmhgmbnbnnaaCK
import Derived.SizedLaws
import Derived.Deep.Slices
namespace Go.Proofs.Ytebmmhgmbnbnnaa
open Go.RowKit Ck
theorem info3 : (Try.prog.info? 3).map (fun i => (i.zero, i.size, i.bytes)) = some (some (.int .i64 0), 1, 8) := by kernel_rfl
def itC (n : Nat) : List Value := [.int .i64 (n : Int)]
def itR (l : List Nat) : List Value := l.flatMap itC
theorem itC_len (s : Nat) : (itC s).length = 1 := rfl
theorem itR_len (l : List Nat) : (itR l).length = l.length := by unfold itR; rw [fm_len itC_len]; omega
theorem itR_app (a b : List Nat) : itR (a ++ b) = itR a ++ itR b := by simp [itR]
theorem itR_one (l : List Nat) : ∀ u ∈ itR l, u.oneCell' = true := by
  intro u hu
  obtain ⟨c, _, hc⟩ := List.mem_flatMap.1 hu
  simp only [itC, List.mem_cons, List.not_mem_nil, or_false] at hc
  subst hc
  rfl
def Iw (w : World) (a : Option Addr) (len cap : Nat) (l : List Nat) : Prop := Rw (fun _ => True) w 3 1 a len cap (itR l)
theorem Iw.len {w : World} {a : Option Addr} {len cap : Nat} {l : List Nat} (h : Iw w a len cap l) : l.length = len := by
  have := h.1
  rw [itR_len] at this
  omega
theorem Iw.below {w w' : World} {a : Option Addr} {len cap : Nat} {l : List Nat} (h : Iw w a len cap l) (hb : Below w.heap.size w w') : Iw w' a len cap l := Rw.below h hb
theorem Iw.at {w : World} {a : Option Addr} {len cap : Nat} {l : List Nat} (h : Iw w a len cap l) (h0 : 0 < len) : ∃ b o, a = some ⟨b, o, none⟩ ∧ b < w.heap.size ∧ ∀ i (s : Nat), l[i]? = some s → w.cell? ⟨b, o + i, none⟩ = some (.int .i64 (s : Int)) := by
  obtain ⟨b, o, rfl, hb, _, hc⟩ := h.2.2.2 h0
  refine ⟨b, o, rfl, hb, fun i s hi => ?_⟩
  have := fm_at itC_len hi 0 (by omega)
  exact hc i _ (by simpa [itR, itC] using this)
theorem addN_own (w : World) {base : Nat} {a : Option Addr} {n c : Nat} {l : List Nat} (h : w.ownsRow base 3 1 (.slice a n c) n (itR l)) {a2 : Option Addr} {m c2 : Nat} {k : List Nat} (h2 : Iw w a2 m c2 k) (hN : n + m ≤ 1000000) (hb : base ≤ w.heap.size) :
    ∃ a' c' w', (∀ ty, (Builtin.append_ #[46, 46] ty #[.slice a n c, .slice a2 m c2]).run Try.prog w = .ok (.slice a' (n + m) c') w') ∧ w'.ownsRow base 3 1 (.slice a' (n + m) c') (n + m) (itR (l ++ k)) ∧ w.grownBy w' (ob a) ∧ (ob a' = ob a ∨ ob a' = some w.heap.size) := by
  obtain ⟨i, hi, hz, hs, hbb⟩ := info_of info3
  rw [itR_app]
  exact app_own w 46 3 i _ 1 8 Try.underlying46 hi hz hs hbb rfl (by omega) h h2 (itR_one k) hN (by omega) hb
theorem itRow {w : World} {b n : Nat} (h : w.heap[b]? = some (.cells #[.int .i64 (n : Int)] 3 (0, 0))) : Iw w (some ⟨b, 0, none⟩) 1 1 [n] := by
  refine ⟨rfl, Nat.le_refl _, by unfold maxLen; omega, fun _ => ⟨b, 0, rfl, lt_of_some h, trivial, fun j u hu => ?_⟩⟩
  rw [Nat.zero_add, cell_of_row _ b _ _ _ _ h]
  simpa [itR, itC] using hu
theorem endsL_next (Ls : List (List UInt8)) (i : Nat) (x : List UInt8) (h : Ls[i]? = some x) : endsL 0 (Ls.take (i + 1)) = endsL 0 (Ls.take i) ++ [(Ls.take i).flatten.length + x.length] := by
  rw [take_snoc h, endsL_append]
  simp [endsL]
theorem flat_next (Ls : List (List UInt8)) (i : Nat) (x : List UInt8) (h : Ls[i]? = some x) : (Ls.take (i + 1)).flatten.length = (Ls.take i).flatten.length + x.length := by
  rw [take_snoc h, List.flatten_append, List.length_append]; simp
theorem flat_le (Ls : List (List UInt8)) (i : Nat) : (Ls.take i).flatten.length ≤ Ls.flatten.length := by
  conv => rhs; rw [← List.take_append_drop i Ls]
  rw [List.flatten_append, List.length_append]; omega
set_option maxRecDepth 100000 in
set_option maxHeartbeats 4000000 in
theorem ends_any {w : World} {a : Option Addr} {n c : Nat} {Ls : List (List UInt8)} (h : Tw (fun _ => True) w a n c (Ls.map strOf)) (hf : Ls.flatten.length ≤ 20000) (hn : n ≤ 20000) :
    Calls Try.prog 20 #[.slice a n c] w fun e w' => ∃ a' c', e = .returned (.slice a' n c') ∧ Iw w' a' n c' (endsL 0 Ls) ∧ Below w.heap.size w w' := by
  have hln := h.len
  rw [List.length_map] at hln
  have HA : Hid (∀ W, Below w.heap.size w W → Tw (fun _ => True) W a n c (Ls.map strOf)) := fun W hW => h.below hW
  have HL : Hid (Ls.length = n) := hln
  have HF : Hid (Ls.flatten.length ≤ 20000) := hf
  clear h hln hf
  go_enter Try.func20, Try.ntmps20
  go_wp2
  go_loopw [3, 4, 5] (fun vo va vi wr => ∃ (i p oc : Nat) (oa : Option Addr), i ≤ n ∧ vi = .int .i64 i ∧ va = .int .i64 p ∧ vo = .slice oa i oc ∧ p = (Ls.take i).flatten.length ∧ wr.ownsRow w.heap.size 3 1 (.slice oa i oc) i (itR (endsL 0 (Ls.take i))) ∧ Below w.heap.size w wr) (fun _ _ vi _ => n - (intOf vi).toNat)
  case atStart => exact ⟨0, 0, 0, none, by omega, rfl, rfl, rfl, by simp, by simpa [endsL, itR] using World.ownsRow_nil _ _ _ _, Below.refl _ _⟩
  case round =>
    obtain ⟨i, p, oc, oa, hi, rfl, rfl, rfl, hp, hown, hbw⟩ := hrel
    by_cases hlt : i < n
    · have kk : (i : Int) < (n : Int) := by omega
      obtain ⟨b, o, rfl, _, hc⟩ := (HA.out wr hbw).at (by omega)
      obtain ⟨x, hx⟩ : ∃ x, Ls[i]? = some x := ⟨_, List.getElem?_eq_getElem (by rw [HL.out]; exact hlt)⟩
      have c1 := hc i (strOf x) (by rw [List.getElem?_map, hx]; rfl)
      obtain ⟨S, hS⟩ : ∃ S, strOf x = S := ⟨_, rfl⟩
      obtain ⟨z, hz⟩ : ∃ z, x.length = z := ⟨_, rfl⟩
      have hsz : S.size = z := by rw [← hS, strOf_size, hz]
      rw [hS] at c1
      have h1 := flat_next Ls i x hx
      have h2 := flat_le Ls (i + 1)
      have h3 := HF.out
      rw [← hp, hz] at h1
      obtain ⟨s, hs⟩ : ∃ s, p + z = s := ⟨_, rfl⟩
      have ks : (p : Int) + (z : Int) = (s : Int) := by omega
      have hs1 : (s : Int) ≤ 20000 := by omega
      have h4 := endsL_next Ls i x hx
      rw [← hp, hz, hs] at h4
      rw [hs] at h1
      obtain ⟨V4, hV4⟩ : ∃ V4, wr.alloc (.cells #[.int .i64 (s : Int)] 3) = V4 := ⟨_, rfl⟩
      have hB4 : Below wr.heap.size wr V4 := by rw [← hV4]; exact (Below.refl _ wr).alloc (Nat.le_refl _) _
      have r4 : V4.heap[wr.heap.size]? = some (.cells #[.int .i64 (s : Int)] 3 (0, 0)) := by rw [← hV4]; exact heap_alloc_new wr _
      have ho4 := own_keep hown (W' := V4) (fun k hk => hB4.block k (hown.lt k hk).2)
      have hw4 : Below w.heap.size w V4 := hbw.trans (hB4.mono hbw.size)
      obtain ⟨aA, cA, VA, hrA, hoA, hgA, _⟩ := addN_own V4 ho4 (itRow r4) (by omega) hw4.size
      have HE : Hid (s = (Ls.take (i + 1)).flatten.length ∧ VA.ownsRow w.heap.size 3 1 (.slice aA (i + 1) cA) (i + 1) (itR (endsL 0 (Ls.take (i + 1)))) ∧ Below w.heap.size w VA) := by
        refine ⟨h1.symm, by rw [h4]; exact hoA, hw4.grown hgA hw4.size (fun k hk => (ho4.lt k (by rw [ob_slice]; exact hk)).1)⟩
      clear hc hx hS hz hp hown hbw h1 h2 h3 h4 hB4 r4 ho4 hw4 hoA hgA hs
      go_wp2_with (at_builtin; refine wpList_app V4 rfl _ _ _ _ rfl rfl rfl (hrA _) ?_)
      exact ⟨⟨i + 1, s, cA, aA, by omega, by go_num, by go_num, by go_num, HE.out.1, HE.out.2.1, HE.out.2.2⟩, by simp [intOf]; omega⟩
    · obtain rfl : i = n := by omega
      have kk : ¬ (i : Int) < (i : Int) := by omega
      have HE : Hid (wr.ownsRow w.heap.size 3 1 (.slice oa i oc) i (itR (endsL 0 Ls)) ∧ Below w.heap.size w wr) := by
        rw [List.take_of_length_le (by rw [HL.out]; omega)] at hown
        exact ⟨hown, hbw⟩
      clear hp hown hbw
      go_wp2
      go_ret
      exact ⟨_, _, rfl, Rw.own HE.out.1 (fun _ _ => trivial), HE.out.2⟩
set_option maxRecDepth 100000 in
set_option maxHeartbeats 4000000 in
theorem has_any {w : World} {a : Option Addr} {n c : Nat} {L : List Nat} (h : Iw w a n c L) (hn : n ≤ 20000) (x : Nat) :
    Calls Try.prog 21 #[.slice a n c, .int .i64 (x : Int)] w fun e w' => e = .returned (.bool (decide (x ∈ L))) ∧ w' = w := by
  have hln := h.len
  have HA : Hid (Iw w a n c L) := h
  obtain ⟨R, hR⟩ : ∃ R, decide (x ∈ L) = R := ⟨_, rfl⟩
  have HR : Hid (decide (x ∈ L) = R) := hR
  have HL : Hid (L.length = n) := hln
  rw [hR]
  clear h hR hln
  go_enter Try.func21, Try.ntmps21
  go_wp2
  go_loop [5] (fun vi => ∃ i : Nat, i ≤ n ∧ vi = .int .i64 i ∧ x ∉ L.take i) (fun vi => n - (intOf vi).toNat)
  case atStart => exact ⟨0, by omega, rfl, by simp⟩
  case round =>
    obtain ⟨i, hi, rfl, hm⟩ := hrel
    by_cases hlt : i < n
    · have kk : (i : Int) < (n : Int) := by omega
      obtain ⟨b, o, rfl, _, hc⟩ := HA.out.at (by omega)
      obtain ⟨y, hy⟩ : ∃ y, L[i]? = some y := ⟨_, List.getElem?_eq_getElem (by rw [HL.out]; exact hlt)⟩
      have c1 := hc i y hy
      by_cases hxy : y = x
      · have kx : ((y : Int) == (x : Int)) = true := by rw [hxy]; simp
        have HF : Hid (R = true) := by
          show _ = _
          rw [← HR.out]
          exact decide_eq_true (by rw [← hxy]; exact List.mem_of_getElem? hy)
        clear hc hy hm hxy
        go_wp2
        go_ret
        exact ⟨ret_bool HF.out.symm, rfl⟩
      · have kx : ((y : Int) == (x : Int)) = false := by simp; omega
        have HM : Hid (x ∉ L.take (i + 1)) := by
          show ¬ _
          rw [take_snoc hy]
          simp only [List.mem_append, List.mem_singleton, not_or]
          exact ⟨hm, fun e => hxy e.symm⟩
        clear hc hy hm hxy
        go_wp2
        exact ⟨⟨i + 1, by omega, by go_num, HM.out⟩, by simp [intOf]; omega⟩
    · obtain rfl : i = n := by omega
      have kk : ¬ (i : Int) < (i : Int) := by omega
      have HF : Hid (R = false) := by
        show _ = _
        rw [← HR.out]
        rw [List.take_of_length_le (by rw [HL.out]; omega)] at hm
        exact decide_eq_false hm
      clear hm
      go_wp2
      go_ret
      exact ⟨ret_bool HF.out.symm, rfl⟩
end Go.Proofs.Ytebmmhgmbnbnnaa
