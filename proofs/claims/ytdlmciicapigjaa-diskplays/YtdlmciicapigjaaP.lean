/- Walks over the statements' all and light. -/
import Derived.Test.YtdlmciicapigjaaO
namespace Go.Proofs.Ytdlmciicapigjaa
open Go.RowKit Go.Shelf
theorem one_row (w : World) (v : Value) (t : TypeId) : ∀ j u, [v][j]? = some u → (w.alloc (.cells #[v] t)).cell? ((⟨w.heap.size, 0, none⟩ : Addr).add j) = some u := by
  intro j u hj
  match j, hj with
  | 0, hj => simp at hj; subst hj; simp [Addr.add]
  | j + 1, hj => simp at hj
set_option maxRecDepth 100000 in
set_option maxHeartbeats 1000000 in
theorem all_any' {S : Nat → Prop} {g : Nat} {D : Dk} {w : World} (h : DiskIs w S g D) (hu : D.up = true) :
    Calls Try.prog 26 #[.pointer (some ⟨g, 0, none⟩)] w fun e w' => ∃ a cap, e = .returned (.slice (some ⟨a, 0, none⟩) D.kept.length cap) ∧ w.heap.size ≤ a ∧ w'.ownsRow 0 9 1 (.slice (some ⟨a, 0, none⟩) D.kept.length cap) D.kept.length (strsV D.seen) ∧ Below w.heap.size w w' := by
  obtain ⟨i0, hi, hz0, hz1, hz2⟩ := info_parts info9
  have hn1 := h.ok.n1
  have hn2 := h.ok.n2
  obtain ⟨n, hn⟩ : ∃ n, D.kept.length = n := ⟨_, rfl⟩
  have hsl : D.seen.length = n := by rw [seen_len, hn]
  have HSZ : Hid (∀ W, Below w.heap.size w W → Calls Try.prog 15 #[.pointer (some ⟨g, 0, none⟩)] W fun e w' => e = .returned (.int .i64 (n : Int)) ∧ w' = W) := fun W hW => by
    have := size_any (h.below hW)
    rw [hn] at this
    exact this
  have HRD : Hid (∀ W i, Below w.heap.size w W → i < n → Calls Try.prog 9 #[.pointer (some ⟨g, 0, none⟩), .int .i64 (i : Int)] W fun e w' => e = .returned (.tuple #[.string (D.seen.getD i ByteArray.empty), .int .i64 0]) ∧ w' = W) := fun W i hW hi => read_any (h.below hW) i hu (by omega)
  rw [hn] at hn1 hn2
  rw [hn]
  clear h
  go_enter Try.func26, Try.ntmps26
  go_wp2
  go_loopw [3, 4] (fun v iv wr => ∃ i : Nat, i ≤ n ∧ iv = .int .i64 i ∧ wr.ownsRow w.heap.size 9 1 v i (strsV (D.seen.take i)) ∧ Below w.heap.size w wr) (fun _ iv _ => n - (intOf iv).toNat)
  case atStart => exact ⟨0, by omega, rfl, by simpa [strsV] using World.ownsRow_nil _ _ _ _, Below.refl _ _⟩
  case round =>
    obtain ⟨i, hin, rfl, hown, hbel⟩ := hrel
    have HO : Hid (wr.ownsRow w.heap.size 9 1 _ i (strsV (D.seen.take i))) := hown
    have HB : Hid (Below w.heap.size w wr) := hbel
    clear hown hbel
    by_cases hlt : i < n
    · have kk : (i : Int) < (n : Int) := by omega
      obtain ⟨t, ht⟩ : ∃ t, D.seen.getD i ByteArray.empty = t := ⟨_, rfl⟩
      have HR := HRD.out wr i HB.out hlt
      rw [ht] at HR
      have HT : Hid (D.seen.take (i + 1) = D.seen.take i ++ [t]) := by
        show _ = _
        rw [List.take_succ_eq_append_getElem (by omega), ← ht, List.getD_eq_getElem?_getD, List.getElem?_eq_getElem (by omega)]
        rfl
      have hbs := HB.out.size
      clear ht
      go_wp2_with (go_at_call 15; refine (HSZ.out _ HB.out).mono ?_; rintro e V1 ⟨rfl, hV⟩; subst V1)
      refine HR.mono ?_
      rintro e V1 ⟨rfl, hV⟩
      subst V1
      clear HR
      go_wp2_with (at_builtin; refine wpList_append_own _ rfl _ _ 37 rfl w.heap.size 9 i0 (.string ByteArray.empty) 1 16 Try.underlying37 hi hz0 hz1 hz2 rfl (by decide) _ i (strsV (D.seen.take i)) rfl (HO.out.alloc _) ⟨wr.heap.size, 0, none⟩ 1 1 [_] rfl rfl (one_row _ _ _) (by simp [Value.oneCell']) (by unfold maxLen; omega) (by omega) (by simp; omega) ?_)
      intro v' w3 hown' hgrow3 hnil3
      have HO3 : Hid (w3.ownsRow w.heap.size 9 1 v' (i + 1) (strsV (D.seen.take (i + 1)))) := by
        have := hown'
        rw [HT.out]
        simpa [Hid, strsV] using this
      have HB3 : Hid (Below w.heap.size w w3) := Below.grown (HB.out.alloc HB.out.size _) hgrow3 (by simp; omega) (fun j hj => (HO.out.lt _ hj).1)
      clear hown' hgrow3 hnil3
      go_wp2
      go_roundw
      case rel => exact ⟨i + 1, by omega, by go_num, HO3.out, HB3.out⟩
      case measure => simp [intOf]; omega
    · obtain rfl : i = n := by omega
      have kk : ¬ (i : Int) < (i : Int) := by omega
      have ho := HO.out
      rw [List.take_of_length_le (by omega)] at ho
      obtain ⟨a, cap, rfl, ha, _⟩ := own_some ho (by
        intro e
        subst e
        rcases ho.2 with ⟨_, h⟩ | ⟨_, _, _, h, _⟩
        · omega
        · cases h)
      have HO4 : Hid (wr.ownsRow w.heap.size 9 1 (.slice (some ⟨a, 0, none⟩) i cap) i (strsV D.seen)) := ho
      clear ho HO
      go_wp2_with (go_at_call 15; refine (HSZ.out _ HB.out).mono ?_; rintro e V1 ⟨rfl, hV⟩; subst V1)
      go_ret
      exact ⟨a, cap, rfl, ha, own_base HO4.out (Nat.zero_le _), HB.out⟩
set_option maxHeartbeats 400000 in
theorem light_any (o : OpV) (w : World) : Calls Try.prog 22 #[.agg #[.int .i64 o.kind, .int .i64 o.at_, .int .i64 o.long, .int .u8 (o.fill : Int), .slice o.pa o.pl o.pc]] w fun e w' => e = .returned (.bool (decide (o.pl ≤ 300))) ∧ Below w.heap.size w w' := by
  obtain ⟨W1, hW1⟩ : ∃ W1, w.alloc (.cells #[.int .i64 o.kind, .int .i64 o.at_, .int .i64 o.long, .int .u8 (o.fill : Int), .slice o.pa o.pl o.pc] 46) = W1 := ⟨_, rfl⟩
  have hb : Below w.heap.size w W1 := by rw [← hW1]; exact (Below.refl _ w).alloc (Nat.le_refl _) _
  have c4 : W1.cell? ⟨w.heap.size, 4, none⟩ = some (.slice o.pa o.pl o.pc) := by
    rw [← hW1, cell_of_row _ w.heap.size _ _ _ _ (heap_alloc_new w _)]; rfl
  by_cases hl : o.pl ≤ 300
  · have k1 : (o.pl : Int) ≤ 300 := by omega
    go_enter Try.func22, Try.ntmps22
    go_wp2
    go_ret
    exact ⟨ret_bool (by simp [hl]), hb⟩
  · have k1 : ¬ (o.pl : Int) ≤ 300 := by omega
    go_enter Try.func22, Try.ntmps22
    go_wp2
    go_ret
    exact ⟨ret_bool (by simp), hb⟩
end Go.Proofs.Ytdlmciicapigjaa
