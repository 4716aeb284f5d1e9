/- A walk over part. -/
import Derived.Test.YtnafalkcgghjgaaGreatDoorSB
namespace Go.Proofs.YtnafalkcgghjgaaGreatDoor
open Go.RowKit
theorem alloc_second (V : World) (o o' : Obj) : ((V.alloc o).alloc o').heap[V.heap.size + 1]? = some o' := by
  have h := heap_alloc_new (V.alloc o) o'
  rwa [show (V.alloc o).heap.size = V.heap.size + 1 by simp] at h
/-- A row of leaves that was made just now. -/
theorem Lw.made {G : Nat → Prop} {w : World} {g : Nat} {Q : List Mf} (hg : w.heap[g]? = some (.cells (mfV Q).toArray 85 (0, 0))) (hG : G g) (he : Ents G w Q) (hN : Q.length ≤ 1000000) : Lw G w (some ⟨g, 0, none⟩) Q.length Q.length Q := by
  refine ⟨⟨by rw [mfV_len], Nat.le_refl _, by unfold maxLen; omega, fun _ => ⟨g, 0, rfl, ⟨_, _, hg⟩, hG, fun j u hu => ?_⟩⟩, he⟩
  rw [Nat.zero_add, cell_of_row _ g _ _ _ _ hg]
  simpa using hu
structure Parted (G : Nat → Prop) (w' : World) (page : Int) (es : List Pr) (g : Nat) (Q : List Mf) : Prop where
  lw : Lw G w' (some ⟨g, 0, none⟩) Q.length Q.length Q
  fl : flat (lfs Q) = es
  pg : (lfs Q).map Lf.page = [page] ∨ (lfs Q).map Lf.page = [page, -1]
  sz : ∀ x ∈ lfs Q, x.sz ≤ 1023
  ln : Q.length = 1 ∨ Q.length = 2
  one : szL es ≤ 1023 → Q.length = 1
set_option maxRecDepth 100000 in
set_option maxHeartbeats 2000000 in
theorem part_any {G : Nat → Prop} {w : World} (hG : ∀ x, w.heap.size ≤ x → G x) (page : Int) (a : Option Addr) (n c : Nat) (es : List Pr) (h : Pw G w a n c es) (h2 : szL es ≤ 1490) (h3 : ∀ p ∈ es, eSz p ≤ 467) :
    Calls Tryz.prog 69 #[.int .i64 page, .slice a n c] w fun e w' => ∃ g Q, e = .returned (.slice (some ⟨g, 0, none⟩) Q.length Q.length) ∧ Parted G w' page es g Q ∧ Below w.heap.size w w' := by
  have hl := h.len
  have hcap : n ≤ c := h.2.1
  have HN := newLeaf_any page a n c es h (by omega)
  have HP : Hid (Pw G w a n c es) := h
  obtain ⟨S, hS⟩ : ∃ S, szL es = S := ⟨_, rfl⟩
  rw [hS] at HN h2
  have HS : Hid (szL es = S) := hS
  have HG : Hid (∀ x, w.heap.size ≤ x → G x) := hG
  have H3 : Hid (∀ p ∈ es, eSz p ≤ 467) := h3
  clear h hS hG h3
  by_cases hle : S ≤ 1023
  · have kk : (S : Int) ≤ 1023 := by omega
    go_enter Tryz.func69, Tryz.ntmps69
    go_wp2_with fail
    refine HN.mono ?_
    rintro e V ⟨a', rfl, hp, hb⟩
    have HV : Hid (Pw G V a' n n es ∧ Below w.heap.size w V) := ⟨hp, hb⟩
    clear HN hp hb
    go_wp2
    go_ret
    refine ⟨_, [⟨page, es, a'⟩], ret_val rfl, ?_, ?_⟩
    · have hB : Below V.heap.size V ((V.alloc (.cells #[.int .i64 page, .slice a' n n, .int .i64 (S : Int)] 85)).alloc (.cells #[.int .i64 page, .slice a' n n, .int .i64 (S : Int)] 85)) := ((Below.refl _ V).alloc (Nat.le_refl _) _).alloc (by simp) _
      refine ⟨Lw.made ?_ (HG.out _ (by have := HV.out.2.size; simp; omega)) ?_ (by simp), by simp [lfs, flat, Mf.lf], .inl (by simp [lfs, Mf.lf]), ?_, .inl rfl, fun _ => rfl⟩
      · have e : (mfV [⟨page, es, a'⟩]).toArray = #[.int .i64 page, .slice a' n n, .int .i64 (S : Int)] := by simp [mfV, mfC, hl, HS.out]
        rw [e]
        exact alloc_second _ _ _
      · intro m hm
        simp only [List.mem_singleton] at hm
        subst hm
        have := HV.out.1.below hB
        simp only
        rw [hl]
        exact this
      · intro x hx
        simp only [lfs, List.map_cons, List.map_nil, List.mem_singleton] at hx
        rw [hx]
        show szL es ≤ 1023
        rw [HS.out]; exact hle
    · have hB : Below V.heap.size V ((V.alloc (.cells #[.int .i64 page, .slice a' n n, .int .i64 (S : Int)] 85)).alloc (.cells #[.int .i64 page, .slice a' n n, .int .i64 (S : Int)] 85)) := ((Below.refl _ V).alloc (Nat.le_refl _) _).alloc (by simp) _
      exact HV.out.2.trans (hB.mono HV.out.2.size)
  · have kk : ¬ (S : Int) ≤ 1023 := by omega
    go_enter Tryz.func69, Tryz.ntmps69
    go_wp2_with fail
    refine HN.mono ?_
    rintro e V ⟨a', rfl, hp, hb⟩
    obtain ⟨V1, hV1⟩ : ∃ V1, V.alloc (.cells #[.int .i64 page, .slice a' n n, .int .i64 (S : Int)] 85) = V1 := ⟨_, rfl⟩
    have hb1 : Below w.heap.size w V1 := by rw [← hV1]; exact hb.alloc hb.size _
    have hp1 : Pw G V1 a' n n es := by rw [← hV1]; exact hp.below ((Below.refl _ V).alloc (Nat.le_refl _) _)
    have HM := middle_any page a' n es hp1 (by rw [HS.out]; omega) (by rw [HS.out]; omega) H3.out
    rw [HS.out] at HM
    have HB1 : Hid (Below w.heap.size w V1) := hb1
    clear HN hp hb hp1 hb1
    have cl : V1.cell? ⟨V.heap.size, 0, none⟩ = some (.int .i64 page) ∧ V1.cell? ⟨V.heap.size, 1, none⟩ = some (.slice a' n n) ∧ V1.cell? ⟨V.heap.size, 2, none⟩ = some (.int .i64 (S : Int)) := by
      have hr : V1.heap[V.heap.size]? = some (.cells #[.int .i64 page, .slice a' n n, .int .i64 (S : Int)] 85 (0, 0)) := by rw [← hV1]; exact heap_alloc_new V _
      refine ⟨?_, ?_, ?_⟩ <;> rw [cell_of_row _ _ _ _ _ _ hr] <;> rfl
    obtain ⟨cl0, cl1, cl2⟩ := cl
    go_wp2_with fail
    refine HM.mono ?_
    rintro e V2 ⟨m, rfl, hm, hs1, hs2, hb2⟩
    have HB2 : Hid (Below w.heap.size w V2) := HB1.out.trans (hb2.mono HB1.out.size)
    have HCU := cut_any a n c m V2 hm hcap
    have HS2 : Hid (szL (es.take m) ≤ 1023 ∧ szL (es.drop m) ≤ 1023) := ⟨hs1, hs2⟩
    clear HM hb2 hs1 hs2
    go_wp2_with fail
    refine HCU.mono ?_
    rintro e V3 ⟨rfl, hb3⟩
    have HB3 : Hid (Below w.heap.size w V3) := HB2.out.trans (hb3.mono HB2.out.size)
    have HN1 := newLeaf_any page _ _ _ _ ((HP.out.below HB3.out).take m hm) (by have := HS2.out; omega)
    obtain ⟨x1, hx1⟩ : ∃ x, szL (es.take m) = x := ⟨_, rfl⟩
    obtain ⟨x2, hx2⟩ : ∃ x, szL (es.drop m) = x := ⟨_, rfl⟩
    rw [hx1] at HN1
    clear HCU hb3
    go_wp2_with fail
    refine HN1.mono ?_
    rintro e V4 ⟨a1, rfl, hp4, hb4⟩
    have HB4 : Hid (Below w.heap.size w V4) := HB3.out.trans (hb4.mono HB3.out.size)
    have HN2 := newLeaf_any (-1) _ _ _ _ ((HP.out.below HB4.out).drop m hm) (by have := HS2.out; omega)
    rw [hx2] at HN2
    have HP4 : Hid (Pw G V4 a1 m m (es.take m)) := hp4
    clear HN1 hb4 hp4
    go_wp2_with fail
    refine HN2.mono ?_
    rintro e V5 ⟨a2, rfl, hp5, hb5⟩
    have HB5 : Hid (Below w.heap.size w V5) := HB4.out.trans (hb5.mono HB4.out.size)
    have HP5 : Hid (Pw G V5 a2 (n - m) (n - m) (es.drop m) ∧ Pw G V5 a1 m m (es.take m)) := ⟨hp5, HP4.out.below hb5⟩
    have HX : Hid (szL (es.take m) = x1 ∧ szL (es.drop m) = x2) := ⟨hx1, hx2⟩
    clear HN2 hb5 hp5 hx1 hx2
    go_wp2
    go_ret
    have hB : Below V5.heap.size V5 (V5.alloc (.cells #[.int .i64 page, .slice a1 m m, .int .i64 (x1 : Int), .int .i64 (-1), .slice a2 (n - m) (n - m), .int .i64 (x2 : Int)] 85)) := (Below.refl _ V5).alloc (Nat.le_refl _) _
    refine ⟨_, [⟨page, es.take m, a1⟩, ⟨-1, es.drop m, a2⟩], ret_val rfl, ?_, ?_⟩
    · refine ⟨Lw.made ?_ (HG.out _ (by have := HB5.out.size; omega)) ?_ (by simp), by simp [lfs, flat, Mf.lf], .inr (by simp [lfs, Mf.lf]), ?_, .inr rfl, fun h => by rw [HS.out] at h; omega⟩
      · have e : (mfV [⟨page, es.take m, a1⟩, ⟨-1, es.drop m, a2⟩]).toArray = #[.int .i64 page, .slice a1 m m, .int .i64 (x1 : Int), .int .i64 (-1), .slice a2 (n - m) (n - m), .int .i64 (x2 : Int)] := by
          simp [mfV, mfC, HX.out.1, HX.out.2, hl, Nat.min_eq_left hm]
        rw [e]
        exact heap_alloc_new _ _
      · intro x hx
        simp only [List.mem_cons, List.not_mem_nil, or_false] at hx
        rcases hx with rfl | rfl
        · have := HP5.out.2.below hB
          have e : (es.take m).length = m := by rw [List.length_take]; omega
          simp only
          rw [e]
          exact this
        · have := HP5.out.1.below hB
          have e : (es.drop m).length = n - m := by rw [List.length_drop]; omega
          simp only
          rw [e]
          exact this
      · intro x hx
        simp only [lfs, List.map_cons, List.map_nil, List.mem_cons, List.not_mem_nil, or_false] at hx
        have := HS2.out
        rcases hx with rfl | rfl
        · exact this.1
        · exact this.2
    · exact HB5.out.trans (hB.mono HB5.out.size)
end Go.Proofs.YtnafalkcgghjgaaGreatDoor
