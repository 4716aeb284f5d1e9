/- A walk over the document's Page. -/
import Derived.Test.YtaacedaehbaodaaGreatYD
namespace Go.Proofs.YtaacedaehbaodaaGreat
open Go.RowKit Go.Shelf
theorem rd_at (D : Dk) (a : Nat) (hu : D.up = true) (ha : a < D.kept.length) : D.rd (a : Int) = at_ D.seen a ∧ D.reach (a : Int) = 0 := by
  have hr : D.reach (a : Int) = 0 := by unfold Dk.reach; rw [if_pos hu, if_neg (by omega)]
  refine ⟨?_, hr⟩
  unfold Dk.rd at_
  rw [if_pos hr]
  rfl
set_option maxRecDepth 100000 in
set_option maxHeartbeats 4000000 in
theorem rpage_any {w : World} {lb lc : Nat} {wa : Option Addr} {wc : Nat} {D : Dk} (h : RefAt w lb lc wa wc D) (a : Nat) (hu : D.up = true) (ha : a + 4 ≤ D.kept.length) (hsz : ∀ j, j < 4 → (at_ D.seen (a + j)).size = 256) :
    Calls Tryz.prog 23 #[.agg #[.slice (some ⟨lb, 0, none⟩) D.kept.length lc, .slice wa D.waits.length wc, .int .i64 (D.fuse : Int), .int .i64 (D.writes : Int), .bool (!D.up)], .int .i64 (a : Int)] w fun e w' => e = .returned (.tuple #[.string (pageAt D.seen a), .int .i64 0]) ∧ Below w.heap.size w w' := by
  have hk2 := h.ok.n2
  obtain ⟨W1, hW1⟩ : ∃ W1, w.alloc (.cells #[.slice (some ⟨lb, 0, none⟩) D.kept.length lc, .slice wa D.waits.length wc, .int .i64 (D.fuse : Int), .int .i64 (D.writes : Int), .bool (!D.up)] 32) = W1 := ⟨_, rfl⟩
  have HRD : Hid (∀ W i, Below w.heap.size w W → i < 4 → Calls Tryz.prog 50 #[.agg #[.slice (some ⟨lb, 0, none⟩) D.kept.length lc, .slice wa D.waits.length wc, .int .i64 (D.fuse : Int), .int .i64 (D.writes : Int), .bool (!D.up)], .int .i64 ((a + i : Nat) : Int)] W fun e w' => e = .returned (.tuple #[.string (at_ D.seen (a + i)), .int .i64 0]) ∧ Below W.heap.size W w') := fun W i hW hi => by
    have hr := rread_any (h.below hW) ((a + i : Nat) : Int)
    rw [(rd_at D (a + i) hu (by omega)).1, (rd_at D (a + i) hu (by omega)).2] at hr
    exact hr
  obtain ⟨B, hB⟩ : ∃ B, w.heap.size = B := ⟨_, rfl⟩
  have HI : Hid (Below w.heap.size w W1 ∧ W1.heap[B]? = some (.cells #[.slice (some ⟨lb, 0, none⟩) D.kept.length lc, .slice wa D.waits.length wc, .int .i64 (D.fuse : Int), .int .i64 (D.writes : Int), .bool (!D.up)] 32 (0, 0))) := by
    rw [← hW1, ← hB]
    exact ⟨(Below.refl _ w).alloc (Nat.le_refl _) _, heap_alloc_new w _⟩
  obtain ⟨kl, hkl⟩ : ∃ kl, D.kept.length = kl := ⟨_, rfl⟩
  obtain ⟨wl, hwl⟩ : ∃ wl, D.waits.length = wl := ⟨_, rfl⟩
  obtain ⟨dn, hdn⟩ : ∃ dn, (!D.up) = dn := ⟨_, rfl⟩
  obtain ⟨fs, hfs⟩ : ∃ fs, (D.fuse : Int) = fs := ⟨_, rfl⟩
  obtain ⟨ws, hws⟩ : ∃ ws, (D.writes : Int) = ws := ⟨_, rfl⟩
  rw [hkl, hwl, hdn, hfs, hws] at HI HRD hW1 ⊢
  rw [hkl] at hk2 ha
  have HSZ : Hid (∀ j, j < 4 → (at_ D.seen (a + j)).size = 256) := hsz
  clear h hsz hu hdn hfs hws hkl hwl
  go_enter Tryz.func23, Tryz.ntmps23
  go_wp2
  go_loopw [6, 7] (fun vs v wr => ∃ i : Nat, i ≤ 4 ∧ v = .int .i64 i ∧ vs = .string (preAt D.seen a i) ∧ Below w.heap.size w wr ∧ wr.heap[B]? = some (.cells #[.slice (some ⟨lb, 0, none⟩) kl lc, .slice wa wl wc, .int .i64 fs, .int .i64 ws, .bool dn] 32 (0, 0))) (fun _ v _ => 4 - (intOf v).toNat)
  case atStart => exact ⟨0, by omega, rfl, rfl, HI.out⟩
  case round =>
    clear HI
    obtain ⟨i, hi, rfl, rfl, hbel, hbox⟩ := hrel
    have HB : Hid (Below w.heap.size w wr ∧ wr.heap[B]? = some (.cells #[.slice (some ⟨lb, 0, none⟩) kl lc, .slice wa wl wc, .int .i64 fs, .int .i64 ws, .bool dn] 32 (0, 0))) := ⟨hbel, hbox⟩
    obtain ⟨y0, y1, y2, y3, y4, _⟩ := row_at hbox
    clear hbel hbox
    by_cases hlt : i < 4
    · have kk : (i : Int) < 4 := by omega
      have HR := HRD.out wr i HB.out.1 hlt
      have kai : ((a + i : Nat) : Int) = (a : Int) + (i : Int) := by omega
      rw [kai] at HR
      have hs1 := HSZ.out i hlt
      have hps := preAt_size D.seen a i (fun j hj => HSZ.out j (by omega))
      obtain ⟨T, hT⟩ : ∃ T, at_ D.seen (a + i) = T := ⟨_, rfl⟩
      obtain ⟨P0, hP0⟩ : ∃ P0, preAt D.seen a i = P0 := ⟨_, rfl⟩
      have HP : Hid (preAt D.seen a (i + 1) = P0 ++ T) := by show preAt D.seen a i ++ at_ D.seen (a + i) = _; rw [hT, hP0]
      rw [hT] at HR hs1
      rw [hP0] at hps
      rw [hP0]
      clear hT hP0
      go_wp2_with fail
      refine HR.mono ?_
      rintro e V1 ⟨rfl, hV⟩
      have HN : Hid (Below w.heap.size w V1 ∧ V1.heap[B]? = some (.cells #[.slice (some ⟨lb, 0, none⟩) kl lc, .slice wa wl wc, .int .i64 fs, .int .i64 ws, .bool dn] 32 (0, 0))) :=
        ⟨HB.out.1.trans (hV.mono HB.out.1.size), (hV.block B (lt_of_some HB.out.2)).trans HB.out.2⟩
      clear HR hV HB
      go_wp2
      exact ⟨⟨i + 1, by omega, by go_num, by rw [HP.out], HN.out⟩, by simp [intOf]; omega⟩
    · obtain rfl : i = 4 := by omega
      have kk : ¬ (4 : Int) < 4 := by omega
      rw [preAt_four]
      go_wp2
      go_ret2
      exact ⟨rfl, by rw [← hB]; exact HB.out.1⟩
set_option maxRecDepth 100000 in
set_option maxHeartbeats 4000000 in
theorem rpage_down {w : World} {lb lc : Nat} {wa : Option Addr} {wc : Nat} {D : Dk} (h : RefAt w lb lc wa wc D) (a : Nat) (hu : D.up = false) (ha : a ≤ 4096) :
    Calls Tryz.prog 23 #[.agg #[.slice (some ⟨lb, 0, none⟩) D.kept.length lc, .slice wa D.waits.length wc, .int .i64 (D.fuse : Int), .int .i64 (D.writes : Int), .bool (!D.up)], .int .i64 (a : Int)] w fun e w' => e = .returned (.tuple #[.string ⟨#[]⟩, .int .i64 10]) ∧ Below w.heap.size w w' := by
  obtain ⟨W1, hW1⟩ : ∃ W1, w.alloc (.cells #[.slice (some ⟨lb, 0, none⟩) D.kept.length lc, .slice wa D.waits.length wc, .int .i64 (D.fuse : Int), .int .i64 (D.writes : Int), .bool (!D.up)] 32) = W1 := ⟨_, rfl⟩
  have hb1 : Below w.heap.size w W1 := by rw [← hW1]; exact (Below.refl _ w).alloc (Nat.le_refl _) _
  have hbx : W1.heap[w.heap.size]? = some (.cells #[.slice (some ⟨lb, 0, none⟩) D.kept.length lc, .slice wa D.waits.length wc, .int .i64 (D.fuse : Int), .int .i64 (D.writes : Int), .bool (!D.up)] 32 (0, 0)) := by rw [← hW1]; exact heap_alloc_new w _
  have HRD := rread_any (h.below hb1) (a : Int)
  have hre : D.reach (a : Int) = 10 := by unfold Dk.reach; rw [hu]; rfl
  have hrd : D.rd (a : Int) = ⟨#[]⟩ := by unfold Dk.rd; rw [hre, if_neg (by decide)]
  rw [hrd, hre] at HRD
  obtain ⟨y0, y1, y2, y3, y4, _⟩ := row_at hbx
  have HB : Hid (Below w.heap.size w W1) := hb1
  obtain ⟨kl, hkl⟩ : ∃ kl, D.kept.length = kl := ⟨_, rfl⟩
  obtain ⟨wl, hwl⟩ : ∃ wl, D.waits.length = wl := ⟨_, rfl⟩
  obtain ⟨dn, hdn⟩ : ∃ dn, (!D.up) = dn := ⟨_, rfl⟩
  rw [hkl, hwl, hdn] at HRD hW1 ⊢
  rw [hkl] at y0
  rw [hwl] at y1
  rw [hdn] at y4
  clear h hbx hb1 hre hrd hu hdn hkl hwl
  have k0 : (a : Int) + 0 = (a : Int) := by omega
  go_enter Tryz.func23, Tryz.ntmps23
  go_wp2
  go_loopw [6, 7] (fun vs v wr => v = .int .i64 0 ∧ vs = .string ⟨#[]⟩ ∧ wr = W1) (fun _ v _ => 4 - (intOf v).toNat)
  case atStart => exact ⟨rfl, rfl, rfl⟩
  case round =>
    obtain ⟨rfl, rfl, hwr⟩ := hrel
    subst hwr
    go_wp2_with fail
    refine HRD.mono ?_
    rintro e V1 ⟨rfl, hV⟩
    have HN : Hid (Below w.heap.size w V1) := HB.out.trans (hV.mono HB.out.size)
    clear HRD hV
    go_wp2
    go_ret2
    exact ⟨rfl, HN.out⟩
end Go.Proofs.YtaacedaehbaodaaGreat
