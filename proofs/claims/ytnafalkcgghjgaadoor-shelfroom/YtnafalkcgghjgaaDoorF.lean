/- Walks over a Disk's Flush and Fail. -/
import Derived.Test.YtnafalkcgghjgaaDoorE
import Derived.Shelf.Abstract
namespace Go.Proofs.YtnafalkcgghjgaaDoor
open Go.RowKit Go.Shelf
set_option maxHeartbeats 400000 in
theorem flush_nil (w : World) : Calls Tryd.prog 74 #[.pointer none] w fun e w' => e = .returned (.int .i64 1) ∧ w' = w := by
  have H := off_nil w
  go_enter Tryd.func74, Tryd.ntmps74
  go_wp2_with fail
  refine H.mono ?_
  rintro e w' ⟨rfl, rfl⟩
  go_wp2
  go_ret
  exact ⟨rfl, rfl⟩
set_option maxHeartbeats 400000 in
theorem flush_down {S : Nat → Prop} {g : Nat} {D : Dk} {w : World} (h : DiskIs w S g D) (hu : D.up = false) : Calls Tryd.prog 74 #[.pointer (some ⟨g, 0, none⟩)] w fun e w' => e = .returned (.int .i64 10) ∧ w' = w := by
  have H := off_any h
  unfold Dk.off at H
  rw [hu] at H
  clear h
  go_enter Tryd.func74, Tryd.ntmps74
  go_wp2_with fail
  refine H.mono ?_
  rintro e w' ⟨rfl, rfl⟩
  go_wp2
  go_ret
  exact ⟨rfl, rfl⟩
set_option maxHeartbeats 400000 in
theorem flush_any {S : Nat → Prop} {g : Nat} {D : Dk} {w : World} (h : DiskIs w S g D) (hu : D.up = true) : Calls Tryd.prog 74 #[.pointer (some ⟨g, 0, none⟩)] w fun e w' => e = .returned (.int .i64 0) ∧ DiskIs w' S g (D.settled fun _ => true) ∧ Upd S w w' := by
  have H := off_any h
  unfold Dk.off at H
  rw [hu] at H
  obtain ⟨kb, kc, sb, sc, wa, wc, h⟩ := h
  have HS := settle_any 84 #[] (fun _ => true) h (enters_of Tryd.func84 (by kernel_rfl) rfl) (fun i _ W _ => all_any i W)
  clear h
  go_enter Tryd.func74, Tryd.ntmps74
  go_wp2_with fail
  refine H.mono ?_
  rintro e w1 ⟨rfl, hw1⟩
  subst w1
  go_wp2_with fail
  refine HS.mono ?_
  rintro e w' ⟨rfl, h1, h2⟩
  have HL : Hid (Lies w' S g kb kc sb sc none 0 (D.settled fun _ => true)) := h1
  have HU : Hid (Upd S w w') := h2
  clear h1 h2
  go_wp2
  go_ret
  exact ⟨rfl, ⟨_, _, _, _, _, _, HL.out⟩, HU.out⟩
end Go.Proofs.YtnafalkcgghjgaaDoor
