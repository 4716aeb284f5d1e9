/- Proved: for every bytes, number and byte, the law LzCuts returns true, they as they were. No condition: every input that can be read as data. -/
import Derived.Test.YtekbmdpokghmmaaRows
import Derived.Test.YtekbmdpokghmmaaLS
import Derived.WalkKit
import Derived.ProofKit
import Derived.OpenShut
import Derived.ShutString
import Derived.ChangeOld
import Derived.SizedLaws
import Derived.Below
namespace Go.Proofs.Ytekbmdpokghmmaa.lzCuts
open Go.ChangeShapes Go.WideShapes Go.ChangeAt Go.RowKit Lz
open Go.ChangeMaps (open_string shut_string)
theorem own : ownKnob Try.prog.godebug = none := by kernel_rfl
theorem laidOut : laidOutB Try.prog = true := by kernel_rfl
theorem grown_below {w W W' : World} {a : Option Addr} (hb : Below w.heap.size w W) (hg : W.grownBy W' (ob a)) (h : ∀ k, ob a = some k → w.heap.size ≤ k) : Below w.heap.size w W' :=
  hb.trans ⟨hg.os, hg.tape, hg.output, hg.size, fun k hk => hg.block k (Nat.lt_of_lt_of_le hk hb.size) (fun e => by have := h k e.symm; omega)⟩

set_option maxRecDepth 100000 in
set_option maxHeartbeats 2000000 in
theorem walk (a0 : Option Addr) (len0 cap0 : Nat) (l0 : List UInt8) (x1 : Int) (_z1 : -9223372036854775808 ≤ x1 ∧ x1 ≤ 9223372036854775807) (x2 : Int) (z2 : 0 ≤ x2 ∧ x2 ≤ 255) (w : World) (w0 : Bs w a0 len0 cap0 l0) :
    Calls Try.prog 7 #[.slice a0 len0 cap0, .int .i64 x1, .int .u8 x2] w fun e w' => e = .returned (.bool true) ∧ Below w.heap.size w w' := by
  have HLV : Hid (∀ W, Below w.heap.size w W → Calls Try.prog 9 #[] W fun e w' => e = .returned (.bool true) ∧ Below w.heap.size w w') := by
    intro W hW
    refine (lives_any W).mono ?_
    rintro e w' ⟨rfl, hb⟩
    exact ⟨rfl, hW.trans (hb.mono hW.size)⟩
  by_cases h5 : 2000 < len0
  · have kk : (2000 : Int) < (len0 : Int) := by omega
    clear w0
    go_enter Try.func7, Try.ntmps7
    go_wp2_with (go_at_call 9; refine (HLV.out _ (Below.refl _ _)).mono ?_; rintro e w' ⟨rfl, hb⟩)
    go_ret
    exact ⟨rfl, hb⟩
  have kk : ¬ (2000 : Int) < (len0 : Int) := by omega
  have hl0 := w0.1
  obtain ⟨ch, hch⟩ : ∃ ch : UInt8, x2 = ((ch.toNat : Nat) : Int) := ⟨UInt8.ofNat x2.toNat, by rw [toNat_ofNat_ (by omega)]; omega⟩
  subst hch
  obtain ⟨q, hq⟩ : ∃ q, ch.toNat = q := ⟨_, rfl⟩
  rw [hq]
  have HCH : Hid (ch.toNat = q) := hq
  have HX : Hid (l0.length ≤ 65536) := by show l0.length ≤ 65536; omega
  have HPK := pack_ok w0 HX.out
  obtain ⟨P, hP⟩ : ∃ P, (packB l0).length = P := ⟨_, rfl⟩
  have hPl := pack_len l0 HX.out
  have hPp := pack_pos l0
  have kP : P ≤ 3000 := by omega
  rw [hP] at HPK
  have HPK : Hid _ := HPK
  have HNP : Hid (l0.length = len0 ∧ (packB l0).length = P) := ⟨hl0, hP⟩
  have wl : IntKind.i64.wrap ((len0 : Int) - 1) = (len0 : Int) - 1 := wrapI _ (by omega) (by omega)
  clear w0 hl0 hP hq hPl hPp
  by_cases hz : 0 < len0
  · have kz : (0 : Int) < (len0 : Int) := by omega
    go_enter Try.func7, Try.ntmps7
    go_wp2_with fail
    refine Calls.mono HPK.out ?_
    rintro e w1 ⟨ap, cp, rfl, hop, hb1⟩
    have HP1 : Hid (w1.ownsRow w.heap.size 5 1 (.slice ap P cp) P (bytesV (packB l0)) ∧ Below w.heap.size w w1) := ⟨hop, hb1⟩
    have HU1 : Hid (Calls Try.prog 10 #[.slice ap P cp, .int .i64 ((len0 : Int) - 1)] w1 fun e w' => e = .returned (.tuple #[.slice none 0 0, .int .i64 2]) ∧ Below w1.heap.size w1 w') := unpack_less (own_bs hop) HX.out _ (by rw [HNP.out.1]; omega)
    clear hop hb1 HPK
    go_wp2_with fail
    refine HU1.out.mono ?_
    rintro e V1 ⟨rfl, hb2⟩
    have HV1 : Hid (Bs V1 ap P cp (packB l0) ∧ Below w.heap.size w V1) := ⟨(own_bs HP1.out.1).below hb2, HP1.out.2.trans (hb2.mono HP1.out.2.size)⟩
    clear hb2
    by_cases hc : 0 ≤ x1 ∧ x1 < (P : Int)
    · obtain ⟨c1, hc1⟩ : ∃ c1 : Nat, x1 = (c1 : Int) := ⟨x1.toNat, by omega⟩
      subst hc1
      have hcP : c1 < P := by omega
      have j1 : (0 : Int) ≤ (c1 : Int) := by omega
      have j2 : (c1 : Int) < (P : Int) := by omega
      have hcap := HV1.out.1.2.1
      have hsl := pre_bytes ap P cp c1 (by omega)
      have hbc := HV1.out.1.off 0 c1 (Nat.zero_le _) (by omega)
      rw [List.drop_zero, Nat.sub_zero, Nat.sub_zero] at hbc
      have hbc2 : Bs V1 (cutA ap cp 0 1) c1 cp ((packB l0).take c1) := hbc
      have HUC := unpack_cut hbc2 HX.out (by rw [HNP.out.2]; exact hcP)
      rw [HNP.out.1] at HUC
      have HUC : Hid (Calls Try.prog 10 #[.slice (cutA ap cp 0 1) c1 cp, .int .i64 (len0 : Int)] V1 fun e w' => e = .returned (.tuple #[.slice none 0 0, .int .i64 4]) ∧ Below V1.heap.size V1 w') := HUC
      clear hbc hbc2 hc
      go_wp2_with fail
      refine HUC.out.mono ?_
      rintro e V2 ⟨rfl, hb3⟩
      have HV2 : Hid (Bs V2 ap P cp (packB l0) ∧ Below w.heap.size w V2) := ⟨HV1.out.1.below hb3, HV1.out.2.trans (hb3.mono HV1.out.2.size)⟩
      clear hb3 hsl
      obtain ⟨W5, hW5⟩ : ∃ W, V2.alloc (.cells #[] 5) = W := ⟨_, rfl⟩
      obtain ⟨K, hK⟩ : ∃ K, V2.heap.size = K := ⟨_, rfl⟩
      have hb5 : Below V2.heap.size V2 W5 := by rw [← hW5]; exact (Below.refl _ V2).alloc (Nat.le_refl _) _
      have hb5w := HV2.out.2.trans (hb5.mono HV2.out.2.size)
      have ho5 : W5.ownsRow w.heap.size 5 1 (.slice (some ⟨K, 0, none⟩) 0 0) 0 (bytesV []) := ⟨rfl, .inr ⟨K, 0, _, rfl, by rw [← hK]; exact HV2.out.2.size, by rw [← hW5, ← hK]; exact heap_alloc_new V2 _, Nat.le_refl _, by unfold maxLen; omega, rfl, rfl⟩⟩
      have hp5 := HV2.out.1.below hb5
      obtain ⟨a6, c6, W6, hr6, ho6, hg6, ha6⟩ := app_bytes W5 ho5 hp5.rw (by omega) hb5w.size
      rw [Nat.zero_add, List.nil_append] at ho6
      have hr6' : ∀ ty, (Builtin.append_ #[22, 22] ty #[.slice (some ⟨K, 0, none⟩) 0 0, .slice ap P cp]).run Try.prog W5 = .ok (.slice a6 P c6) W6 := fun ty => by have := hr6 ty; rwa [Nat.zero_add] at this
      have hb6w : Below w.heap.size w W6 := grown_below hb5w hg6 (fun k e => by cases e; rw [← hK]; exact HV2.out.2.size)
      obtain ⟨J, hJ⟩ : ∃ J, W6.heap.size = J := ⟨_, rfl⟩
      obtain ⟨W7, hW7⟩ : ∃ W, W6.alloc (.cells #[.int .u8 (q : Int)] 5) = W := ⟨_, rfl⟩
      have hb7 : Below W6.heap.size W6 W7 := by rw [← hW7]; exact (Below.refl _ W6).alloc (Nat.le_refl _) _
      have hnr := newRow W6 [ch] (by simp)
      have hbv : bytesV [ch] = [.int .u8 (q : Int)] := by rw [← HCH.out]; rfl
      rw [hbv] at hnr
      have hnr : Rw (fun _ => True) W7 5 1 (some ⟨J, 0, none⟩) 1 1 (bytesV [ch]) := by rw [← hW7, ← hJ, hbv]; exact hnr
      have ho7 : W7.ownsRow w.heap.size 5 1 (.slice a6 P c6) P (bytesV (packB l0)) := own_keep ho6 (fun k hk => hb7.block k (ho6.lt k hk).2)
      have hb7w := hb6w.trans (hb7.mono hb6w.size)
      obtain ⟨a8, c8, W8, hr8, ho8, hg8, ha8⟩ := app_bytes W7 ho7 hnr (by omega) hb7w.size
      have hb8w : Below w.heap.size w W8 := grown_below hb7w hg8 (fun k e => (ho7.lt k (by rw [ob_slice]; exact e)).1)
      have hno := more_no HX.out (choose_ok l0 HX.out).1 (choose_ok l0 HX.out).2.1 ch
      have HTK := tokens_no (own_bs ho8) hno
      have HTK : Hid (Calls Try.prog 12 #[.slice a8 (P + 1) c8] W8 fun e w' => e = .returned (.tuple #[.slice none 0 0, .int .i64 4]) ∧ Below W8.heap.size W8 w') := HTK
      have HB8 : Hid (Below w.heap.size w W8) := hb8w
      clear hb5 hb5w ho5 hp5 ho6 hg6 ha6 hb6w hb7 hnr hbv ho7 hb7w ho8 hg8 ha8 hb8w hno hr6
      go_wp2_with (first | (at_builtin; refine wpList_app W5 rfl _ _ _ _ rfl rfl rfl (hr6' _) ?_) | (at_builtin; refine wpList_app W7 rfl _ _ _ _ rfl rfl rfl (hr8 _) ?_))
      refine HTK.out.mono ?_
      rintro e V9 ⟨rfl, hb9⟩
      have HB9 : Hid (Below w.heap.size w V9) := HB8.out.trans (hb9.mono HB8.out.size)
      clear hb9 hr8 hr6' hW5 hW7 hK hJ
      go_wp2_with (go_at_call 9; refine (HLV.out _ (HB9.out)).mono ?_; rintro e w' ⟨rfl, hb⟩)
      go_ret
      exact ⟨rfl, hb⟩
    by_cases hc0 : 0 ≤ x1
    · have j2 : ¬ x1 < (P : Int) := by omega
      obtain ⟨V2, hV2⟩ : ∃ V2, V2 = V1 := ⟨_, rfl⟩
      subst hV2
      have HV2 : Hid _ := HV1
      clear hc
      obtain ⟨W5, hW5⟩ : ∃ W, V2.alloc (.cells #[] 5) = W := ⟨_, rfl⟩
      obtain ⟨K, hK⟩ : ∃ K, V2.heap.size = K := ⟨_, rfl⟩
      have hb5 : Below V2.heap.size V2 W5 := by rw [← hW5]; exact (Below.refl _ V2).alloc (Nat.le_refl _) _
      have hb5w := HV1.out.2.trans (hb5.mono HV1.out.2.size)
      have ho5 : W5.ownsRow w.heap.size 5 1 (.slice (some ⟨K, 0, none⟩) 0 0) 0 (bytesV []) := ⟨rfl, .inr ⟨K, 0, _, rfl, by rw [← hK]; exact HV1.out.2.size, by rw [← hW5, ← hK]; exact heap_alloc_new V2 _, Nat.le_refl _, by unfold maxLen; omega, rfl, rfl⟩⟩
      have hp5 := HV1.out.1.below hb5
      obtain ⟨a6, c6, W6, hr6, ho6, hg6, ha6⟩ := app_bytes W5 ho5 hp5.rw (by omega) hb5w.size
      rw [Nat.zero_add, List.nil_append] at ho6
      have hr6' : ∀ ty, (Builtin.append_ #[22, 22] ty #[.slice (some ⟨K, 0, none⟩) 0 0, .slice ap P cp]).run Try.prog W5 = .ok (.slice a6 P c6) W6 := fun ty => by have := hr6 ty; rwa [Nat.zero_add] at this
      have hb6w : Below w.heap.size w W6 := grown_below hb5w hg6 (fun k e => by cases e; rw [← hK]; exact HV1.out.2.size)
      obtain ⟨J, hJ⟩ : ∃ J, W6.heap.size = J := ⟨_, rfl⟩
      obtain ⟨W7, hW7⟩ : ∃ W, W6.alloc (.cells #[.int .u8 (q : Int)] 5) = W := ⟨_, rfl⟩
      have hb7 : Below W6.heap.size W6 W7 := by rw [← hW7]; exact (Below.refl _ W6).alloc (Nat.le_refl _) _
      have hnr := newRow W6 [ch] (by simp)
      have hbv : bytesV [ch] = [.int .u8 (q : Int)] := by rw [← HCH.out]; rfl
      rw [hbv] at hnr
      have hnr : Rw (fun _ => True) W7 5 1 (some ⟨J, 0, none⟩) 1 1 (bytesV [ch]) := by rw [← hW7, ← hJ, hbv]; exact hnr
      have ho7 : W7.ownsRow w.heap.size 5 1 (.slice a6 P c6) P (bytesV (packB l0)) := own_keep ho6 (fun k hk => hb7.block k (ho6.lt k hk).2)
      have hb7w := hb6w.trans (hb7.mono hb6w.size)
      obtain ⟨a8, c8, W8, hr8, ho8, hg8, ha8⟩ := app_bytes W7 ho7 hnr (by omega) hb7w.size
      have hb8w : Below w.heap.size w W8 := grown_below hb7w hg8 (fun k e => (ho7.lt k (by rw [ob_slice]; exact e)).1)
      have hno := more_no HX.out (choose_ok l0 HX.out).1 (choose_ok l0 HX.out).2.1 ch
      have HTK := tokens_no (own_bs ho8) hno
      have HTK : Hid (Calls Try.prog 12 #[.slice a8 (P + 1) c8] W8 fun e w' => e = .returned (.tuple #[.slice none 0 0, .int .i64 4]) ∧ Below W8.heap.size W8 w') := HTK
      have HB8 : Hid (Below w.heap.size w W8) := hb8w
      clear hb5 hb5w ho5 hp5 ho6 hg6 ha6 hb6w hb7 hnr hbv ho7 hb7w ho8 hg8 ha8 hb8w hno hr6
      go_wp2_with (first | (at_builtin; refine wpList_app W5 rfl _ _ _ _ rfl rfl rfl (hr6' _) ?_) | (at_builtin; refine wpList_app W7 rfl _ _ _ _ rfl rfl rfl (hr8 _) ?_))
      refine HTK.out.mono ?_
      rintro e V9 ⟨rfl, hb9⟩
      have HB9 : Hid (Below w.heap.size w V9) := HB8.out.trans (hb9.mono HB8.out.size)
      clear hb9 hr8 hr6' hW5 hW7 hK hJ
      go_wp2_with (go_at_call 9; refine (HLV.out _ (HB9.out)).mono ?_; rintro e w' ⟨rfl, hb⟩)
      go_ret
      exact ⟨rfl, hb⟩
    · obtain ⟨V2, hV2⟩ : ∃ V2, V2 = V1 := ⟨_, rfl⟩
      subst hV2
      clear hc
      obtain ⟨W5, hW5⟩ : ∃ W, V2.alloc (.cells #[] 5) = W := ⟨_, rfl⟩
      obtain ⟨K, hK⟩ : ∃ K, V2.heap.size = K := ⟨_, rfl⟩
      have hb5 : Below V2.heap.size V2 W5 := by rw [← hW5]; exact (Below.refl _ V2).alloc (Nat.le_refl _) _
      have hb5w := HV1.out.2.trans (hb5.mono HV1.out.2.size)
      have ho5 : W5.ownsRow w.heap.size 5 1 (.slice (some ⟨K, 0, none⟩) 0 0) 0 (bytesV []) := ⟨rfl, .inr ⟨K, 0, _, rfl, by rw [← hK]; exact HV1.out.2.size, by rw [← hW5, ← hK]; exact heap_alloc_new V2 _, Nat.le_refl _, by unfold maxLen; omega, rfl, rfl⟩⟩
      have hp5 := HV1.out.1.below hb5
      obtain ⟨a6, c6, W6, hr6, ho6, hg6, ha6⟩ := app_bytes W5 ho5 hp5.rw (by omega) hb5w.size
      rw [Nat.zero_add, List.nil_append] at ho6
      have hr6' : ∀ ty, (Builtin.append_ #[22, 22] ty #[.slice (some ⟨K, 0, none⟩) 0 0, .slice ap P cp]).run Try.prog W5 = .ok (.slice a6 P c6) W6 := fun ty => by have := hr6 ty; rwa [Nat.zero_add] at this
      have hb6w : Below w.heap.size w W6 := grown_below hb5w hg6 (fun k e => by cases e; rw [← hK]; exact HV1.out.2.size)
      obtain ⟨J, hJ⟩ : ∃ J, W6.heap.size = J := ⟨_, rfl⟩
      obtain ⟨W7, hW7⟩ : ∃ W, W6.alloc (.cells #[.int .u8 (q : Int)] 5) = W := ⟨_, rfl⟩
      have hb7 : Below W6.heap.size W6 W7 := by rw [← hW7]; exact (Below.refl _ W6).alloc (Nat.le_refl _) _
      have hnr := newRow W6 [ch] (by simp)
      have hbv : bytesV [ch] = [.int .u8 (q : Int)] := by rw [← HCH.out]; rfl
      rw [hbv] at hnr
      have hnr : Rw (fun _ => True) W7 5 1 (some ⟨J, 0, none⟩) 1 1 (bytesV [ch]) := by rw [← hW7, ← hJ, hbv]; exact hnr
      have ho7 : W7.ownsRow w.heap.size 5 1 (.slice a6 P c6) P (bytesV (packB l0)) := own_keep ho6 (fun k hk => hb7.block k (ho6.lt k hk).2)
      have hb7w := hb6w.trans (hb7.mono hb6w.size)
      obtain ⟨a8, c8, W8, hr8, ho8, hg8, ha8⟩ := app_bytes W7 ho7 hnr (by omega) hb7w.size
      have hb8w : Below w.heap.size w W8 := grown_below hb7w hg8 (fun k e => (ho7.lt k (by rw [ob_slice]; exact e)).1)
      have hno := more_no HX.out (choose_ok l0 HX.out).1 (choose_ok l0 HX.out).2.1 ch
      have HTK := tokens_no (own_bs ho8) hno
      have HTK : Hid (Calls Try.prog 12 #[.slice a8 (P + 1) c8] W8 fun e w' => e = .returned (.tuple #[.slice none 0 0, .int .i64 4]) ∧ Below W8.heap.size W8 w') := HTK
      have HB8 : Hid (Below w.heap.size w W8) := hb8w
      clear hb5 hb5w ho5 hp5 ho6 hg6 ha6 hb6w hb7 hnr hbv ho7 hb7w ho8 hg8 ha8 hb8w hno hr6
      go_wp2_with (first | (at_builtin; refine wpList_app W5 rfl _ _ _ _ rfl rfl rfl (hr6' _) ?_) | (at_builtin; refine wpList_app W7 rfl _ _ _ _ rfl rfl rfl (hr8 _) ?_))
      refine HTK.out.mono ?_
      rintro e V9 ⟨rfl, hb9⟩
      have HB9 : Hid (Below w.heap.size w V9) := HB8.out.trans (hb9.mono HB8.out.size)
      clear hb9 hr8 hr6' hW5 hW7 hK hJ
      go_wp2_with (go_at_call 9; refine (HLV.out _ (HB9.out)).mono ?_; rintro e w' ⟨rfl, hb⟩)
      go_ret
      exact ⟨rfl, hb⟩
  · have hz0 : len0 = 0 := by omega
    subst hz0
    have HU0 := fun (V : World) (a : Option Addr) (c : Nat) (h : Bs V a P c (packB l0)) => unpack_pack h HX.out (-1) (by rw [HNP.out.1]; omega)
    rw [HNP.out.1] at HU0
    have HU0 : Hid (∀ (V : World) (a : Option Addr) (c : Nat), Bs V a P c (packB l0) → Calls Try.prog 10 #[.slice a P c, .int .i64 (-1)] V fun e w' => ∃ a c, e = .returned (.tuple #[.slice a 0 c, .int .i64 0]) ∧ w'.ownsRow V.heap.size 5 1 (.slice a 0 c) 0 (bytesV l0) ∧ Below V.heap.size V w') := HU0
    go_enter Try.func7, Try.ntmps7
    go_wp2_with fail
    refine Calls.mono HPK.out ?_
    rintro e w1 ⟨ap, cp, rfl, hop, hb1⟩
    have HP1 : Hid (w1.ownsRow w.heap.size 5 1 (.slice ap P cp) P (bytesV (packB l0)) ∧ Below w.heap.size w w1) := ⟨hop, hb1⟩
    have HU1 := HU0.out w1 ap cp (own_bs hop)
    clear hop hb1 HPK
    go_wp2_with fail
    refine HU1.mono ?_
    rintro e V1 ⟨ax, cx, rfl, _, hb2⟩
    clear HU1
    have HV1 : Hid (Bs V1 ap P cp (packB l0) ∧ Below w.heap.size w V1) := ⟨(own_bs HP1.out.1).below hb2, HP1.out.2.trans (hb2.mono HP1.out.2.size)⟩
    clear hb2
    by_cases hc : 0 ≤ x1 ∧ x1 < (P : Int)
    · obtain ⟨c1, hc1⟩ : ∃ c1 : Nat, x1 = (c1 : Int) := ⟨x1.toNat, by omega⟩
      subst hc1
      have hcP : c1 < P := by omega
      have j1 : (0 : Int) ≤ (c1 : Int) := by omega
      have j2 : (c1 : Int) < (P : Int) := by omega
      have hcap := HV1.out.1.2.1
      have hsl := pre_bytes ap P cp c1 (by omega)
      have hbc := HV1.out.1.off 0 c1 (Nat.zero_le _) (by omega)
      rw [List.drop_zero, Nat.sub_zero, Nat.sub_zero] at hbc
      have hbc2 : Bs V1 (cutA ap cp 0 1) c1 cp ((packB l0).take c1) := hbc
      have HUC := unpack_cut hbc2 HX.out (by rw [HNP.out.2]; exact hcP)
      rw [HNP.out.1] at HUC
      have HUC : Hid (Calls Try.prog 10 #[.slice (cutA ap cp 0 1) c1 cp, .int .i64 0] V1 fun e w' => e = .returned (.tuple #[.slice none 0 0, .int .i64 4]) ∧ Below V1.heap.size V1 w') := HUC
      clear hbc hbc2 hc
      go_wp2_with fail
      refine HUC.out.mono ?_
      rintro e V2 ⟨rfl, hb3⟩
      have HV2 : Hid (Bs V2 ap P cp (packB l0) ∧ Below w.heap.size w V2) := ⟨HV1.out.1.below hb3, HV1.out.2.trans (hb3.mono HV1.out.2.size)⟩
      clear hb3 hsl
      obtain ⟨W5, hW5⟩ : ∃ W, V2.alloc (.cells #[] 5) = W := ⟨_, rfl⟩
      obtain ⟨K, hK⟩ : ∃ K, V2.heap.size = K := ⟨_, rfl⟩
      have hb5 : Below V2.heap.size V2 W5 := by rw [← hW5]; exact (Below.refl _ V2).alloc (Nat.le_refl _) _
      have hb5w := HV2.out.2.trans (hb5.mono HV2.out.2.size)
      have ho5 : W5.ownsRow w.heap.size 5 1 (.slice (some ⟨K, 0, none⟩) 0 0) 0 (bytesV []) := ⟨rfl, .inr ⟨K, 0, _, rfl, by rw [← hK]; exact HV2.out.2.size, by rw [← hW5, ← hK]; exact heap_alloc_new V2 _, Nat.le_refl _, by unfold maxLen; omega, rfl, rfl⟩⟩
      have hp5 := HV2.out.1.below hb5
      obtain ⟨a6, c6, W6, hr6, ho6, hg6, ha6⟩ := app_bytes W5 ho5 hp5.rw (by omega) hb5w.size
      rw [Nat.zero_add, List.nil_append] at ho6
      have hr6' : ∀ ty, (Builtin.append_ #[22, 22] ty #[.slice (some ⟨K, 0, none⟩) 0 0, .slice ap P cp]).run Try.prog W5 = .ok (.slice a6 P c6) W6 := fun ty => by have := hr6 ty; rwa [Nat.zero_add] at this
      have hb6w : Below w.heap.size w W6 := grown_below hb5w hg6 (fun k e => by cases e; rw [← hK]; exact HV2.out.2.size)
      obtain ⟨J, hJ⟩ : ∃ J, W6.heap.size = J := ⟨_, rfl⟩
      obtain ⟨W7, hW7⟩ : ∃ W, W6.alloc (.cells #[.int .u8 (q : Int)] 5) = W := ⟨_, rfl⟩
      have hb7 : Below W6.heap.size W6 W7 := by rw [← hW7]; exact (Below.refl _ W6).alloc (Nat.le_refl _) _
      have hnr := newRow W6 [ch] (by simp)
      have hbv : bytesV [ch] = [.int .u8 (q : Int)] := by rw [← HCH.out]; rfl
      rw [hbv] at hnr
      have hnr : Rw (fun _ => True) W7 5 1 (some ⟨J, 0, none⟩) 1 1 (bytesV [ch]) := by rw [← hW7, ← hJ, hbv]; exact hnr
      have ho7 : W7.ownsRow w.heap.size 5 1 (.slice a6 P c6) P (bytesV (packB l0)) := own_keep ho6 (fun k hk => hb7.block k (ho6.lt k hk).2)
      have hb7w := hb6w.trans (hb7.mono hb6w.size)
      obtain ⟨a8, c8, W8, hr8, ho8, hg8, ha8⟩ := app_bytes W7 ho7 hnr (by omega) hb7w.size
      have hb8w : Below w.heap.size w W8 := grown_below hb7w hg8 (fun k e => (ho7.lt k (by rw [ob_slice]; exact e)).1)
      have hno := more_no HX.out (choose_ok l0 HX.out).1 (choose_ok l0 HX.out).2.1 ch
      have HTK := tokens_no (own_bs ho8) hno
      have HTK : Hid (Calls Try.prog 12 #[.slice a8 (P + 1) c8] W8 fun e w' => e = .returned (.tuple #[.slice none 0 0, .int .i64 4]) ∧ Below W8.heap.size W8 w') := HTK
      have HB8 : Hid (Below w.heap.size w W8) := hb8w
      clear hb5 hb5w ho5 hp5 ho6 hg6 ha6 hb6w hb7 hnr hbv ho7 hb7w ho8 hg8 ha8 hb8w hno hr6
      go_wp2_with (first | (at_builtin; refine wpList_app W5 rfl _ _ _ _ rfl rfl rfl (hr6' _) ?_) | (at_builtin; refine wpList_app W7 rfl _ _ _ _ rfl rfl rfl (hr8 _) ?_))
      refine HTK.out.mono ?_
      rintro e V9 ⟨rfl, hb9⟩
      have HB9 : Hid (Below w.heap.size w V9) := HB8.out.trans (hb9.mono HB8.out.size)
      clear hb9 hr8 hr6' hW5 hW7 hK hJ
      go_wp2_with (go_at_call 9; refine (HLV.out _ (HB9.out)).mono ?_; rintro e w' ⟨rfl, hb⟩)
      go_ret
      exact ⟨rfl, hb⟩
    by_cases hc0 : 0 ≤ x1
    · have j2 : ¬ x1 < (P : Int) := by omega
      obtain ⟨V2, hV2⟩ : ∃ V2, V2 = V1 := ⟨_, rfl⟩
      subst hV2
      have HV2 : Hid _ := HV1
      clear hc
      obtain ⟨W5, hW5⟩ : ∃ W, V2.alloc (.cells #[] 5) = W := ⟨_, rfl⟩
      obtain ⟨K, hK⟩ : ∃ K, V2.heap.size = K := ⟨_, rfl⟩
      have hb5 : Below V2.heap.size V2 W5 := by rw [← hW5]; exact (Below.refl _ V2).alloc (Nat.le_refl _) _
      have hb5w := HV1.out.2.trans (hb5.mono HV1.out.2.size)
      have ho5 : W5.ownsRow w.heap.size 5 1 (.slice (some ⟨K, 0, none⟩) 0 0) 0 (bytesV []) := ⟨rfl, .inr ⟨K, 0, _, rfl, by rw [← hK]; exact HV1.out.2.size, by rw [← hW5, ← hK]; exact heap_alloc_new V2 _, Nat.le_refl _, by unfold maxLen; omega, rfl, rfl⟩⟩
      have hp5 := HV1.out.1.below hb5
      obtain ⟨a6, c6, W6, hr6, ho6, hg6, ha6⟩ := app_bytes W5 ho5 hp5.rw (by omega) hb5w.size
      rw [Nat.zero_add, List.nil_append] at ho6
      have hr6' : ∀ ty, (Builtin.append_ #[22, 22] ty #[.slice (some ⟨K, 0, none⟩) 0 0, .slice ap P cp]).run Try.prog W5 = .ok (.slice a6 P c6) W6 := fun ty => by have := hr6 ty; rwa [Nat.zero_add] at this
      have hb6w : Below w.heap.size w W6 := grown_below hb5w hg6 (fun k e => by cases e; rw [← hK]; exact HV1.out.2.size)
      obtain ⟨J, hJ⟩ : ∃ J, W6.heap.size = J := ⟨_, rfl⟩
      obtain ⟨W7, hW7⟩ : ∃ W, W6.alloc (.cells #[.int .u8 (q : Int)] 5) = W := ⟨_, rfl⟩
      have hb7 : Below W6.heap.size W6 W7 := by rw [← hW7]; exact (Below.refl _ W6).alloc (Nat.le_refl _) _
      have hnr := newRow W6 [ch] (by simp)
      have hbv : bytesV [ch] = [.int .u8 (q : Int)] := by rw [← HCH.out]; rfl
      rw [hbv] at hnr
      have hnr : Rw (fun _ => True) W7 5 1 (some ⟨J, 0, none⟩) 1 1 (bytesV [ch]) := by rw [← hW7, ← hJ, hbv]; exact hnr
      have ho7 : W7.ownsRow w.heap.size 5 1 (.slice a6 P c6) P (bytesV (packB l0)) := own_keep ho6 (fun k hk => hb7.block k (ho6.lt k hk).2)
      have hb7w := hb6w.trans (hb7.mono hb6w.size)
      obtain ⟨a8, c8, W8, hr8, ho8, hg8, ha8⟩ := app_bytes W7 ho7 hnr (by omega) hb7w.size
      have hb8w : Below w.heap.size w W8 := grown_below hb7w hg8 (fun k e => (ho7.lt k (by rw [ob_slice]; exact e)).1)
      have hno := more_no HX.out (choose_ok l0 HX.out).1 (choose_ok l0 HX.out).2.1 ch
      have HTK := tokens_no (own_bs ho8) hno
      have HTK : Hid (Calls Try.prog 12 #[.slice a8 (P + 1) c8] W8 fun e w' => e = .returned (.tuple #[.slice none 0 0, .int .i64 4]) ∧ Below W8.heap.size W8 w') := HTK
      have HB8 : Hid (Below w.heap.size w W8) := hb8w
      clear hb5 hb5w ho5 hp5 ho6 hg6 ha6 hb6w hb7 hnr hbv ho7 hb7w ho8 hg8 ha8 hb8w hno hr6
      go_wp2_with (first | (at_builtin; refine wpList_app W5 rfl _ _ _ _ rfl rfl rfl (hr6' _) ?_) | (at_builtin; refine wpList_app W7 rfl _ _ _ _ rfl rfl rfl (hr8 _) ?_))
      refine HTK.out.mono ?_
      rintro e V9 ⟨rfl, hb9⟩
      have HB9 : Hid (Below w.heap.size w V9) := HB8.out.trans (hb9.mono HB8.out.size)
      clear hb9 hr8 hr6' hW5 hW7 hK hJ
      go_wp2_with (go_at_call 9; refine (HLV.out _ (HB9.out)).mono ?_; rintro e w' ⟨rfl, hb⟩)
      go_ret
      exact ⟨rfl, hb⟩
    · obtain ⟨V2, hV2⟩ : ∃ V2, V2 = V1 := ⟨_, rfl⟩
      subst hV2
      clear hc
      obtain ⟨W5, hW5⟩ : ∃ W, V2.alloc (.cells #[] 5) = W := ⟨_, rfl⟩
      obtain ⟨K, hK⟩ : ∃ K, V2.heap.size = K := ⟨_, rfl⟩
      have hb5 : Below V2.heap.size V2 W5 := by rw [← hW5]; exact (Below.refl _ V2).alloc (Nat.le_refl _) _
      have hb5w := HV1.out.2.trans (hb5.mono HV1.out.2.size)
      have ho5 : W5.ownsRow w.heap.size 5 1 (.slice (some ⟨K, 0, none⟩) 0 0) 0 (bytesV []) := ⟨rfl, .inr ⟨K, 0, _, rfl, by rw [← hK]; exact HV1.out.2.size, by rw [← hW5, ← hK]; exact heap_alloc_new V2 _, Nat.le_refl _, by unfold maxLen; omega, rfl, rfl⟩⟩
      have hp5 := HV1.out.1.below hb5
      obtain ⟨a6, c6, W6, hr6, ho6, hg6, ha6⟩ := app_bytes W5 ho5 hp5.rw (by omega) hb5w.size
      rw [Nat.zero_add, List.nil_append] at ho6
      have hr6' : ∀ ty, (Builtin.append_ #[22, 22] ty #[.slice (some ⟨K, 0, none⟩) 0 0, .slice ap P cp]).run Try.prog W5 = .ok (.slice a6 P c6) W6 := fun ty => by have := hr6 ty; rwa [Nat.zero_add] at this
      have hb6w : Below w.heap.size w W6 := grown_below hb5w hg6 (fun k e => by cases e; rw [← hK]; exact HV1.out.2.size)
      obtain ⟨J, hJ⟩ : ∃ J, W6.heap.size = J := ⟨_, rfl⟩
      obtain ⟨W7, hW7⟩ : ∃ W, W6.alloc (.cells #[.int .u8 (q : Int)] 5) = W := ⟨_, rfl⟩
      have hb7 : Below W6.heap.size W6 W7 := by rw [← hW7]; exact (Below.refl _ W6).alloc (Nat.le_refl _) _
      have hnr := newRow W6 [ch] (by simp)
      have hbv : bytesV [ch] = [.int .u8 (q : Int)] := by rw [← HCH.out]; rfl
      rw [hbv] at hnr
      have hnr : Rw (fun _ => True) W7 5 1 (some ⟨J, 0, none⟩) 1 1 (bytesV [ch]) := by rw [← hW7, ← hJ, hbv]; exact hnr
      have ho7 : W7.ownsRow w.heap.size 5 1 (.slice a6 P c6) P (bytesV (packB l0)) := own_keep ho6 (fun k hk => hb7.block k (ho6.lt k hk).2)
      have hb7w := hb6w.trans (hb7.mono hb6w.size)
      obtain ⟨a8, c8, W8, hr8, ho8, hg8, ha8⟩ := app_bytes W7 ho7 hnr (by omega) hb7w.size
      have hb8w : Below w.heap.size w W8 := grown_below hb7w hg8 (fun k e => (ho7.lt k (by rw [ob_slice]; exact e)).1)
      have hno := more_no HX.out (choose_ok l0 HX.out).1 (choose_ok l0 HX.out).2.1 ch
      have HTK := tokens_no (own_bs ho8) hno
      have HTK : Hid (Calls Try.prog 12 #[.slice a8 (P + 1) c8] W8 fun e w' => e = .returned (.tuple #[.slice none 0 0, .int .i64 4]) ∧ Below W8.heap.size W8 w') := HTK
      have HB8 : Hid (Below w.heap.size w W8) := hb8w
      clear hb5 hb5w ho5 hp5 ho6 hg6 ha6 hb6w hb7 hnr hbv ho7 hb7w ho8 hg8 ha8 hb8w hno hr6
      go_wp2_with (first | (at_builtin; refine wpList_app W5 rfl _ _ _ _ rfl rfl rfl (hr6' _) ?_) | (at_builtin; refine wpList_app W7 rfl _ _ _ _ rfl rfl rfl (hr8 _) ?_))
      refine HTK.out.mono ?_
      rintro e V9 ⟨rfl, hb9⟩
      have HB9 : Hid (Below w.heap.size w V9) := HB8.out.trans (hb9.mono HB8.out.size)
      clear hb9 hr8 hr6' hW5 hW7 hK hJ
      go_wp2_with (go_at_call 9; refine (HLV.out _ (HB9.out)).mono ?_; rintro e w' ⟨rfl, hb⟩)
      go_ret
      exact ⟨rfl, hb⟩

set_option linter.unusedVariables false in
set_option maxRecDepth 100000 in
theorem lifted (os : _root_.Go.Os) (started : os.Started) (H : Type) (enc : TypeId × Value → H) :
    ReturnsInHanded {} Try.checked os 7 .any (Rows.lzCutsSpec.pre6 enc Try.prog Try.f7 Rows.lzCutsRow.domain false) (Rows.lzCutsSpec.post enc Try.prog Try.f7 false true false false) := by
  refine returnsInHanded_of_change_sized (C := Try.checked) own started (by kernel_rfl) Try.func7
    (ChangeSpec.witness6 (enc := enc) (C := Try.checked) false ⟨#[], #[.slice none 0 0, .int .i64 0, .int .u8 0], []⟩ 8 (by kernel_rfl) (by kernel_rfl) (by kernel_rfl) (by kernel_rfl)) ?_
  intro W base args ds gs before hval0 hW hcnd hsz0 _
  have hval : ∀ (j : Nat) t v, Try.f7.params[j]? = some t → args[j]? = some v → Value.okWide Try.prog W .any base t v := hval0
  have hsz : (DataW.weightsEach Try.prog (Try.f7.params.toList ++ Rows.lzCutsSpec.plain.varTypes Try.prog) (ds ++ gs)).all (· ≤ reachBytes) = true := hsz0
  have hW' := hW
  obtain ⟨p, q, hA0, hV, rfl, hfz, hnd⟩ := hW
  have hA : DataW.TrodAll enc Try.prog W 0 (fun _ => true) true Try.f7.params.toList args.toList ds p := hA0
  rw [Try.params7] at hA hval hsz
  obtain ⟨v0, vs0, d0, ds0, p0, q0, hargs, rfl, rfl, h0, r0⟩ := trodAll_cons hA
  obtain ⟨v1, vs1, d1, ds1, p1, q1, rfl, rfl, rfl, h1, r1⟩ := trodAll_cons r0
  obtain ⟨v2, vs2, d2, ds2, p2, q2, rfl, rfl, rfl, h2, r2⟩ := trodAll_cons r1
  obtain ⟨rfl, rfl, rfl⟩ := trodAll_nil r2
  obtain rfl : args = #[v0, v1, v2] := by cases args; simp_all
  obtain ⟨rfl, rfl⟩ := trodVars_none hV
  have k0 := h0
  have lt0 : ∀ x ∈ p0, x.block < W.heap.size := by obtain ⟨m, hm⟩ := k0; exact DataW.trod_lt m _ _ _ hm
  obtain ⟨a0, len0, cap0, rfl⟩ := okWide_slice Try.underlying22 (hval 0 22 v0 rfl rfl)
  obtain ⟨l0, w0⟩ : ∃ l, Bs W a0 len0 cap0 l := by
    obtain ⟨fuel, hf⟩ := h0
    exact bs_of (by simpa [Value.cells] using hf)
  obtain ⟨x1, rfl, rfl, rfl, w1⟩ := open_int Try.underlying3 (hval 1 3 v1 rfl rfl) h1
  obtain ⟨x2, rfl, rfl, rfl, w2⟩ := open_int Try.underlying5 (hval 2 5 v2 rfl rfl) h2
  clear hA0 hval0 hsz hsz0
  refine (walk a0 len0 cap0 l0 x1 (wf_i64 w1) x2 (wf_u8 w2) W w0).mono fun e W' ⟨he, bel⟩ => ?_
  subst he
  exact ⟨_, rfl, _, _, _, [], _, [], hW', trodAll_mk1 (shut_bool Try.underlying4 _), (trodAll_cons_mk (Below.trod laidOut (by kernel_rfl) (of_decide_eq_true (by kernel_rfl)) k0 bel lt0) (trodAll_cons_mk (shut_int Try.underlying3 w1) (trodAll_cons_mk (shut_int Try.underlying5 w2) trodAll_mk0))), rfl, bel.frame _, fun h => by cases h⟩

theorem over : Rows.lzCutsRow.holds Try.pinned (OpenSpec.ofChange Rows.lzCutsSpec) :=
  OpenClaim.holds_of_wide 7 Try.f7 rfl rfl rfl rfl rfl rfl rfl ⟨rfl, rfl, rfl, rfl, rfl⟩ rfl rfl rfl rfl rfl (by kernel_rfl) Try.func7 (by kernel_rfl)
    (of_decide_eq_true (by kernel_rfl)) (by unfold Func.isWrapper; first | (rw [if_pos (by decide +kernel)]; kernel_rfl) | (rw [if_neg (by decide +kernel)]; exact ⟨rfl, rfl⟩))
    (fun os started H enc _ => lifted os started H enc)

end Go.Proofs.Ytekbmdpokghmmaa.lzCuts
namespace Go.Proofs.Ytekbmdpokghmmaa
/-- The given statement. -/
theorem lzCuts_holds : Rows.LzCutsSaid := lzCuts.over
#print axioms lzCuts_holds
end Go.Proofs.Ytekbmdpokghmmaa
