/- slices.Replace at the end of a row; whatever it is asked. -/
import Derived.Test.YtgihdfmeokbplaaXI
import Derived.Test.YtgihdfmeokbplaaXJ
import Derived.Deep.Upon
namespace Go.Proofs.Ytgihdfmeokbplaa
open Go.RowKit Ex
set_option maxRecDepth 100000 in
set_option maxHeartbeats 8000000 in
theorem replace_end {w : World} {b n cap i j m vc : Nat} {va : Option Addr} {hs vs : List Sp} (h : w.ownsRow 0 37 2 (.slice (some ⟨b, 0, none⟩) n cap) n (spsV hs)) (hv : InV w b va m vc vs) (hij : i < j) (hj : j = n) (hn : n ≤ 900000) (hm : m ≤ 2) (hf : i + m ≤ j) :
    Calls Try.prog 60 #[.slice (some ⟨b, 0, none⟩) n cap, .int .i64 (i : Int), .int .i64 (j : Int), .slice va m vc] w (RpTo w (some ⟨b, 0, none⟩) (hs.take i ++ (vs ++ hs.drop j))) := by
  have hl : hs.length = n := by have := h.1; rw [spsV_len] at this; omega
  obtain ⟨L, hB, hLl, hLt, hnc, hcm⟩ := Blk.of h
  have hcm2 : cap ≤ 9223372036854775807 := by simp only [maxLen] at hcm; omega
  have hdl : (spsV (hs.drop j)).length = (n - j) * 2 := by rw [spsV_len, List.length_drop, hl]
  have hvl : (spsV vs).length = m * 2 := by rw [spsV_len, hv.1]
  obtain ⟨T, hT⟩ : ∃ T, i + m + (n - j) = T := ⟨_, rfl⟩
  have hlen : (hs.take i ++ (vs ++ hs.drop j)).length = T := by simp only [List.length_append, List.length_take, List.length_drop, hv.1]; omega
  have kT : (i : Int) + (m : Int) + ((n - j : Nat) : Int) = (T : Int) := by omega
  have kN : ((n - j : Nat) : Int) = (n : Int) - (j : Int) := by omega
  have hin : i ≤ n := by omega
  have hij2 : i ≤ j := by omega
  have hz1 : ¬ ((i : Int) = (j : Int)) := by omega
  have hz2 : (j : Int) = (n : Int) := by omega
  have hi3 : (i : Int) ≤ (j : Int) := by omega
  have hi4 : (j : Int) ≤ (cap : Int) := by omega
  have hi5 : (i : Int) ≤ (cap : Int) := by omega
  have hi6 : (j : Int) ≤ (n : Int) := by omega
  have hci : ¬ (cap = i) := by omega
  have hw1 : IntKind.i64.wrap ((i : Int) + (m : Int)) = (i : Int) + (m : Int) := by rw [IntKind.wrap_i64]; omega
  have hw2 : IntKind.i64.wrap ((T : Int)) = (T : Int) := by rw [IntKind.wrap_i64]; omega
  have hwT : IntKind.i64.wrap ((i : Int) + (m : Int) + ((n : Int) - (j : Int))) = (T : Int) := by rw [IntKind.wrap_i64]; omega
  have hb1 : (0 : Int) ≤ (i : Int) + (m : Int) := by omega
  have htn : ((i : Int) + (m : Int)).toNat = i + m := by omega
  have mixed : Try.prog.follows .mixedOrders = true := by kernel_rfl
  have hap : ∀ ty, (Builtin.append_ #[33, 33] ty #[.slice (some ⟨b, 0, none⟩) i cap, .slice va m vc]).run Try.prog w = .ok (.slice (some ⟨b, 0, none⟩) (i + m) cap) (w.setRow b (put L (i * 2) (spsV vs)).toArray) := fun ty => by
    obtain ⟨i0, hi0, hz0, hzs, hzb⟩ := info_parts info37
    obtain ⟨h1, h2⟩ := hv
    rcases h2 with ⟨rfl, rfl, rfl⟩ | ⟨h2, vb, LV, rfl, h4, h5, h6, h7⟩
    · have : vs = [] := List.eq_nil_of_length_eq_zero h1
      subst this
      rw [run_append_nothing w 33 33 ty 37 i0 Try.underlying33 hi0 (some ⟨b, 0, none⟩) i cap (by omega) (.slice none 0 0) (Src.ofNil w Try.underlying33 0), spsV_nil, put_nil, setRow_self w b L.toArray _ _ hB]
      rfl
    · have hr := run_append_room (P := Try.prog) w 33 ty 37 i0 Try.underlying33 hi0 b i cap L.toArray hB ⟨vb, 0, none⟩ m vc (spsV vs) (by rw [hzs]; exact hvl) (take_cells h4 h6) (spsV_one _) (by omega) (by rw [hzs, List.size_toArray]; omega)
      rw [hr, hzs]
      rfl
  obtain ⟨W1, hW1⟩ : ∃ W1, w.setRow b (put L (i * 2) (spsV vs)).toArray = W1 := ⟨_, rfl⟩
  have hB1 : Blk W1 b (put L (i * 2) (spsV vs)) := by rw [← hW1]; exact hB.put _
  have hpl : (put L (i * 2) (spsV vs)).length = cap * 2 := by rw [put_len (by omega)]; exact hLl
  have hd0 : hs.drop j = [] := List.drop_of_length_le (by omega)
  have hp := put_end (L := L) (C := spsV vs) (o := i * 2) (by omega)
  rw [hvl, take_of_take hLt (show i * 2 ≤ n * 2 by omega), spsV_take, ← spsV_app] at hp
  have hu1 : Upd (fun x => ob (some ⟨b, 0, none⟩) = some x) w W1 := by
    rw [← hW1]
    exact Upd.setRow (S := fun x => ob (some ⟨b, 0, none⟩) = some x) (Upd.refl _ w) (fun _ => rfl) _
  rw [hW1] at hap
  rw [hd0, List.append_nil] at hlen
  have hTe : T = i + m := by omega
  by_cases hle : i + m = n
  · have HR : Hid (RpTo w (some ⟨b, 0, none⟩) (hs.take i ++ (vs ++ hs.drop j)) (.returned (.slice (some ⟨b, 0, none⟩) (i + m) cap)) W1) := by
      rw [hd0, List.append_nil]
      refine ⟨some ⟨b, 0, none⟩, cap, by rw [hlen, hTe], ?_, fun x hx => .inl hx, hu1⟩
      rw [hlen, hTe]
      exact hB1.own (by omega) hcm hpl (by rw [hlen, hTe]) (by rw [show (i + m) * 2 = i * 2 + m * 2 by omega]; exact hp)
    have kn : ¬ (i : Int) + (m : Int) < (n : Int) := by omega
    clear hlen h hv hB hB1 hpl hdl hvl hLl hLt hcm hl hd0 hp hu1 hW1 hTe hT kT kN hwT hw2 hle
    go_enter Try.func60, Try.ntmps60
    go_wp2_with (at_builtin; refine Lib.wpList_append_run _ rfl _ _ _ _ rfl _ _ rfl rfl _ _ (hap _) ?_)
    have HJ : Hid (hs.drop j = hs.drop n) := by have e9 : j = n := (by omega); rw [e9]; exact rfl
    go_wp2
    go_ret
    first
      | exact HR.out
      | (have h9 := HR.out; rw [HJ.out] at h9; exact h9)
  · have hclr : ∀ ty c, (Builtin.clear_ #[33] ty #[.slice (some ⟨b, (i + m) * 2, none⟩) (n - (i + m)) c]).run Try.prog W1 = .ok (.tuple #[]) (W1.setRow b (put (put L (i * 2) (spsV vs)) ((i + m) * 2) (zsL (n - (i + m)))).toArray) := fun ty c =>
      clear2 hB1 ((i + m) * 2) (n - (i + m)) c (by omega) (by omega) ty
    obtain ⟨W3, hW3⟩ : ∃ W3, W1.setRow b (put (put L (i * 2) (spsV vs)) ((i + m) * 2) (zsL (n - (i + m)))).toArray = W3 := ⟨_, rfl⟩
    have hB3 : Blk W3 b (put (put L (i * 2) (spsV vs)) ((i + m) * 2) (zsL (n - (i + m)))) := by rw [← hW3]; exact hB1.put _
    have HR : Hid (RpTo w (some ⟨b, 0, none⟩) (hs.take i ++ (vs ++ hs.drop j)) (.returned (.slice (some ⟨b, 0, none⟩) (i + m) cap)) W3) := by
      rw [hd0, List.append_nil]
      refine ⟨some ⟨b, 0, none⟩, cap, by rw [hlen, hTe], ?_, fun x hx => .inl hx, ?_⟩
      · rw [hlen, hTe]
        exact hB3.own (by omega) hcm (by rw [put_len (by rw [zsL_len]; omega)]; exact hpl) (by rw [hlen, hTe]) (by rw [put_le (Nat.le_refl _) (by omega), show (i + m) * 2 = i * 2 + m * 2 by omega]; exact hp)
      · rw [← hW3]
        exact Upd.setRow (S := fun x => ob (some ⟨b, 0, none⟩) = some x) hu1 (fun _ => rfl) _
    rw [hW3] at hclr
    have kn : (i : Int) + (m : Int) < (n : Int) := by omega
    have kn2 : (i : Int) + (m : Int) ≤ (n : Int) := by omega
    have kcm : ¬ (cap = i + m) := by omega
    clear hlen h hv hB hB1 hpl hdl hvl hLl hLt hcm hl hd0 hp hu1 hW1 hTe hT kT kN hwT hw2 hB3 hW3
    go_enter Try.func60, Try.ntmps60
    go_wp2_with (at_builtin; refine Lib.wpList_append_run _ rfl _ _ _ _ rfl _ _ rfl rfl _ _ (hap _) ?_)
    have HJ : Hid (hs.drop j = hs.drop n) := by have e9 : j = n := (by omega); rw [e9]; exact rfl
    go_wp2
    go_ret
    first
      | exact HR.out
      | (have h9 := HR.out; rw [HJ.out] at h9; exact h9)
set_option maxRecDepth 100000 in
set_option maxHeartbeats 8000000 in
theorem replace_last {w : World} {b n cap i j m vc : Nat} {va : Option Addr} {hs vs : List Sp} (h : w.ownsRow 0 37 2 (.slice (some ⟨b, 0, none⟩) n cap) n (spsV hs)) (hv : InV w b va m vc vs) (hij : i < j) (hj : j = n) (hn : n ≤ 900000) (hm2 : m = 2) (hj2 : j = i + 1) :
    Calls Try.prog 60 #[.slice (some ⟨b, 0, none⟩) n cap, .int .i64 (i : Int), .int .i64 (j : Int), .slice va m vc] w (RpTo w (some ⟨b, 0, none⟩) (hs.take i ++ (vs ++ hs.drop j))) := by
  have hl : hs.length = n := by have := h.1; rw [spsV_len] at this; omega
  obtain ⟨L, hB, hLl, hLt, hnc, hcm⟩ := Blk.of h
  have hcm2 : cap ≤ 9223372036854775807 := by simp only [maxLen] at hcm; omega
  have hdl : (spsV (hs.drop j)).length = (n - j) * 2 := by rw [spsV_len, List.length_drop, hl]
  have hvl : (spsV vs).length = m * 2 := by rw [spsV_len, hv.1]
  obtain ⟨T, hT⟩ : ∃ T, i + m + (n - j) = T := ⟨_, rfl⟩
  have hlen : (hs.take i ++ (vs ++ hs.drop j)).length = T := by simp only [List.length_append, List.length_take, List.length_drop, hv.1]; omega
  have kT : (i : Int) + (m : Int) + ((n - j : Nat) : Int) = (T : Int) := by omega
  have kN : ((n - j : Nat) : Int) = (n : Int) - (j : Int) := by omega
  have hin : i ≤ n := by omega
  have hij2 : i ≤ j := by omega
  have hz1 : ¬ ((i : Int) = (j : Int)) := by omega
  have hz2 : (j : Int) = (n : Int) := by omega
  have hi3 : (i : Int) ≤ (j : Int) := by omega
  have hi4 : (j : Int) ≤ (cap : Int) := by omega
  have hi5 : (i : Int) ≤ (cap : Int) := by omega
  have hi6 : (j : Int) ≤ (n : Int) := by omega
  have hci : ¬ (cap = i) := by omega
  have hw1 : IntKind.i64.wrap ((i : Int) + (m : Int)) = (i : Int) + (m : Int) := by rw [IntKind.wrap_i64]; omega
  have hw2 : IntKind.i64.wrap ((T : Int)) = (T : Int) := by rw [IntKind.wrap_i64]; omega
  have hwT : IntKind.i64.wrap ((i : Int) + (m : Int) + ((n : Int) - (j : Int))) = (T : Int) := by rw [IntKind.wrap_i64]; omega
  have hb1 : (0 : Int) ≤ (i : Int) + (m : Int) := by omega
  have htn : ((i : Int) + (m : Int)).toNat = i + m := by omega
  have mixed : Try.prog.follows .mixedOrders = true := by kernel_rfl
  obtain ⟨vb, LV, rfl, hvB, hvne, hvt, hvlen⟩ : ∃ vb LV, va = some ⟨vb, 0, none⟩ ∧ Blk w vb LV ∧ vb ≠ b ∧ LV.take (m * 2) = spsV vs ∧ m * 2 ≤ LV.length := by
    rcases hv.2 with h0 | h0
    · omega
    · exact h0.2
  obtain ⟨i0, hi0, hz0, hzs, hzb⟩ := info_parts info37
  have hd0 : hs.drop j = [] := List.drop_of_length_le (by omega)
  rw [hd0, List.append_nil] at hlen
  have hTe : T = i + m := by omega
  have HO : Hid (w.ownsRow 0 37 2 (.slice (some ⟨b, 0, none⟩) i cap) i (spsV (hs.take i))) := hB.own (by omega) hcm hLl (by rw [List.length_take]; omega) (by rw [take_of_take hLt (show i * 2 ≤ n * 2 by omega), spsV_take])
  have HV : Hid ((spsV vs).length = m * 2 ∧ (∀ j u, (spsV vs)[j]? = some u → w.cell? ((⟨vb, 0, none⟩ : Addr).add j) = some u) ∧ ∀ u ∈ spsV vs, u.oneCell' = true) := ⟨hvl, take_cells hvB hvt, spsV_one _⟩
  have HT : Hid (∀ g cp w1, w1.ownsRow 0 37 2 (.slice (some ⟨g, 0, none⟩) (i + m) cp) (i + m) (spsV (hs.take i) ++ spsV vs) → w.grownBy w1 (Value.slice (some ⟨b, 0, none⟩) i cap).ownBlock → ((Value.slice (some ⟨b, 0, none⟩) i cap).ownBlock = some g ∨ g = w.heap.size) → RpTo w (some ⟨b, 0, none⟩) (hs.take i ++ (vs ++ hs.drop j)) (.returned (.slice (some ⟨g, 0, none⟩) (i + m) cp)) w1) := fun g cp w1 hown hgrow hat => by
    rw [ob_slice] at hgrow hat
    rw [hd0, List.append_nil]
    refine ⟨some ⟨g, 0, none⟩, cp, by rw [hlen, hTe], ?_, fun x hx => ?_, (Upd.refl _ w).grown hgrow (fun k hk _ => hk)⟩
    · rw [hlen, hTe, spsV_app]; exact hown
    · cases hx
      rcases hat with hat | hat
      · exact .inl hat
      · exact .inr (by rw [hat]; exact Nat.le_refl _)
  have hmp : 0 < m := by omega
  have hmi : i + m ≤ 1000000 := by omega
  have kn : ¬ (i : Int) + (m : Int) < (n : Int) := by omega
  clear hlen h hv hB hdl hvl hLl hLt hcm hl hd0 hTe hT kT kN hwT hw2 hvB hvne hvt hvlen hm2 hj2
  go_enter Try.func60, Try.ntmps60
  go_wp2_with (at_builtin; refine wpList_append_lies _ rfl _ _ 33 rfl 0 37 i0 (.agg #[.int .i64 0, .int .i64 0]) 2 16 Try.underlying33 hi0 hz0 hzs hzb rfl (by decide) _ _ _ rfl HO.out ⟨vb, 0, none⟩ m vc (spsV vs) rfl HV.out.1 HV.out.2.1 HV.out.2.2 hmp (by unfold maxLen; omega) (by omega) (Nat.zero_le _) _ rfl ?_)
  intro g cp w1 hown hgrow hat hlt
  have HR : Hid (RpTo w (some ⟨b, 0, none⟩) (hs.take i ++ (vs ++ hs.drop j)) (.returned (.slice (some ⟨g, 0, none⟩) (i + m) cp)) w1) := HT.out g cp w1 hown hgrow hat
  clear hown hgrow hat hlt HT HO HV
  have HJ : Hid (hs.drop j = hs.drop n) := by have e9 : j = n := (by omega); rw [e9]; exact rfl
  go_wp2
  go_ret
  first
    | exact HR.out
    | (have h9 := HR.out; rw [HJ.out] at h9; exact h9)
theorem replace_any {w : World} {b n cap i j m vc : Nat} {va : Option Addr} {hs vs : List Sp} (h : w.ownsRow 0 37 2 (.slice (some ⟨b, 0, none⟩) n cap) n (spsV hs)) (hv : InV w b va m vc vs) (hij : i < j) (hj : j ≤ n) (hn : n ≤ 900000) (hm : m ≤ 2) (hm2 : m = 2 → j = i + 1) :
    Calls Try.prog 60 #[.slice (some ⟨b, 0, none⟩) n cap, .int .i64 (i : Int), .int .i64 (j : Int), .slice va m vc] w (RpTo w (some ⟨b, 0, none⟩) (hs.take i ++ (vs ++ hs.drop j))) := by
  have hcp := (SpW.own h).hcp
  by_cases h2 : m = 2
  · have hj2 := hm2 h2
    rcases Nat.lt_or_ge j n with hl | hl
    · rcases Nat.lt_or_ge n cap with hc | hc
      · exact replace_back h hv hij hl hn h2 hj2 hc
      · exact replace_grow h hv hij hl hn h2 hj2 (by omega)
    · exact replace_last h hv hij (by omega) hn h2 hj2
  · rcases Nat.lt_or_ge j n with hl | hl
    · exact replace_front h hv hij hl hn hm (by omega)
    · exact replace_end h hv hij (by omega) hn hm (by omega)
end Go.Proofs.Ytgihdfmeokbplaa
