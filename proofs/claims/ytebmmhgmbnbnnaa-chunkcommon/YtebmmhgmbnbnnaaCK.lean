/- What the statements' lives asks; Common, ends, has. -/
import Derived.Test.YtebmmhgmbnbnnaaCJ
namespace Go.Proofs.Ytebmmhgmbnbnnaa
open Go.RowKit Ck
theorem tw_of_own {w : World} {base : Nat} {a : Option Addr} {n c : Nat} {l : List ByteArray} (h : w.ownsRow base 9 1 (.slice a n c) n (stR l)) : Tw (fun _ => True) w a n c l := Rw.own h (fun _ _ => trivial)
theorem tw_block {w : World} {b : Nat} {l : List ByteArray} (h : w.heap[b]? = some (.cells (stR l).toArray 9 (0, 0))) (hl : l.length ≤ 1000) : Tw (fun _ => True) w (some ⟨b, 0, none⟩) l.length l.length l := by
  refine ⟨by rw [stR_len]; omega, Nat.le_refl _, by unfold maxLen; omega, fun _ => ⟨b, 0, rfl, lt_of_some h, trivial, fun j u hu => ?_⟩⟩
  rw [Nat.zero_add, cell_of_row _ b _ _ _ _ h]
  simpa using hu
def exMs : Ms := ⟨2, 9, 0⟩
theorem exOk : exMs.Ok := ⟨by decide, by decide, by decide, by decide⟩
theorem ex_cut : (cutL exMs [97, 98, 99, 100, 101]).map strOf = [⟨#[97, 98]⟩, ⟨#[99, 100]⟩, ⟨#[101]⟩] := by
  have h : cutL exMs [97, 98, 99, 100, 101] = [[97, 98], [99, 100], [101]] := by decide +kernel
  rw [h]; rfl
set_option maxRecDepth 100000 in
set_option maxHeartbeats 2000000 in
theorem lives_any (w : World) : Calls Try.prog 9 #[] w fun e w' => e = .returned (.bool true) ∧ Below w.heap.size w w' := by
  have HC : Hid (Calls Try.prog 10 #[.string ⟨#[97, 98, 99, 100, 101]⟩, .agg #[.int .i64 2, .int .i64 9, .int .i64 0]] w fun e w' => ∃ a n c, e = .returned (.tuple #[.slice a n c, .int .i64 0]) ∧ Tw (fun _ => True) w' a n c [⟨#[97, 98]⟩, ⟨#[99, 100]⟩, ⟨#[101]⟩] ∧ Below w.heap.size w w') := by
    refine (cut_yes exMs exOk [97, 98, 99, 100, 101] (by decide) w).mono ?_
    rintro e w' ⟨a, n, c, rfl, h1, h2⟩
    rw [ex_cut] at h1
    exact ⟨a, n, c, rfl, tw_of_own h1, h2⟩
  have HS : Hid (∀ (V : World) (a : Option Addr) (n c : Nat), Tw (fun _ => True) V a n c [⟨#[97, 98]⟩, ⟨#[99, 100]⟩, ⟨#[101]⟩] → Below w.heap.size w V → Calls Try.prog 13 #[.slice a n c, .slice (some ⟨V.heap.size, 0, none⟩) 3 3] (V.alloc (.cells #[.string ⟨#[97, 98]⟩, .string ⟨#[99, 100]⟩, .string ⟨#[101]⟩] 9)) fun e w' => e = .returned (.bool true) ∧ Below w.heap.size w w') := by
    intro V a n c h hb
    obtain ⟨V2, hV2⟩ : ∃ V2, V.alloc (.cells #[.string ⟨#[97, 98]⟩, .string ⟨#[99, 100]⟩, .string ⟨#[101]⟩] 9) = V2 := ⟨_, rfl⟩
    have hb2 : Below V.heap.size V V2 := by rw [← hV2]; exact (Below.refl _ V).alloc (Nat.le_refl _) _
    have hr : V2.heap[V.heap.size]? = some (.cells (stR [⟨#[97, 98]⟩, ⟨#[99, 100]⟩, ⟨#[101]⟩]).toArray 9 (0, 0)) := by rw [← hV2]; exact heap_alloc_new V _
    rw [hV2]
    refine (same_any (h.below hb2) (tw_block hr (by decide))).mono ?_
    rintro e w' ⟨rfl, h3⟩
    have hbb := hb.trans (hb2.mono hb.size)
    exact ⟨by simp, hbb.trans (h3.mono hbb.size)⟩
  go_enter Try.func9, Try.ntmps9
  go_wp2_with fail
  refine HC.out.mono ?_
  rintro e V ⟨a, n, c, rfl, h1, h2⟩
  have HS2 := HS.out V a n c h1 h2
  clear h1 h2 HC HS
  go_wp2_with fail
  refine HS2.mono ?_
  rintro e w' ⟨rfl, hb⟩
  go_wp2
  go_ret
  exact ⟨rfl, hb⟩
/-- How many chunks two lists begin and end with that are the same. -/
structure ComP (la lb : List ByteArray) (x y : Nat) : Prop where
  x1 : x ≤ min la.length lb.length
  y1 : y ≤ min la.length lb.length - x
  head : la.take x = lb.take x
  tail : la.drop (la.length - y) = lb.drop (lb.length - y)
  x2 : x < min la.length lb.length → la[x]? ≠ lb[x]?
  y2 : y < min la.length lb.length - x → la[la.length - 1 - y]? ≠ lb[lb.length - 1 - y]?
theorem drop_snoc {α : Type} {l : List α} {n y : Nat} {p : α} (hy : y < n) (h : l[n - 1 - y]? = some p) : l.drop (n - (y + 1)) = p :: l.drop (n - y) := by
  obtain ⟨h1, h2⟩ := List.getElem?_eq_some_iff.1 h
  rw [show n - (y + 1) = n - 1 - y by omega, List.drop_eq_getElem_cons h1, h2]
  congr 2
  omega
set_option maxRecDepth 100000 in
set_option maxHeartbeats 8000000 in
theorem common_any {G H : Nat → Prop} {w : World} {a : Option Addr} {n c : Nat} {la : List ByteArray} {b : Option Addr} {m d : Nat} {lb : List ByteArray} (ha : Tw G w a n c la) (hb : Tw H w b m d lb) (hn : n ≤ 200) (hm : m ≤ 200) :
    Calls Try.prog 22 #[.slice a n c, .slice b m d] w fun e w' => ∃ x y : Nat, e = .returned (.tuple #[.int .i64 x, .int .i64 y]) ∧ ComP la lb x y ∧ Below w.heap.size w w' := by
  have hla := ha.len
  have hlb := hb.len
  have HA : Hid (∀ W, Below w.heap.size w W → Tw G W a n c la ∧ Tw H W b m d lb) := fun W hW => ⟨ha.below hW, hb.below hW⟩
  obtain ⟨l, hl⟩ : ∃ l, min n m = l := ⟨_, rfl⟩
  have HLN : Hid (la.length = n ∧ lb.length = m ∧ min n m = l) := ⟨hla, hlb, hl⟩
  have kl : min (n : Int) (m : Int) = (l : Int) := by omega
  clear ha hb
  go_enter Try.func22, Try.ntmps22
  go_wp2
  go_loopw [4] (fun v wr => ∃ i : Nat, i ≤ l ∧ v = .int .i64 i ∧ la.take i = lb.take i ∧ Below w.heap.size w wr) (fun v _ => l - (intOf v).toNat)
  case atStart => exact ⟨0, by omega, rfl, rfl, Below.refl _ _⟩
  case round =>
    obtain ⟨i, hi, rfl, htk, hbw⟩ := hrel
    have HI : Hid (la.take i = lb.take i ∧ Below w.heap.size w wr) := ⟨htk, hbw⟩
    by_cases hlt : i < l
    · have kk : (i : Int) < (l : Int) := by omega
      obtain ⟨h1, h2⟩ := HA.out wr hbw
      obtain ⟨ab, ao, rfl, _, hc⟩ := h1.at (by omega)
      obtain ⟨bb, bo, rfl, _, hd⟩ := h2.at (by omega)
      obtain ⟨p, hp⟩ : ∃ p, la[i]? = some p := ⟨_, List.getElem?_eq_getElem (by omega)⟩
      obtain ⟨q, hq⟩ : ∃ q, lb[i]? = some q := ⟨_, List.getElem?_eq_getElem (by omega)⟩
      have c1 := hc i _ hp
      have d1 := hd i _ hq
      have kn : (i : Int) < (n : Int) := by omega
      have km : (i : Int) < (m : Int) := by omega
      have HE : Hid (la[i]? = some p ∧ lb[i]? = some q) := ⟨hp, hq⟩
      clear hc hd hp hq htk hbw h1 h2
      by_cases hpq : p = q
      · have hbe : (p.toList == q.toList) = true := by rw [hpq]; simp
        have HPQ : Hid (p = q) := hpq
        clear hpq
        go_wp2
        go_quiet (fail)
        go_wp2
        refine ⟨⟨i + 1, by omega, by go_num, ?_, below_drewN HI.out.2 _⟩, by simp [intOf]; omega⟩
        rw [take_snoc HE.out.1, take_snoc HE.out.2, HI.out.1, HPQ.out]
      · have hbe : (p.toList == q.toList) = false := str_nb hpq
        have HPQ : Hid (¬ p = q) := hpq
        clear hpq
        go_wp2
        go_quiet (fail)
        have HX : Hid (la.take i = lb.take i ∧ (i < l → la[i]? ≠ lb[i]?) ∧ Below w.heap.size w (wr.drewN nq)) := ⟨HI.out.1, fun _ => by rw [HE.out.1, HE.out.2]; intro e; exact HPQ.out (Option.some.inj e), below_drewN HI.out.2 _⟩
        clear c1 d1 kn km hbe HPQ HE
        go_wp2
        go_loopw [5] (fun v wr => ∃ y : Nat, y ≤ l - i ∧ v = .int .i64 y ∧ la.drop (n - y) = lb.drop (m - y) ∧ Below w.heap.size w wr) (fun v _ => l - (intOf v).toNat)
        case atStart => exact ⟨0, by omega, rfl, by rw [Nat.sub_zero, Nat.sub_zero, List.drop_of_length_le (by omega), List.drop_of_length_le (by omega)], HX.out.2.2⟩
        case round =>
          obtain ⟨y, hy, rfl, hdr, hbq⟩ := hrel
          have HJ : Hid (la.drop (n - y) = lb.drop (m - y) ∧ Below w.heap.size w wr) := ⟨hdr, hbq⟩
          by_cases hyl : y < l - i
          · have ky : (y : Int) < (l : Int) - (i : Int) := by omega
            obtain ⟨h1, h2⟩ := HA.out wr hbq
            obtain ⟨ab, ao, ea, _, hc⟩ := h1.at (by omega)
            obtain ⟨bb, bo, eb, _, hd⟩ := h2.at (by omega)
            cases ea
            cases eb
            obtain ⟨ja, hja⟩ : ∃ ja, n - 1 - y = ja := ⟨_, rfl⟩
            obtain ⟨jb, hjb⟩ : ∃ jb, m - 1 - y = jb := ⟨_, rfl⟩
            obtain ⟨p, hp⟩ : ∃ p, la[ja]? = some p := ⟨_, List.getElem?_eq_getElem (by omega)⟩
            obtain ⟨q, hq⟩ : ∃ q, lb[jb]? = some q := ⟨_, List.getElem?_eq_getElem (by omega)⟩
            have c1 := hc ja _ hp
            have d1 := hd jb _ hq
            have kja : (n : Int) - 1 - (y : Int) = (ja : Int) := by omega
            have kjb : (m : Int) - 1 - (y : Int) = (jb : Int) := by omega
            have kn : (ja : Int) < (n : Int) := by omega
            have km : (jb : Int) < (m : Int) := by omega
            have HE : Hid (la[n - 1 - y]? = some p ∧ lb[m - 1 - y]? = some q ∧ y < n ∧ y < m) := ⟨by rw [hja]; exact hp, by rw [hjb]; exact hq, by omega, by omega⟩
            clear hc hd hp hq hdr hbq h1 h2 hja hjb
            by_cases hpq : p = q
            · have hbe : (p.toList == q.toList) = true := by rw [hpq]; simp
              have HPQ : Hid (p = q) := hpq
              clear hpq
              go_wp2
              go_quiet (fail)
              go_wp2
              refine ⟨⟨y + 1, by omega, by go_num, ?_, below_drewN HJ.out.2 _⟩, by simp [intOf]; omega⟩
              rw [drop_snoc HE.out.2.2.1 HE.out.1, drop_snoc HE.out.2.2.2 HE.out.2.1, HJ.out.1, HPQ.out]
            · have hbe : (p.toList == q.toList) = false := str_nb hpq
              have HPQ : Hid (¬ p = q) := hpq
              have HF : Hid (ComP la lb i y) := by
                refine ⟨by rw [HLN.out.1, HLN.out.2.1, HLN.out.2.2]; omega, by rw [HLN.out.1, HLN.out.2.1, HLN.out.2.2]; omega, HX.out.1, by rw [HLN.out.1, HLN.out.2.1]; exact HJ.out.1, fun h => HX.out.2.1 (by rw [HLN.out.1, HLN.out.2.1, HLN.out.2.2] at h; exact h), fun _ => ?_⟩
                rw [HLN.out.1, HLN.out.2.1, HE.out.1, HE.out.2.1]
                intro e
                exact hpq (Option.some.inj e)
              clear hpq
              go_wp2
              go_quiet (fail)
              go_wp2
              go_ret2
              exact ⟨_, _, rfl, HF.out, below_drewN HJ.out.2 _⟩
          · have hyb : y = l - i := by omega
            have ky : decide ((y : Int) < (l : Int) - (i : Int)) = false := by simp; omega
            have HF : Hid (ComP la lb i y) := ⟨by rw [HLN.out.1, HLN.out.2.1, HLN.out.2.2]; omega, by rw [HLN.out.1, HLN.out.2.1, HLN.out.2.2]; omega, HX.out.1, by rw [HLN.out.1, HLN.out.2.1]; exact HJ.out.1, fun h => HX.out.2.1 (by rw [HLN.out.1, HLN.out.2.1, HLN.out.2.2] at h; exact h), fun h => absurd h (by rw [HLN.out.1, HLN.out.2.1, HLN.out.2.2]; omega)⟩
            clear hdr hbq hyb
            go_wp2
            go_quiet (fail)
            go_wp2
            go_ret2
            exact ⟨_, _, rfl, HF.out, below_drewN HJ.out.2 _⟩
    · have hil : i = l := by omega
      have kk : decide ((i : Int) < (l : Int)) = false := by simp; omega
      clear htk hbw hil
      go_wp2
      go_quiet (fail)
      have HX : Hid (la.take i = lb.take i ∧ (i < l → la[i]? ≠ lb[i]?) ∧ Below w.heap.size w (wr.drewN nq)) := ⟨HI.out.1, fun h => absurd h hlt, below_drewN HI.out.2 _⟩
      go_wp2
      go_loopw [5] (fun v wr => ∃ y : Nat, y ≤ l - i ∧ v = .int .i64 y ∧ la.drop (n - y) = lb.drop (m - y) ∧ Below w.heap.size w wr) (fun v _ => l - (intOf v).toNat)
      case atStart => exact ⟨0, by omega, rfl, by rw [Nat.sub_zero, Nat.sub_zero, List.drop_of_length_le (by omega), List.drop_of_length_le (by omega)], HX.out.2.2⟩
      case round =>
        obtain ⟨y, hy, rfl, hdr, hbq⟩ := hrel
        have HJ : Hid (la.drop (n - y) = lb.drop (m - y) ∧ Below w.heap.size w wr) := ⟨hdr, hbq⟩
        by_cases hyl : y < l - i
        · have ky : (y : Int) < (l : Int) - (i : Int) := by omega
          obtain ⟨h1, h2⟩ := HA.out wr hbq
          obtain ⟨ab, ao, ea, _, hc⟩ := h1.at (by omega)
          obtain ⟨bb, bo, eb, _, hd⟩ := h2.at (by omega)
          cases ea
          cases eb
          obtain ⟨ja, hja⟩ : ∃ ja, n - 1 - y = ja := ⟨_, rfl⟩
          obtain ⟨jb, hjb⟩ : ∃ jb, m - 1 - y = jb := ⟨_, rfl⟩
          obtain ⟨p, hp⟩ : ∃ p, la[ja]? = some p := ⟨_, List.getElem?_eq_getElem (by omega)⟩
          obtain ⟨q, hq⟩ : ∃ q, lb[jb]? = some q := ⟨_, List.getElem?_eq_getElem (by omega)⟩
          have c1 := hc ja _ hp
          have d1 := hd jb _ hq
          have kja : (n : Int) - 1 - (y : Int) = (ja : Int) := by omega
          have kjb : (m : Int) - 1 - (y : Int) = (jb : Int) := by omega
          have kn : (ja : Int) < (n : Int) := by omega
          have km : (jb : Int) < (m : Int) := by omega
          have HE : Hid (la[n - 1 - y]? = some p ∧ lb[m - 1 - y]? = some q ∧ y < n ∧ y < m) := ⟨by rw [hja]; exact hp, by rw [hjb]; exact hq, by omega, by omega⟩
          clear hc hd hp hq hdr hbq h1 h2 hja hjb
          by_cases hpq : p = q
          · have hbe : (p.toList == q.toList) = true := by rw [hpq]; simp
            have HPQ : Hid (p = q) := hpq
            clear hpq
            go_wp2
            go_quiet (fail)
            go_wp2
            refine ⟨⟨y + 1, by omega, by go_num, ?_, below_drewN HJ.out.2 _⟩, by simp [intOf]; omega⟩
            rw [drop_snoc HE.out.2.2.1 HE.out.1, drop_snoc HE.out.2.2.2 HE.out.2.1, HJ.out.1, HPQ.out]
          · have hbe : (p.toList == q.toList) = false := str_nb hpq
            have HPQ : Hid (¬ p = q) := hpq
            have HF : Hid (ComP la lb i y) := by
              refine ⟨by rw [HLN.out.1, HLN.out.2.1, HLN.out.2.2]; omega, by rw [HLN.out.1, HLN.out.2.1, HLN.out.2.2]; omega, HX.out.1, by rw [HLN.out.1, HLN.out.2.1]; exact HJ.out.1, fun h => HX.out.2.1 (by rw [HLN.out.1, HLN.out.2.1, HLN.out.2.2] at h; exact h), fun _ => ?_⟩
              rw [HLN.out.1, HLN.out.2.1, HE.out.1, HE.out.2.1]
              intro e
              exact hpq (Option.some.inj e)
            clear hpq
            go_wp2
            go_quiet (fail)
            go_wp2
            go_ret2
            exact ⟨_, _, rfl, HF.out, below_drewN HJ.out.2 _⟩
        · have hyb : y = l - i := by omega
          have ky : decide ((y : Int) < (l : Int) - (i : Int)) = false := by simp; omega
          have HF : Hid (ComP la lb i y) := ⟨by rw [HLN.out.1, HLN.out.2.1, HLN.out.2.2]; omega, by rw [HLN.out.1, HLN.out.2.1, HLN.out.2.2]; omega, HX.out.1, by rw [HLN.out.1, HLN.out.2.1]; exact HJ.out.1, fun h => HX.out.2.1 (by rw [HLN.out.1, HLN.out.2.1, HLN.out.2.2] at h; exact h), fun h => absurd h (by rw [HLN.out.1, HLN.out.2.1, HLN.out.2.2]; omega)⟩
          clear hdr hbq hyb
          go_wp2
          go_quiet (fail)
          go_wp2
          go_ret2
          exact ⟨_, _, rfl, HF.out, below_drewN HJ.out.2 _⟩
end Go.Proofs.Ytebmmhgmbnbnnaa
