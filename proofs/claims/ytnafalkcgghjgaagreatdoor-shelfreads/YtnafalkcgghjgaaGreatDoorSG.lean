/- A walk over pack. -/
import Derived.Test.YtnafalkcgghjgaaGreatDoorSE
namespace Go.Proofs.YtnafalkcgghjgaaGreatDoor
open Go.RowKit
theorem flat_take_succ {L : List Mf} {i : Nat} {m : Mf} (h : L[i]? = some m) : flat (lfs (L.take (i + 1))) = flat (lfs (L.take i)) ++ m.es := by
  rw [take_snoc h, lfs_app, flat_app]
  simp [lfs, flat, Mf.lf]
def slLen : Value → Nat
  | .slice _ n _ => n
  | _ => 0
theorem sz_sub {A B : List Pr} : szL A ≤ szL (A ++ B) := by rw [szL_app]; omega
set_option maxRecDepth 100000 in
set_option maxHeartbeats 4000000 in
theorem pack_any {G : Nat → Prop} {w : World} (hG : ∀ x, w.heap.size ≤ x → G x) (a : Option Addr) (n c : Nat) (L : List Mf) (h : Lw G w a n c L) (hn : n ≤ 500) (hz : szL (flat (lfs L)) ≤ 600000) (hm : ∀ p ∈ flat (lfs L), May p) :
    Calls Tryz.prog 61 #[.slice a n c] w fun e w' => ∃ (pa : Option Addr) (pn pc : Nat) (P : List Mf), e = .returned (.slice pa pn pc) ∧ w'.ownsRow w.heap.size 85 3 (.slice pa pn pc) pn (mfV P) ∧ Ents G w' P ∧ Pk (flat (lfs L)) (lfs P) [] ∧ Below w.heap.size w w' := by
  have hl := h.len
  have hcap : n ≤ c := h.1.2.1
  have HL : Hid (∀ W, Below w.heap.size w W → Lw G W a n c L) := fun W hW => h.below hW
  have HG : Hid (∀ x, w.heap.size ≤ x → G x) := hG
  obtain ⟨T, hT⟩ : ∃ T, flat (lfs L) = T := ⟨_, rfl⟩
  rw [hT] at hz hm ⊢
  have HT : Hid (flat (lfs L) = T) := hT
  have HM : Hid (∀ p ∈ T, May p) := hm
  have hTl : T.length ≤ 600000 := Nat.le_trans (es_len T) hz
  have HTZ : Hid (szL T ≤ 600000) := hz
  obtain ⟨B, hB⟩ : ∃ B, w.heap.size = B := ⟨_, rfl⟩
  rw [hB] at HL HG ⊢
  clear h hG hT hm hz
  go_enter Tryz.func61, Tryz.ntmps61
  go_wp2
  go_loopw [3, 12] (fun vr vi wr => ∃ (i rn rc : Nat) (ra : Option Addr), i ≤ n ∧ vi = .int .i64 i ∧ vr = .slice ra rn rc ∧ wr.ownsRow B 63 2 (.slice ra rn rc) rn (prV (flat (lfs (L.take i)))) ∧ rn ≤ 600000 ∧ Below B w wr) (fun _ vi _ => n - (intOf vi).toNat)
  case atStart => exact ⟨0, 0, 0, none, by omega, rfl, rfl, World.ownsRow_nil _ _ _ _, by omega, Below.refl _ _⟩
  case round =>
    obtain ⟨i, rn, rc, ra, hi, rfl, rfl, hown, hrn, hbel⟩ := hrel
    by_cases hlt : i < n
    · have kk : (i : Int) < (n : Int) := by omega
      have hm : L[i]? = some L[i] := List.getElem?_eq_getElem (by omega)
      obtain ⟨m, hmm⟩ : ∃ m, L[i] = m := ⟨_, rfl⟩
      rw [hmm] at hm
      have hLw := HL.out wr hbel
      obtain ⟨b, o, rfl, hb, _, hc⟩ := hLw.at (by omega)
      obtain ⟨d1, d2, d3⟩ := hc i m hm
      have hf := flat_take_succ hm
      have hsub : ∃ R, T = flat (lfs (L.take (i + 1))) ++ R := ⟨flat (lfs (L.drop (i + 1))), by rw [← HT.out, ← flat_app, ← lfs_app, List.take_append_drop]⟩
      obtain ⟨R, hR⟩ := hsub
      have hlen : rn + m.es.length ≤ 600000 := by
        have e1 : (flat (lfs (L.take i))).length = rn := by
          have := hown.1
          unfold prV at this
          rw [fm_len prC_len] at this
          omega
        have : (flat (lfs (L.take (i + 1)))).length ≤ T.length := by rw [hR]; simp
        rw [hf, List.length_append, e1] at this
        omega
      obtain ⟨V1, hV1⟩ : ∃ V1, wr.alloc (.cells #[.int .i64 m.page, .slice m.a m.es.length m.es.length, .int .i64 (szL m.es : Int)] 85) = V1 := ⟨_, rfl⟩
      have hB1 : Below wr.heap.size wr V1 := by rw [← hV1]; exact (Below.refl _ wr).alloc (Nat.le_refl _) _
      have r1 : V1.heap[wr.heap.size]? = some (.cells #[.int .i64 m.page, .slice m.a m.es.length m.es.length, .int .i64 (szL m.es : Int)] 85 (0, 0)) := by rw [← hV1]; exact heap_alloc_new wr _
      have y2 : V1.cell? ⟨wr.heap.size, 1, none⟩ = some (.slice m.a m.es.length m.es.length) := by rw [cell_of_row _ _ _ _ _ _ r1]; rfl
      have hown1 : V1.ownsRow B 63 2 (.slice ra rn rc) rn (prV (flat (lfs (L.take i)))) := own_keep hown (fun x hx => hB1.block x (hown.lt x hx).2)
      obtain ⟨aA, cA, VA, hrA, hoA, hgA, _⟩ := addP_own V1 hown1 ((hLw.below hB1).2 m (List.mem_of_getElem? hm)) (by omega) (by have := hbel.size; have := hB1.size; omega)
      have HE : Hid (VA.ownsRow B 63 2 (.slice aA (rn + m.es.length) cA) (rn + m.es.length) (prV (flat (lfs (L.take (i + 1))))) ∧ Below B w VA) := ⟨by rw [hf]; exact hoA, (hbel.trans (hB1.mono (by have := hbel.size; omega))).grown hgA (by have := hbel.size; have := hB1.size; omega) (fun k hk => (hown1.lt k (by rw [ob_slice]; exact hk)).1)⟩
      clear hown hbel hc hm hmm hLw hB1 r1 hown1 hoA hgA hf hR
      clear R
      go_wp2_with (at_builtin; refine wpList_app _ rfl _ _ _ _ rfl rfl rfl (hrA _) ?_)
      exact ⟨⟨i + 1, rn + m.es.length, cA, aA, by omega, by go_num, rfl, HE.out.1, hlen, HE.out.2⟩, by simp [intOf]; omega⟩
    · obtain rfl : i = n := by omega
      have kk : ¬ (i : Int) < (i : Int) := by omega
      rw [List.take_of_length_le (by omega), HT.out] at hown
      have HR : Hid (Pw G wr ra rn rc T ∧ Below B w wr) := ⟨Rw.own hown HG.out, hbel⟩
      have hTrn : T.length = rn := HR.out.1.len
      clear hown hbel HL
      go_wp2
      go_loopw [3, 6] (fun vr vp wr2 => ∃ (ra : Option Addr) (rn rc : Nat) (pa : Option Addr) (pn pc : Nat) (rest : List Pr) (P : List Mf), vr = .slice ra rn rc ∧ vp = .slice pa pn pc ∧ Pw G wr2 ra rn rc rest ∧ wr2.ownsRow B 85 3 (.slice pa pn pc) pn (mfV P) ∧ Ents G wr2 P ∧ Pk T (lfs P) rest ∧ Below B w wr2) (fun vr _ _ => slLen vr)
      case atStart => exact ⟨ra, rn, rc, none, 0, 0, T, [], rfl, rfl, HR.out.1, World.ownsRow_nil _ _ _ _, fun m hm => by simp at hm, Pk.start T, HR.out.2⟩
      case round =>
        obtain ⟨wr2, hw2⟩ : ∃ x : World, x = wr := ⟨wr, rfl⟩
        subst hw2
        obtain ⟨ra, rn, rc, pa, pn, pc, rest, P, rfl, rfl, hPr, hPo, hPe, hPk, hbel⟩ := hrel
        have hrl := hPr.len
        have hrcap : rn ≤ rc := hPr.2.1
        have hPl : P.length = pn := by
          have := hPo.1
          rw [mfV_len] at this
          omega
        have hfl := hPk.fl
        have hrs : szL rest ≤ 600000 ∧ szL (flat (lfs P)) ≤ 600000 := by
          have := HTZ.out
          rw [← hfl, szL_app] at this
          omega
        have hpn : pn ≤ 90000 := by
          have := hPk.adj.few
          rw [lsz_flat, lfs_len, hPl] at this
          omega
        have HPO : Hid (wr2.ownsRow B 85 3 (.slice pa pn pc) pn (mfV P) ∧ Ents G wr2 P) := ⟨hPo, hPe⟩
        have HPK : Hid (Pk T (lfs P) rest) := hPk
        have HPL : Hid (P.length = pn) := hPl
        have HBW2 : Hid (Below B w wr2) := hbel
        have HRM : Hid (∀ p ∈ rest, May p) := fun p hp => HM.out p (by rw [← hfl]; exact List.mem_append_right _ hp)
        by_cases hr0 : 0 < rn
        · have k0 : (0 : Int) < (rn : Int) := by omega
          have HPR : Hid (∀ W, Below wr2.heap.size wr2 W → Pw G W ra rn rc rest) := fun W hW => hPr.below hW
          have hrn2 : rn ≤ 600000 := by have := es_len rest; omega
          clear hPr hPo hPe hPk hbel hPl hfl
          go_wp2
          go_loopw [7, 8] (fun va vs wr3 => ∃ at_ : Nat, at_ ≤ rn ∧ va = .int .i64 at_ ∧ vs = .int .i64 (szL (rest.take at_) : Int) ∧ szL (rest.take at_) ≤ 1023 ∧ Below wr2.heap.size wr2 wr3) (fun va _ _ => rn - (intOf va).toNat)
          case atStart => exact ⟨0, by omega, rfl, rfl, by simp [szL], Below.refl _ _⟩
          case round =>
            obtain ⟨at_, hat, rfl, rfl, hsz, hB2⟩ := hrel
            obtain ⟨x, hx⟩ : ∃ x, szL (rest.take at_) = x := ⟨_, rfl⟩
            rw [hx] at hsz ⊢
            by_cases hlt : at_ < rn
            · have kk : (at_ : Int) < (rn : Int) := by omega
              have hp : rest[at_]? = some rest[at_] := List.getElem?_eq_getElem (by omega)
              obtain ⟨p, hpp⟩ : ∃ p, rest[at_] = p := ⟨_, rfl⟩
              rw [hpp] at hp
              have hs := sz_take_succ hp
              have hme := (HRM.out p (List.mem_of_getElem? hp)).sz
              obtain ⟨b2, o2, rfl, hb2, _, hc2⟩ := (HPR.out wr hB2).at hr0
              obtain ⟨d1, d2⟩ := hc2 at_ p hp
              have HZ : Hid (∀ W, Calls Tryz.prog 90 #[.agg #[.string p.1, .string p.2]] W fun e w' => e = .returned (.int .i64 (eSz p : Int)) ∧ Below W.heap.size W w') := fun W => sizeOf_any p W (by omega)
              have HP0 : Hid (rest[at_]? = some p) := hp
              have HX : Hid (szL (rest.take at_) = x ∧ szL (rest.take (at_ + 1)) = x + eSz p) := ⟨hx, by rw [hs, hx]⟩
              obtain ⟨z, hz2⟩ : ∃ z, eSz p = z := ⟨_, rfl⟩
              rw [hz2] at HZ hme HX
              have HEZ : Hid (eSz p = z) := hz2
              have HB3 : Hid (Below wr2.heap.size wr2 wr) := hB2
              clear hp hpp hs hx hB2 hz2
              have hd : ∀ W, Below wr.heap.size wr W → W.cell? ⟨b2, o2 + at_ * 2, none⟩ = some (.string p.1) ∧ W.cell? ⟨b2, o2 + at_ * 2 + 1, none⟩ = some (.string p.2) := fun W hW => ⟨by rw [hW.cell (p := ⟨b2, _, none⟩) hb2]; exact d1, by rw [hW.cell (p := ⟨b2, o2 + at_ * 2 + 1, none⟩) hb2]; exact d2⟩
              have HD : Hid (∀ W, Below wr.heap.size wr W → W.cell? ⟨b2, o2 + at_ * 2, none⟩ = some (.string p.1) ∧ W.cell? ⟨b2, o2 + at_ * 2 + 1, none⟩ = some (.string p.2)) := hd
              clear hd hc2
              by_cases hfit : x + z ≤ 1023
              · have kf : (x : Int) + (z : Int) ≤ 1023 := by omega
                go_wp2_with fail
                refine (HZ.out _).mono ?_
                rintro e V ⟨rfl, hV⟩
                obtain ⟨f1, f2⟩ := HD.out V hV
                have HV : Hid (Below wr.heap.size wr V) := hV
                clear hV
                go_wp2_with fail
                refine (HZ.out _).mono ?_
                rintro e V2 ⟨rfl, hV2⟩
                have HV2 : Hid (Below wr2.heap.size wr2 V2) := HB3.out.trans ((HV.out.mono HB3.out.size).trans (hV2.mono (Nat.le_trans HB3.out.size HV.out.size)))
                clear hV2 HZ
                go_wp2
                refine ⟨⟨at_ + 1, by omega, by go_num, ?_, by rw [HX.out.2]; omega, HV2.out⟩, by simp [intOf]; omega⟩
                rw [HX.out.2]; congr 1
              · have kf : ¬ (x : Int) + (z : Int) ≤ 1023 := by omega
                have hat1 : 1 ≤ at_ := by
                  rcases Nat.eq_zero_or_pos at_ with e | e
                  · have := HX.out.1; rw [e] at this; simp [szL] at this; omega
                  · exact e
                have HSZ : Hid (szL (rest.take at_) ≤ 1023) := by show _ ≤ _; rw [HX.out.1]; exact hsz
                have HNX : Hid (∀ q, rest[at_]? = some q → 1023 < szL (rest.take at_) + eSz q) := fun q hq => by
                  rw [HP0.out] at hq; cases hq
                  rw [HX.out.1, HEZ.out]; omega
                go_wp2_with fail
                refine (HZ.out _).mono ?_
                rintro e V ⟨rfl, hV⟩
                have hB2V : Below wr2.heap.size wr2 V := HB3.out.trans (hV.mono HB3.out.size)
                have hBwV : Below B w V := HBW2.out.trans (hB2V.mono (by have := HBW2.out.size; omega))
                have hPV := HPR.out V hB2V
                clear hV HZ
                have HCU := cut_any (some ⟨b2, o2, none⟩) rn rc at_ V (by omega) hPV.2.1
                have HPV : Hid (Pw G V (some ⟨b2, o2, none⟩) rn rc rest ∧ Below B w V ∧ Below wr2.heap.size wr2 V) := ⟨hPV, hBwV, hB2V⟩
                clear hPV hBwV hB2V
                go_wp2_with fail
                refine HCU.mono ?_
                rintro e X1 ⟨rfl, hX1⟩
                have hPX := HPV.out.1.below hX1
                have HN := newLeaf_any (pn : Int) _ _ _ _ (hPX.take at_ (by omega)) (by have := HSZ.out; omega)
                have HX1 : Hid (Pw G X1 (some ⟨b2, o2, none⟩) rn rc rest ∧ Below wr2.heap.size wr2 X1) := ⟨hPX, HPV.out.2.2.trans (hX1.mono HPV.out.2.2.size)⟩
                obtain ⟨sz, hsz⟩ : ∃ sz, szL (rest.take at_) = sz := ⟨_, rfl⟩
                rw [hsz] at HN
                clear HCU hX1 hPX
                go_wp2_with fail
                refine HN.mono ?_
                rintro e X2 ⟨a2, rfl, hp2, hX2⟩
                obtain ⟨X3, hX3⟩ : ∃ X3, X2.alloc (.cells #[.int .i64 (pn : Int), .slice a2 at_ at_, .int .i64 (sz : Int)] 85) = X3 := ⟨_, rfl⟩
                have hB3 : Below X2.heap.size X2 X3 := by rw [← hX3]; exact (Below.refl _ X2).alloc (Nat.le_refl _) _
                have r3 : X3.heap[X2.heap.size]? = some (.cells #[.int .i64 (pn : Int), .slice a2 at_ at_, .int .i64 (sz : Int)] 85 (0, 0)) := by rw [← hX3]; exact heap_alloc_new X2 _
                have hB23 : Below wr2.heap.size wr2 X3 := HX1.out.2.trans ((hX2.mono HX1.out.2.size).trans (hB3.mono (Nat.le_trans HX1.out.2.size hX2.size)))
                have hBw2 : B ≤ wr2.heap.size := by have := HBW2.out.size; omega
                have hBw3 : Below B w X3 := HBW2.out.trans (hB23.mono hBw2)
                have hB3s : B ≤ X3.heap.size := Nat.le_trans hBw2 hB23.size
                have hat : (rest.take at_).length = at_ := by rw [List.length_take, hrl]; omega
                have hown3 := own_keep HPO.out.1 (W' := X3) (fun x hx => hB23.block x (HPO.out.1.lt x hx).2)
                obtain ⟨gA, cA, VA, hrA, hLoA, hlA, hgA⟩ := leaf_add (m := ⟨(pn : Int), rest.take at_, a2⟩) hown3 (HPO.out.2.below hB23) hB3s (c := X2.heap.size) (by simp only [hat, hsz]; exact r3) (by simp only [hat]; exact hp2.below hB3) (by omega)
                have HE : Hid (VA.ownsRow B 85 3 (.slice (some ⟨gA, 0, none⟩) (pn + 1) cA) (pn + 1) (mfV (P ++ [⟨(pn : Int), rest.take at_, a2⟩])) ∧ Ents G VA (P ++ [⟨(pn : Int), rest.take at_, a2⟩]) ∧ Below B w VA ∧ Pw G VA (cutA (some ⟨b2, o2, none⟩) rc at_ 2) (rn - at_) (rc - at_) (rest.drop at_)) := by
                  refine ⟨by have := hLoA.own; rwa [hlA] at this, hLoA.ent, hBw3.grown hgA hB3s (fun k hk => (hown3.lt k (by rw [ob_slice]; exact hk)).1), ?_⟩
                  have h5 := ((HX1.out.1.below hX2).below hB3).drop at_ (by omega)
                  refine h5.other fun k cur fr hk => hgA.block k (lt_of_some hk) fun e => ?_
                  rcases hown3.2 with ⟨h6, _⟩ | ⟨g6, c6, cur6, e6, _, hr6, _⟩
                  · cases h6; cases e
                  · cases e6; cases e
                    rw [hr6] at hk
                    cases hk
                clear HN hp2 hX2 hB3 r3 hB23 hBw3 hLoA hlA hgA hsz hown3
                go_wp2_with (at_builtin; refine wpList_app _ rfl _ _ _ _ rfl rfl rfl (hrA _) ?_)
                refine ⟨⟨cutA (some ⟨b2, o2, none⟩) rc at_ 2, rn - at_, rc - at_, some ⟨gA, 0, none⟩, pn + 1, cA, rest.drop at_, P ++ [⟨(pn : Int), rest.take at_, a2⟩], by first | rfl | simp, rfl, HE.out.2.2.2, HE.out.1, HE.out.2.1, ?_, HE.out.2.2.1⟩, by simp only [slLen]; omega⟩
                have h7 := HPK.out.add (at_ := at_) (by omega) (by omega) HSZ.out HNX.out
                rw [lfs_len, HPL.out] at h7
                rw [lfs_app]
                exact h7
            · obtain rfl : at_ = rn := by omega
              have kk : ¬ (at_ : Int) < (at_ : Int) := by omega
              have HSZ : Hid (szL (rest.take at_) ≤ 1023) := by show _ ≤ _; rw [hx]; exact hsz
              have HNX : Hid (∀ q, rest[at_]? = some q → 1023 < szL (rest.take at_) + eSz q) := fun q hq => by
                rw [List.getElem?_eq_none (by omega)] at hq; cases hq
              obtain ⟨V, hVw⟩ : ∃ V : World, V = wr := ⟨_, rfl⟩
              subst hVw
              have hB2V : Below wr2.heap.size wr2 V := hB2
              have hBwV : Below B w V := HBW2.out.trans (hB2V.mono (by have := HBW2.out.size; omega))
              have hPV := HPR.out V hB2V
              clear hx hB2
              have HCU := cut_any ra at_ rc at_ V (by omega) hPV.2.1
              have HPV : Hid (Pw G V ra at_ rc rest ∧ Below B w V ∧ Below wr2.heap.size wr2 V) := ⟨hPV, hBwV, hB2V⟩
              clear hPV hBwV hB2V
              go_wp2_with fail
              refine HCU.mono ?_
              rintro e X1 ⟨rfl, hX1⟩
              have hPX := HPV.out.1.below hX1
              have HN := newLeaf_any (pn : Int) _ _ _ _ (hPX.take at_ (by omega)) (by have := HSZ.out; omega)
              have HX1 : Hid (Pw G X1 ra at_ rc rest ∧ Below wr2.heap.size wr2 X1) := ⟨hPX, HPV.out.2.2.trans (hX1.mono HPV.out.2.2.size)⟩
              obtain ⟨sz, hsz⟩ : ∃ sz, szL (rest.take at_) = sz := ⟨_, rfl⟩
              rw [hsz] at HN
              clear HCU hX1 hPX
              go_wp2_with fail
              refine HN.mono ?_
              rintro e X2 ⟨a2, rfl, hp2, hX2⟩
              obtain ⟨X3, hX3⟩ : ∃ X3, X2.alloc (.cells #[.int .i64 (pn : Int), .slice a2 at_ at_, .int .i64 (sz : Int)] 85) = X3 := ⟨_, rfl⟩
              have hB3 : Below X2.heap.size X2 X3 := by rw [← hX3]; exact (Below.refl _ X2).alloc (Nat.le_refl _) _
              have r3 : X3.heap[X2.heap.size]? = some (.cells #[.int .i64 (pn : Int), .slice a2 at_ at_, .int .i64 (sz : Int)] 85 (0, 0)) := by rw [← hX3]; exact heap_alloc_new X2 _
              have hB23 : Below wr2.heap.size wr2 X3 := HX1.out.2.trans ((hX2.mono HX1.out.2.size).trans (hB3.mono (Nat.le_trans HX1.out.2.size hX2.size)))
              have hBw2 : B ≤ wr2.heap.size := by have := HBW2.out.size; omega
              have hBw3 : Below B w X3 := HBW2.out.trans (hB23.mono hBw2)
              have hB3s : B ≤ X3.heap.size := Nat.le_trans hBw2 hB23.size
              have hat : (rest.take at_).length = at_ := by rw [List.length_take, hrl]; omega
              have hown3 := own_keep HPO.out.1 (W' := X3) (fun x hx => hB23.block x (HPO.out.1.lt x hx).2)
              obtain ⟨gA, cA, VA, hrA, hLoA, hlA, hgA⟩ := leaf_add (m := ⟨(pn : Int), rest.take at_, a2⟩) hown3 (HPO.out.2.below hB23) hB3s (c := X2.heap.size) (by simp only [hat, hsz]; exact r3) (by simp only [hat]; exact hp2.below hB3) (by omega)
              have HE : Hid (VA.ownsRow B 85 3 (.slice (some ⟨gA, 0, none⟩) (pn + 1) cA) (pn + 1) (mfV (P ++ [⟨(pn : Int), rest.take at_, a2⟩])) ∧ Ents G VA (P ++ [⟨(pn : Int), rest.take at_, a2⟩]) ∧ Below B w VA ∧ Pw G VA (cutA ra rc at_ 2) (at_ - at_) (rc - at_) (rest.drop at_)) := by
                refine ⟨by have := hLoA.own; rwa [hlA] at this, hLoA.ent, hBw3.grown hgA hB3s (fun k hk => (hown3.lt k (by rw [ob_slice]; exact hk)).1), ?_⟩
                have h5 := ((HX1.out.1.below hX2).below hB3).drop at_ (by omega)
                refine h5.other fun k cur fr hk => hgA.block k (lt_of_some hk) fun e => ?_
                rcases hown3.2 with ⟨h6, _⟩ | ⟨g6, c6, cur6, e6, _, hr6, _⟩
                · cases h6; cases e
                · cases e6; cases e
                  rw [hr6] at hk
                  cases hk
              clear HN hp2 hX2 hB3 r3 hB23 hBw3 hLoA hlA hgA hsz hown3
              go_wp2_with (at_builtin; refine wpList_app _ rfl _ _ _ _ rfl rfl rfl (hrA _) ?_)
              refine ⟨⟨cutA ra rc at_ 2, at_ - at_, rc - at_, some ⟨gA, 0, none⟩, pn + 1, cA, rest.drop at_, P ++ [⟨(pn : Int), rest.take at_, a2⟩], by first | rfl | simp, rfl, HE.out.2.2.2, HE.out.1, HE.out.2.1, ?_, HE.out.2.2.1⟩, by simp only [slLen]; omega⟩
              have h7 := HPK.out.add (at_ := at_) (by omega) (by omega) HSZ.out HNX.out
              rw [lfs_len, HPL.out] at h7
              rw [lfs_app]
              exact h7
        · obtain rfl : rn = 0 := by omega
          have hre : rest = [] := List.eq_nil_of_length_eq_zero hrl
          subst hre
          clear hPr hPo hPe hPk hbel hPl hfl
          go_wp2
          go_ret
          exact ⟨pa, pn, pc, P, rfl, HPO.out.1, HPO.out.2, HPK.out, HBW2.out⟩
end Go.Proofs.YtnafalkcgghjgaaGreatDoor
