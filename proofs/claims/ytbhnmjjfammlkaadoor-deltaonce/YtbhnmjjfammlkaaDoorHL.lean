/- A walk over whole: windows one after the other. -/
import Derived.Test.YtbhnmjjfammlkaaDoorHJ
import Derived.Deep.LoopGhost
namespace Go.Proofs.YtbhnmjjfammlkaaDoor
open Go.RowKit
def sgL (k : ByteArray) (l : List UInt8) : Sg := sgOf k ⟨l.toArray⟩
theorem sgL_ba (k s : ByteArray) : sgL k s.data.toList = sgOf k s := by unfold sgL; congr 1
theorem win_l (t : ByteArray) (p z : Nat) : (t.extract p (p + z)).data.toList = (t.data.toList.drop p).take z := by rw [ext_l, Nat.add_sub_cancel_left]
theorem fnd_win (L : List Sg) (k t : ByteArray) (p z : Nat) : fnd L (sgOf k (t.extract p (p + z))) = fndL L (sgL k ((t.data.toList.drop p).take z)) := by rw [← win_l, sgL_ba]; rfl
theorem win_next {t : ByteArray} {p z : Nat} (hz : 1 ≤ z) (h : p + z < t.size) : ∃ (x y : UInt8) (hp : p < t.size) (hq : p + z < t.size), t[p]'hp = x ∧ t[p + z]'hq = y ∧ nxtI (wsum ((t.data.toList.drop p).take z)) (z : Int) x.toNat y.toNat = (wsum ((t.data.toList.drop (p + 1)).take z) : Int) := by
  have hl : t.data.toList.length = t.size := Array.length_toList
  refine ⟨_, _, by omega, h, rfl, rfl, ?_⟩
  obtain ⟨m, rfl⟩ : ∃ m, z = m + 1 := ⟨z - 1, by omega⟩
  have e1 : t.data.toList.drop p = t[p] :: t.data.toList.drop (p + 1) := by
    rw [List.drop_eq_getElem_cons (by omega)]
    rfl
  have e2 : (t.data.toList.drop (p + 1)).take (m + 1) = (t.data.toList.drop (p + 1)).take m ++ [t[p + (m + 1)]] := by
    rw [List.take_add_one, List.getElem?_drop, show p + 1 + m = p + (m + 1) by omega, List.getElem?_eq_getElem (by omega)]
    rfl
  rw [e1, List.take_succ_cons, e2]
  have hn := nxt_wsum (t[p]) ((t.data.toList.drop (p + 1)).take m) (t[p + (m + 1)])
  rw [List.length_take, List.length_drop, Nat.min_eq_left (by omega)] at hn
  exact hn
/-- What whole leaves. -/
def WhTo (w : World) (k : ByteArray) (L : List Sg) (z last : Nat) (t : ByteArray) (e : Ending) (w' : World) : Prop :=
  ∃ (a : Option Addr) (c : Nat) (out : List Pc) (done : Nat), e = .returned (.tuple #[.slice a out.length c, .int .i64 (done : Int)]) ∧ w'.ownsRow w.heap.size 48 3 (.slice a out.length c) out.length (pcR out) ∧ WinE (sgL k) L z last t.data.toList out done ∧ Below w.heap.size w w'
set_option maxRecDepth 100000 in
set_option maxHeartbeats 4000000 in
theorem dwhole_any {w : World} {B0 g : Nat} {L : List Sg} (hI : Inx w B0 g L) (k t : ByteArray) (z last : Nat) (hz1 : 1 ≤ z) (hz2 : z ≤ 128) (ht : t.size ≤ 1024) (hk : k.size ≤ 1000000) (hL : Laid w) :
    Calls Tryd.prog 28 #[.string k, .pointer (some ⟨g, 0, none⟩), .int .i64 (z : Int), .string t] w fun e w' => WhTo w k L z last t e w' := by
  have hI2 : Hid (∀ V, Below w.heap.size w V → Inx V B0 g L ∧ Laid V) := fun V hV => ⟨hI.below hV, hL.below hV⟩
  have HK : Hid (k.size ≤ 1000000) := hk
  have hl : t.data.toList.length = t.size := Array.length_toList
  have HL2 : Hid (t.data.toList.length = t.size) := hl
  obtain ⟨B, hB⟩ : ∃ B, w.heap.size = B := ⟨_, rfl⟩
  have HB0 : Hid (w.heap.size = B) := hB
  clear hI hL hk hl hB
  go_enter Tryd.func28, Tryd.ntmps28
  go_wp2
  go_step3
  go_wp2
  go_step3
  go_wp2
  go_loopg [10, 11] t.size (fun gk vo vd wr => ∃ (out : List Pc) (n done c : Nat) (a : Option Addr), done + gk = t.size ∧ vd = .int .i64 done ∧ vo = .slice a n c ∧ n = out.length ∧ WinI (sgL k) L z last t.data.toList out done done ∧ wr.ownsRow B 48 3 (.slice a n c) n (pcR out) ∧ Below w.heap.size w wr)
  case atStart => exact ⟨[], 0, 0, 0, none, by omega, rfl, rfl, rfl, WinI.start _, World.ownsRow_nil _ _ _ _, Below.refl _ _⟩
  case round =>
    obtain ⟨out, n, done, c, a, hg, rfl, rfl, hn, hwin, hown, hbw⟩ := hrel
    have hn2 : n ≤ 2048 := by have := hwin.2.2.1; omega
    obtain ⟨q, hq⟩ : ∃ q, done + z = q := ⟨_, rfl⟩
    have kq : (done : Int) + (z : Int) = (q : Int) := by omega
    by_cases hlt : q ≤ t.size
    · have kk : (q : Int) ≤ (t.size : Int) := by omega
      have kd : (done : Int) ≤ (q : Int) := by omega
      obtain ⟨win, hwi⟩ : ∃ win, t.extract done q = win := ⟨_, rfl⟩
      have hws : win.data.toList = (t.data.toList.drop done).take z := by rw [← hwi, ← hq]; exact win_l t done z
      have hwz : win.size ≤ 128 := by rw [← hwi, ByteArray.size_extract]; omega
      obtain ⟨cap, W2, hcv, hc1, hc2, hb2, hs2, hcl⟩ := bytes_of wr win (by omega)
      have hbs : BsI W2 (some ⟨wr.heap.size, 0, none⟩) win.size cap win.data.toList := ⟨by rw [Array.length_toList]; rfl, hc1, hc2, fun _ => ⟨wr.heap.size, 0, rfl, hs2, fun i hi => by rw [Nat.zero_add]; exact hcl i hi⟩⟩
      have HS := rollsum_any _ _ _ _ W2 hbs
      rw [hws] at HS
      obtain ⟨sm, hsm⟩ : ∃ sm, wsum ((t.data.toList.drop done).take z) = sm := ⟨_, rfl⟩
      rw [hsm] at HS
      have HW : Hid (WinI (sgL k) L z last t.data.toList out done done ∧ W2.ownsRow B 48 3 (.slice a n c) n (pcR out) ∧ Below w.heap.size w W2 ∧ n = out.length ∧ done + z = q ∧ wsum ((t.data.toList.drop done).take z) = sm) := ⟨hwin, own_keep hown (W' := W2) (fun j hj => hb2.block j (hown.lt j hj).2), hbw.trans (hb2.mono hbw.size), hn, hq, hsm⟩
      clear hwin hown hbw hc1 hc2 hb2 hs2 hcl hbs hws hwz hn hq hsm
      go_wp2_with fail
      refine HS.mono ?_
      rintro e V ⟨rfl, hV⟩
      subst V
      clear HS hcv kq hwi
      have HNO : Hid (n = out.length) := HW.out.2.2.2.1
      go_wp2
      go_loopg [10, 11, 12, 13] (t.size - q) (fun g2 vo vd vs vp wy => ∃ (p s : Nat), p + z + g2 = t.size ∧ vp = .int .i64 p ∧ vs = .int .u32 s ∧ vo = .slice a n c ∧ vd = .int .i64 done ∧ wsum ((t.data.toList.drop p).take z) = s ∧ WinI (sgL k) L z last t.data.toList out done p ∧ wy.ownsRow B 48 3 (.slice a n c) n (pcR out) ∧ Below w.heap.size w wy)
      case atStart => exact ⟨done, sm, by have := HW.out.2.2.2.2.1; omega, rfl, rfl, rfl, rfl, HW.out.2.2.2.2.2, HW.out.1, HW.out.2.1, HW.out.2.2.1⟩
      case round =>
        clear HW
        obtain ⟨p, s, hg2, rfl, rfl, rfl, rfl, hs, hwin, hown, hbw⟩ := hrel
        obtain ⟨q2, hq2⟩ : ∃ q2, p + z = q2 := ⟨_, rfl⟩
        have kq2 : (p : Int) + (z : Int) = (q2 : Int) := by omega
        have hq2t : (q2 : Int) ≤ (t.size : Int) := by omega
        have hpq : (p : Int) ≤ (q2 : Int) := by omega
        obtain ⟨win, hwi⟩ : ∃ win, t.extract p q2 = win := ⟨_, rfl⟩
        have hws : win.data.toList = (t.data.toList.drop p).take z := by rw [← hwi, ← hq2]; exact win_l t p z
        have hwz : win.size ≤ 128 := by rw [← hwi, ByteArray.size_extract]; omega
        obtain ⟨hIr, hLr⟩ := hI2.out wr hbw
        have HF := dfind_any hIr k win HK.out (by omega) hLr
        rw [hws, hs] at HF
        have hfw : fnd L (sgOf k win) = fndL L (sgL k ((t.data.toList.drop p).take z)) := by rw [← hwi, ← hq2]; exact fnd_win L k t p z
        have hdp : done ≤ p := hwin.1
        cases hr : fndL L (sgL k ((t.data.toList.drop p).take z)) with
        | some i =>
          rw [hfw, hr] at HF
          obtain ⟨bys, hby⟩ : ∃ bys, t.extract done p = bys := ⟨_, rfl⟩
          have hbl : bys.data.toList = (t.data.toList.drop done).take (p - done) := by rw [← hby, ext_l]
          have kdp : (done : Int) ≤ (p : Int) := by omega
          have kpt : (p : Int) ≤ (t.size : Int) := by omega
          have HW : Hid (WinI (sgL k) L z last t.data.toList (out ++ bytP bys.data.toList ++ [Pc.blk i]) q2 q2 ∧ wr.ownsRow B 48 3 (.slice a n c) n (pcR out) ∧ Below w.heap.size w wr ∧ q2 ≤ t.size ∧ done < q2) := ⟨by rw [hbl, ← hq2]; exact hwin.found hz1 (by have := HL2.out; omega) hr, hown, hbw, by omega, by omega⟩
          clear hwin hown hbw hIr hLr hws hwz hfw hs hr hq2 hg2 hdp hbl
          go_wp2_with fail
          refine HF.mono ?_
          rintro e V1 ⟨rfl, hb1⟩
          simp only [Option.getD_some, Option.isSome_some]
          have hB1 : Below w.heap.size w V1 := HW.out.2.2.1.trans (hb1.mono HW.out.2.2.1.size)
          have hBs : B ≤ V1.heap.size := by have := HB0.out; have := hB1.size; omega
          have ho1 := own_keep HW.out.2.1 (W' := V1) (fun j hj => hb1.block j (HW.out.2.1.lt j hj).2)
          have HWB := withb_any ho1 hBs (by omega) bys
          have H1 : Hid (Below w.heap.size w V1) := hB1
          clear HF hb1 hB1 hBs ho1 hwi
          go_wp2_with fail
          refine HWB.mono ?_
          rintro e V2 ⟨a2, c2, rfl, ho2, hb2⟩
          have HBK := block_any i V2
          obtain ⟨n2, hn2e⟩ : ∃ n2, (out ++ bytP bys.data.toList).length = n2 := ⟨_, rfl⟩
          rw [hn2e] at ho2 ⊢
          have hB2 : Below w.heap.size w V2 := H1.out.trans (by rw [HB0.out]; exact hb2)
          have H2 : Hid (V2.ownsRow B 48 3 (.slice a2 n2 c2) n2 (pcR (out ++ bytP bys.data.toList)) ∧ Below w.heap.size w V2 ∧ (out ++ bytP bys.data.toList).length = n2) := ⟨ho2, hB2, hn2e⟩
          clear HWB ho2 hb2 hB2 H1 hby hn2e
          go_wp2_with fail
          refine HBK.mono ?_
          rintro e V3 ⟨rfl, hb3⟩
          obtain ⟨V4, hV4, r4, hb4⟩ := box_pc (w := V3) true (i : Int) ⟨#[]⟩
          have hB4 : Below w.heap.size w V4 := H2.out.2.1.trans ((hb3.trans (hb4.mono hb3.size)).mono H2.out.2.1.size)
          have hBs : B ≤ V4.heap.size := by have := HB0.out; have := hB4.size; omega
          have ho4 := own_keep H2.out.1 (W' := V4) (fun j hj => (hb3.trans (hb4.mono hb3.size)).block j (H2.out.1.lt j hj).2)
          have hn2s : n2 ≤ 5000 := by
            have h5 := H2.out.2.2
            have h6 : (bytP bys.data.toList).length ≤ 1 := by unfold bytP; split <;> simp
            rw [List.length_append] at h5
            have := HNO.out
            omega
          obtain ⟨aA, cA, VA, hrA, hoA, hgA, _⟩ := addH_own V4 ho4 (pcRow (p := Pc.blk i) r4) (by omega) hBs
          have HE : Hid (VA.ownsRow B 48 3 (.slice aA (n2 + 1) cA) (n2 + 1) (pcR (out ++ bytP bys.data.toList ++ [Pc.blk i])) ∧ Below w.heap.size w VA) := ⟨hoA, hB4.grown hgA hB4.size (fun j hj => by have := (ho4.lt j (by rw [ob_slice]; exact hj)).1; have := HB0.out; omega)⟩
          clear HBK hb3 hb4 r4 hB4 hBs ho4 hoA hgA
          go_wp2_with ((at_builtin; refine wpList_app V4 rfl _ _ _ _ rfl rfl rfl (hrA _) ?_))
          go_roundg (t.size - q2)
          case measure => have := HW.out.2.2.2; omega
          case rel => exact ⟨out ++ bytP bys.data.toList ++ [Pc.blk i], n2 + 1, q2, cA, aA, by have := HW.out.2.2.2; omega, by first | rfl | simp, by first | rfl | simp, by rw [List.length_append, H2.out.2.2]; rfl, HW.out.1, HE.out.1, HE.out.2⟩
        | none =>
          rw [hfw, hr] at HF
          have HW : Hid (WinI (sgL k) L z last t.data.toList out done p ∧ wr.ownsRow B 48 3 (.slice a n c) n (pcR out) ∧ Below w.heap.size w wr ∧ fndL L (sgL k ((t.data.toList.drop p).take z)) = none ∧ p + z = q2) := ⟨hwin, hown, hbw, hr, hq2⟩
          clear hwin hown hbw hIr hLr hws hwz hfw hr hdp
          go_wp2_with fail
          refine HF.mono ?_
          rintro e V1 ⟨rfl, hb1⟩
          simp only [Option.getD_none, Option.isSome_none]
          have H1 : Hid (V1.ownsRow B 48 3 (.slice a n c) n (pcR out) ∧ Below w.heap.size w V1) := ⟨own_keep HW.out.2.1 (W' := V1) (fun j hj => hb1.block j (HW.out.2.1.lt j hj).2), HW.out.2.2.1.trans (hb1.mono HW.out.2.2.1.size)⟩
          clear HF hb1 hwi
          by_cases hend : q2 = t.size
          · have kend : ((q2 : Int) == (t.size : Int)) = true := by simp [hend]
            have HE : Hid (WhTo w k L z last t (.returned (.tuple #[.slice a n c, .int .i64 (done : Int)])) V1) := by
              refine ⟨a, c, out, done, by rw [HNO.out], by rw [HB0.out, ← HNO.out]; exact H1.out.1, HW.out.1.stop hz1 (by have := HL2.out; omega) HW.out.2.2.2.1, H1.out.2⟩
            clear hend hq2
            go_wp2
            try rw [Exit.noGoto_ret]
            refine bodyPost_ret (v := .tuple #[.slice a n c, .int .i64 (done : Int)]) ?_ rfl HE.out
            simp [results, go_sem]
          · have kend : ((q2 : Int) == (t.size : Int)) = false := by simpa using (show ¬ (q2 : Int) = (t.size : Int) by omega)
            obtain ⟨x, y, hx1, hy1, hx, hy, hnx⟩ := win_next (t := t) (p := p) hz1 (by omega)
            rw [hs] at hnx
            obtain ⟨s', hs'⟩ : ∃ s', wsum ((t.data.toList.drop (p + 1)).take z) = s' := ⟨_, rfl⟩
            rw [hs'] at hnx
            have hslt : s < 4294967296 := by rw [← hs]; exact wsum_lt _
            have HNX : ∀ V, Calls Tryd.prog 50 #[.int .u32 (s : Int), .int .i64 (z : Int), .int .u8 (x.toNat : Int), .int .u8 (y.toNat : Int)] V fun e w' => e = .returned (.int .u32 (s' : Int)) ∧ w' = V := fun V => by
              rw [← hnx]
              exact rollnext_any s (z : Int) x.toNat y.toNat V hslt x.toNat_lt y.toNat_lt
            have hy2 : q2 < t.size := by omega
            have hyq : t[q2]'hy2 = y := by rw [← hy]; congr 1; omega
            have hpt : p < t.size := by omega
            have HS' : Hid (wsum ((t.data.toList.drop (p + 1)).take z) = s') := hs'
            clear hnx hs' hy hend hq2 hs
            go_wp2
            go_quiet ((go_at_call 50; refine Calls.quiet_of_same (HNX _)))
            go_wp2
            go_roundg (t.size - q2 - 1)
            case measure => have := HW.out.2.2.2.2; omega
            case rel => exact ⟨p + 1, s', by have := HW.out.2.2.2.2; omega, by go_num, by first | rfl | simp, by first | rfl | simp, by first | rfl | simp, HS'.out, HW.out.1.step hz1 (by have := HL2.out; have := HW.out.2.2.2.2; omega) HW.out.2.2.2.1, own_keep H1.out.1 (fun j hj => (below_drewN (Below.refl _ V1) _).block j (H1.out.1.lt j hj).2), below_drewN H1.out.2 _⟩
    · have kk : ¬ (q : Int) ≤ (t.size : Int) := by omega
      have HE : Hid (WhTo w k L z last t (.returned (.tuple #[.slice a n c, .int .i64 (done : Int)])) wr) := by
        refine ⟨a, c, out, done, by rw [hn], by rw [HB0.out, ← hn]; exact hown, hwin.end (by have := HL2.out; omega), hbw⟩
      clear hwin hown hbw hn hq
      go_wp2
      refine bodyPost_ret (v := .tuple #[.slice a n c, .int .i64 (done : Int)]) ?_ rfl HE.out
      simp [results, go_sem]
end Go.Proofs.YtbhnmjjfammlkaaDoor
