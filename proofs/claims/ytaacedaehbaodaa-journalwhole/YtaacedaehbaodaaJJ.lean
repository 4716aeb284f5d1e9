/- A walk over the statements' opened. -/
import Derived.Test.YtaacedaehbaodaaJI
import Derived.Test.YtaacedaehbaodaaJH
namespace Go.Proofs.Ytaacedaehbaodaa
open Go.RowKit Go.Shelf
theorem put_mid0 (b o n cp i j : Nat) (hi : i ≤ j) (hj : j ≤ cp) (hc : i < cp) (W : World) : (Instr.sliceAt 36 (.slice (some ⟨b, o, none⟩) n cp) (some (.int .i64 (i : Int))) (some (.int .i64 (j : Int))) none).run Try.prog W = .ok (.slice (some ⟨b, o + i * 3, none⟩) (j - i) (cp - i)) W := by
  have h1 : (sizeOf 79).run Try.prog W = .ok 3 W := by kernel_rfl
  have e : (⟨b, o, none⟩ : Addr).add (i * 3) = ⟨b, o + i * 3, none⟩ := add_at _ _ _
  have n1 : ¬ cp = i := by omega
  simp [Instr.sliceAt, Instr.slice, run_underlying Try.underlying36, Instr.sliceBounds, Instr.sliceBound, asIntOf, h1, e, hi, hj, n1]
theorem put_mid (b o n cp i : Nat) (hi : i < n) (hn : n ≤ cp) (W : World) : (Instr.sliceAt 36 (.slice (some ⟨b, o, none⟩) n cp) (some (.int .i64 (i : Int))) (some (.int .i64 ((i : Int) + 1))) none).run Try.prog W = .ok (.slice (some ⟨b, o + i * 3, none⟩) 1 (cp - i)) W := by
  have := put_mid0 b o n cp i (i + 1) (by omega) (by omega) (by omega) W
  rw [show ((i + 1 : Nat) : Int) = (i : Int) + 1 by omega, show i + 1 - i = 1 by omega] at this
  exact this
theorem Ps.one {w : World} {b o n cp : Nat} {l : List PutV} (h : Ps w (some ⟨b, o, none⟩) n cp l) (i : Nat) (hi : i < l.length) : Ps w (some ⟨b, o + i * 3, none⟩) 1 (cp - i) [l[i]] := by
  obtain ⟨h1, h2, h3, h4⟩ := h
  refine ⟨rfl, by omega, by omega, fun _ => ?_⟩
  obtain ⟨b', o', e, hb, hc⟩ := h4 (by omega)
  cases e
  refine ⟨b, o + i * 3, rfl, hb, fun j hj => ?_⟩
  have : j = 0 := by simpa using hj
  subst this
  have := hc i hi
  simpa using this
theorem opened_none (x : Int) (a : Option Addr) (len cap : Nat) (w : World) (hx : x < 1 ∨ 6 < x) : Calls Try.prog 16 #[.int .i64 x, .slice a len cap] w fun e w' => e = .returned (.tuple #[.pointer none, .pointer none]) ∧ w' = w := by
  rcases hx with hx | hx
  · go_enter Try.func16, Try.ntmps16
    go_wp2
    go_ret2
    exact ⟨rfl, rfl⟩
  · have h1 : ¬ x < 1 := by omega
    go_enter Try.func16, Try.ntmps16
    go_wp2
    go_ret2
    exact ⟨rfl, rfl⟩
/-- A store that was made since w0: its disk at g, its journal at jb. -/
structure Own1 (w0 w : World) (S : Nat → Prop) (g jb n : Nat) (D : Dk) : Prop where
  bl : Below w0.heap.size w0 w
  d : DiskIs w S g D
  j : Jat w jb g n
  nj : ¬ S jb
  s0 : ∀ x, S x → w0.heap.size ≤ x
  j0 : w0.heap.size ≤ jb
theorem Own1.below {w0 w w' : World} {S : Nat → Prop} {g jb n : Nat} {D : Dk} (h : Own1 w0 w S g jb n D) (hb : Below w.heap.size w w') : Own1 w0 w' S g jb n D :=
  { h with bl := h.bl.trans (hb.mono h.bl.size), d := h.d.below hb, j := h.j.below hb }
theorem Own1.mut {w0 w w' : World} {S : Nat → Prop} {g jb n : Nat} {D D' : Dk} (h : Own1 w0 w S g jb n D) (m : Mut S w g D' w') : ∃ S', Own1 w0 w' S' g jb n D' ∧ (∀ x, S' x → S x ∨ w.heap.size ≤ x) ∧ Upd S w w' := by
  obtain ⟨S', hd, hu, hs, hn⟩ := m.next
  exact ⟨S', ⟨h.bl.trans (hu.below h.bl.size h.s0), hd, h.j.upd hu h.nj, hn jb h.j.lt h.nj, fun x hx => (hs x hx).elim (h.s0 x) (fun k => Nat.le_trans h.bl.size k), h.j0⟩, hs, hu⟩
def Opened1 (w0 w w' : World) (n len g jb : Nat) : Prop := ∃ D S, Good n D ∧ D.writes ≤ 80 ∧ (len = 0 → D = Dk.new (8 * n + 1) nought) ∧ Own1 w0 w' S g jb n D ∧ (∀ x, S x → w.heap.size ≤ x) ∧ w.heap.size ≤ jb
set_option maxRecDepth 100000 in
set_option maxHeartbeats 2000000 in
theorem opened_any (n : Nat) (hn1 : 1 ≤ n) (hn6 : n ≤ 6) (a : Option Addr) (len cap : Nat) (l : List PutV) (w0 w : World) (hw0 : Below w0.heap.size w0 w) (hl : Ps w a len cap l) :
    Calls Try.prog 16 #[.int .i64 (n : Int), .slice a len cap] w fun e w' => ∃ g jb, e = .returned (.tuple #[.pointer (some ⟨g, 0, none⟩), .pointer (some ⟨jb, 0, none⟩)]) ∧ Opened1 w0 w w' n len g jb := by
  have HRN := rneed_any (n : Int) w
  have hnd : needN (n : Int) = 8 * n + 1 := by
    unfold needN
    rw [if_neg (by omega)]
    simp
    omega
  rw [hnd] at HRN
  have HNW := new_any (8 * n + 1) w (by omega) (by omega)
  have hll := hl.1
  have hcap := hl.2.1
  have hcap2 := hl.2.2.1
  have HL : Hid (Ps w a len cap l) := hl
  obtain ⟨nd, hnde⟩ : ∃ nd : Nat, 8 * n + 1 = nd := ⟨_, rfl⟩
  rw [hnde] at HRN HNW
  have k1 : ¬ (n : Int) < 1 := by omega
  have k6 : ¬ (6 : Int) < (n : Int) := by omega
  clear hl hnd
  go_enter Try.func16, Try.ntmps16
  go_wp2_with (go_at_call 8; refine HRN.mono ?_; rintro e V1 ⟨rfl, hV⟩; subst V1)
  refine HNW.mono ?_
  rintro e w1 ⟨g, rfl, hd1, hb1⟩
  have hg : Good n (Dk.new nd nought) := by rw [← hnde]; exact Good.new n
  have HO := open_any (n := n) hd1 (by omega) (by omega) (by rw [hg.ln]; omega) hg.up hg.wt hg.sz.k (by have : (Dk.new nd nought).writes = 0 := rfl; omega)
  rw [rec_tidy hg.td] at HO
  have HO : Calls Try.prog 10 #[.pointer (some ⟨g, 0, none⟩), .int .i64 (n : Int)] w1 fun e w' => e = .returned (.tuple #[.pointer (some ⟨w1.heap.size, 0, none⟩), .int .i64 0]) ∧ Jat w' w1.heap.size g n ∧ ∃ S', DiskIs w' S' g (Dk.new nd nought) ∧ Upd (fresh w w1) w1 w' ∧ (∀ x, S' x → fresh w w1 x ∨ w1.heap.size ≤ x) ∧ ¬ S' w1.heap.size := HO
  clear HNW HRN
  go_wp2_with fail
  refine HO.mono ?_
  rintro e w2 ⟨rfl, hj2, S2, hd2, hu2, hs2, hnj2⟩
  have hb2 : Below w.heap.size w w2 := hb1.trans (hu2.below hb1.size (fun k hk => hk.1))
  have hS2 : ∀ x, S2 x → w.heap.size ≤ x := fun x hx => (hs2 x hx).elim (fun h => h.1) (fun h => Nat.le_trans hb1.size h)
  obtain ⟨jb, hjb⟩ : ∃ jb, w1.heap.size = jb := ⟨_, rfl⟩
  rw [hjb] at hj2 hnj2
  have hjw : w.heap.size ≤ jb := by rw [← hjb]; exact hb1.size
  have HI : Hid (∃ D S, Good n D ∧ D.writes ≤ 10 * 0 ∧ (len = 0 → D = Dk.new nd nought) ∧ Own1 w0 w2 S g jb n D ∧ (∀ x, S x → w.heap.size ≤ x) ∧ Below w.heap.size w w2) :=
    ⟨_, S2, hg, Nat.le_refl _, fun _ => rfl, ⟨hw0.trans (hb2.mono hw0.size), hd2, hj2, hnj2, fun x hx => Nat.le_trans hw0.size (hS2 x hx), Nat.le_trans hw0.size hjw⟩, hS2, hb2⟩
  clear HO hj2 hd2 hu2 hs2 hnj2 hg hd1 hb1 hb2 hS2
  go_wp2
  go_loopw [10] (fun v wr => ∃ i : Nat, i ≤ len ∧ i ≤ 8 ∧ v = .int .i64 i ∧ ∃ D S, Good n D ∧ D.writes ≤ 10 * i ∧ (len = 0 → D = Dk.new nd nought) ∧ Own1 w0 wr S g jb n D ∧ (∀ x, S x → w.heap.size ≤ x) ∧ Below w.heap.size w wr) (fun v _ => 8 - (intOf v).toNat)
  case atStart => exact ⟨0, by omega, by omega, rfl, HI.out⟩
  case round =>
    clear HI
    obtain ⟨i, hi1, hi2, rfl, D, S, hG, hwr, hz, ho, hS, hbel⟩ := hrel
    have HH : Hid (Good n D ∧ D.writes ≤ 10 * i ∧ (len = 0 → D = Dk.new nd nought) ∧ Own1 w0 wr S g jb n D ∧ (∀ x, S x → w.heap.size ≤ x) ∧ Below w.heap.size w wr) := ⟨hG, hwr, hz, ho, hS, hbel⟩
    clear hG hwr hz ho hS hbel
    by_cases hlt : i < len ∧ i < 8
    · have k1 : (i : Int) < (len : Int) := by omega
      have k2 : (i : Int) < 8 := by omega
      have hil : i < l.length := by omega
      obtain ⟨hG, hwr, hz, ho, hS, hbel⟩ := HH.out
      have hpl := HL.out.below hbel
      obtain ⟨b, o, rfl, hb, _⟩ := hpl.2.2.2 (by omega)
      have hsl := put_mid b o len cap i hlt.1 hcap wr
      have HC := changes_any (some ⟨b, o + i * 3, none⟩) 1 (cap - i) [l[i]] (hpl.one i hil)
      clear hpl hlt hG hwr hz ho hS hbel
      go_wp2_with fail
      refine HC.mono ?_
      rintro e w3 ⟨a1, c1, a2, c2, rfl, ho1, ho2, hb3⟩
      obtain ⟨hG, hwr, hz, ho, hS, hbel⟩ := HH.out
      have ho3 := ho.below hb3
      have hab : ∀ x, ob a1 = some x → x < w3.heap.size := fun x hx => (ho1.lt x (by rw [ob_slice]; exact hx)).2
      have hci : Ci w3 a1 1 c1 (chL [l[i]]) := Ci.own ho1 rfl
      have HCO := commit_any ho3.d ho3.j ho3.nj (by omega) (by rw [hG.ln]; omega) a1 1 c1 (chL [l[i]]) hci hab (by omega) (by omega)
      obtain ⟨_, g2, g3, _⟩ := hG.commit (by omega) (chL [l[i]])
      have g3' : (comDisk n D (chL [l[i]])).writes ≤ 10 * (i + 1) := by
        have : (chL [l[i]]).length = 1 := rfl
        omega
      obtain ⟨D', hD'⟩ : ∃ D', comDisk n D (chL [l[i]]) = D' := ⟨_, rfl⟩
      rw [hD'] at HCO g2 g3'
      have HB3 : Hid (Below w.heap.size w w3) := hbel.trans (hb3.mono hbel.size)
      have HO3 : Hid (Own1 w0 w3 S g jb n D) := ho3
      have HS : Hid (∀ x, S x → w.heap.size ≤ x) := hS
      have HG : Hid (Good n D') := g2
      clear HC hD' ho3 hS hbel hb3 ho1 ho2 hci hab ho hG hwr hz HH g2
      go_wp2_with fail
      refine HCO.mono ?_
      rintro e w4 ⟨rfl, hm⟩
      obtain ⟨S4, ho4, hs4, hu4⟩ := HO3.out.mut hm
      have HN : Hid (∃ D S, Good n D ∧ D.writes ≤ 10 * (i + 1) ∧ (len = 0 → D = Dk.new nd nought) ∧ Own1 w0 w4 S g jb n D ∧ (∀ x, S x → w.heap.size ≤ x) ∧ Below w.heap.size w w4) :=
        ⟨D', S4, HG.out, g3', fun e => by omega, ho4, fun x hx => (hs4 x hx).elim (HS.out x) (fun k => Nat.le_trans HB3.out.size k), HB3.out.trans (hu4.below HB3.out.size HS.out)⟩
      clear HCO hm ho4 hs4 hu4 HO3
      go_wp2
      exact ⟨⟨i + 1, by omega, by omega, by go_num, HN.out⟩, by simp [intOf]; omega⟩
    · have HE : Hid (∃ D S, Good n D ∧ D.writes ≤ 80 ∧ (len = 0 → D = Dk.new (8 * n + 1) nought) ∧ Own1 w0 wr S g jb n D ∧ (∀ x, S x → w.heap.size ≤ x) ∧ w.heap.size ≤ jb) := by
        obtain ⟨hG, hwr, hz, ho, hS, hbel⟩ := HH.out
        exact ⟨D, S, hG, by omega, by rw [hnde]; exact hz, ho, hS, hjw⟩
      by_cases h1 : i < len
      · have k1 : (i : Int) < (len : Int) := by omega
        have k2 : ¬ (i : Int) < 8 := by omega
        go_wp2
        go_ret2
        exact ⟨g, jb, rfl, HE.out⟩
      · have k1 : ¬ (i : Int) < (len : Int) := by omega
        go_wp2
        go_ret2
        exact ⟨g, jb, rfl, HE.out⟩
end Go.Proofs.Ytaacedaehbaodaa
