/- A walk over Encode. Weak sums that go on: mathematics, and walks over halves and Next. Walks over withBytes, find. -/
import Derived.Test.YtbhnmjjfammlkaaDoorHR
import Derived.Test.YtbhnmjjfammlkaaDoorHF
import Derived.Test.YtbhnmjjfammlkaaDoorHE
import Derived.Lib.AppendStr
import Derived.Test.YtbhnmjjfammlkaaDoorGD
import Derived.Test.YtbhnmjjfammlkaaDoorHI
import Derived.Test.YtbhnmjjfammlkaaDoorGH
namespace Go.Proofs.YtbhnmjjfammlkaaDoor
open Go.RowKit
theorem bytesV_strCells (s : ByteArray) : bytesV s.data.toList = Lib.strCells s := by simp [bytesV, Lib.strCells]
theorem addB_own {G2 : Nat → Prop} (w : World) {base : Nat} {a : Option Addr} {n c : Nat} {l : List UInt8} (h : w.ownsRow base 5 1 (.slice a n c) n (bytesV l)) {a2 : Option Addr} {m c2 : Nat} {k : List UInt8} (h2 : Rw G2 w 5 1 a2 m c2 (bytesV k)) (hN : n + m ≤ 1000000) (hb : base ≤ w.heap.size) :
    ∃ a' c' w', (∀ ty, (Builtin.append_ #[50, 50] ty #[.slice a n c, .slice a2 m c2]).run Tryd.prog w = .ok (.slice a' (n + m) c') w') ∧ w'.ownsRow base 5 1 (.slice a' (n + m) c') (n + m) (bytesV (l ++ k)) ∧ w.grownBy w' (ob a) := by
  obtain ⟨i, hi, hz, hs, hbb⟩ := info_of info5
  rw [bytesV_append]
  obtain ⟨a', c', w', h3, h4, h5, _⟩ := app_own w 50 5 i _ 1 1 Tryd.underlying50 hi hz hs hbb rfl (by omega) h h2 (bytesV_one k) hN (by omega) hb
  exact ⟨a', c', w', h3, h4, h5⟩
theorem addS_own (w : World) {base : Nat} {a : Option Addr} {n c : Nat} {l : List UInt8} (h : w.ownsRow base 5 1 (.slice a n c) n (bytesV l)) (s : ByteArray) (hN : n + s.size ≤ 1000000) (hb : base ≤ w.heap.size) :
    ∃ a' c' w', (∀ ty, (Builtin.append_ #[50, 9] ty #[.slice a n c, .string s]).run Tryd.prog w = .ok (.slice a' (n + s.size) c') w') ∧ w'.ownsRow base 5 1 (.slice a' (n + s.size) c') (n + s.size) (bytesV (l ++ s.data.toList)) ∧ w.grownBy w' (ob a) := by
  obtain ⟨i, hi, hz, hs, hbb⟩ := info_of info5
  have := fun ty => Lib.run_append_own_string (P := Tryd.prog) w base 50 9 ty 5 i Tryd.underlying50 Tryd.underlying9 hi hz hs hbb (.slice a n c) n (bytesV l) h s (by unfold maxLen; omega) (by omega) hb
  obtain ⟨v', w', hr, h2, h3, _⟩ := this 0
  rw [← bytesV_strCells, ← bytesV_append] at h2
  rw [ob_slice] at h3
  have hsl : ∃ a' c', v' = .slice a' (n + s.size) c' := by
    rcases h2.2 with ⟨e, h0⟩ | ⟨g, cap, cur, e, _⟩
    · exact ⟨none, 0, by rw [e, h0]⟩
    · exact ⟨_, cap, e⟩
  obtain ⟨a', c', rfl⟩ := hsl
  refine ⟨a', c', w', fun ty => ?_, h2, h3⟩
  rw [← hr]
  rfl
theorem Bs.own {w : World} {base : Nat} {a : Option Addr} {n c : Nat} {bs : List UInt8} (h : w.ownsRow base 5 1 (.slice a n c) n (bytesV bs)) : Bs w a n c bs := by
  cases a with
  | some ad =>
    rcases h.2 with ⟨e, _⟩ | ⟨g, cap, cur, e, _⟩
    · cases e
    · cases e
      exact Bs.owned h
  | none =>
    rcases h.2 with ⟨e, h0⟩ | ⟨g, cap, cur, e, _⟩
    · cases e
      have : bs.length = 0 := by have := h.1; simpa [bytesV] using this
      obtain rfl : bs = [] := List.eq_nil_of_length_eq_zero this
      exact Bs.nil w
    · cases e
/-- What Encode leaves of pieces that may be. -/
def EnTo (w : World) (bs : List UInt8) (e : Ending) (w' : World) : Prop := ∃ (a : Option Addr) (n c : Nat), e = .returned (.tuple #[.slice a n c, .int .i64 0]) ∧ Bs w' a n c bs ∧ Below w.heap.size w w'
theorem pcB_head {p : Pc} (h : p.ok = true) : pcB p = putN (headN p) ++ p.data.data.toList := by
  obtain ⟨a, m, s⟩ := p
  cases a with
  | true =>
    have hs : s.size = 0 := by simp [Pc.ok] at h; rw [h.2]; rfl
    rw [size0 hs]
    simp [pcB, headN]
  | false => simp [pcB, headN]
theorem encL_len (l : List Pc) (i : Nat) : (putN l.length ++ pcsB (l.take i)).length = (encS l i).size := by simp [encS, ByteArray.size]
theorem may_ok {l : List Pc} (h : mayP l = true) : (∀ p ∈ l, p.ok = true) ∧ l.length ≤ 1024 := by
  unfold mayP at h
  simp only [Bool.and_eq_true, List.all_eq_true, decide_eq_true_eq] at h
  exact ⟨h.1.2, h.1.1⟩
theorem ok_n {p : Pc} (h : p.ok = true) : 0 ≤ p.n := by
  obtain ⟨a, m, s⟩ := p
  cases a <;> simp [Pc.ok] at h <;> simp <;> omega
theorem cost_mem {l : List Pc} {p : Pc} (h : p ∈ l) : p.data.size ≤ costP l := by
  obtain ⟨i, hi⟩ := List.getElem?_of_mem h
  have h1 := cost_snoc hi
  have h2 := cost_le l (i + 1)
  omega
set_option maxRecDepth 100000 in
set_option maxHeartbeats 1000000 in
theorem denc_no {G : Nat → Prop} {w : World} {a : Option Addr} {n c : Nat} {l : List Pc} (h : Hw G w a n c l) (hm : mayP l = false) : Calls Tryd.prog 25 #[.slice a n c] w fun e w' => e = .returned (.tuple #[.slice none 0 0, .int .i64 1]) ∧ Below w.heap.size w w' := by
  have HC := dcheck_any h
  rw [hm] at HC
  clear h hm
  go_enter Tryd.func25, Tryd.ntmps25
  go_wp2_with fail
  refine HC.mono ?_
  rintro e V1 ⟨rfl, hb1⟩
  have H1 : Hid (Below w.heap.size w V1) := hb1
  have e1 : ckI false = 1 := rfl
  rw [e1]
  clear HC hb1 e1
  go_wp2
  refine bodyPost_ret (v := .tuple #[.slice none 0 0, .int .i64 1]) ?_ rfl ⟨rfl, H1.out⟩
  simp [results, go_sem]
set_option maxRecDepth 100000 in
set_option maxHeartbeats 4000000 in
theorem denc_ok {G : Nat → Prop} {w : World} {a : Option Addr} {n c : Nat} {l : List Pc} (h : Hw G w a n c l) (hm : mayP l = true) (hp : ∀ p ∈ l, p.n ≤ 9223372036854775807) (hcs : costP l ≤ 100000) : Calls Tryd.prog 25 #[.slice a n c] w fun e w' => EnTo w (encD l) e w' := by
  have HC := dcheck_any h
  have hl := h.len
  obtain ⟨hok, hl24⟩ := may_ok hm
  rw [hm] at HC
  have hsz := fun i => encS_size (l := l) (by omega) (fun p hpm => ⟨hp p hpm, by have := cost_mem hpm; omega⟩) i
  have HA : Hid ((∀ W, Below w.heap.size w W → Hw G W a n c l) ∧ (∀ i, i ≤ n → (encS l i).size ≤ 200000) ∧ (∀ p ∈ l, p.ok = true ∧ 0 ≤ p.n ∧ p.n ≤ 9223372036854775807 ∧ p.data.size ≤ 100000)) := ⟨fun W hW => h.below hW, fun i hi => by have := hsz i; have := cost_le l i; omega, fun p hpm => ⟨hok p hpm, ok_n (hok p hpm), hp p hpm, by have := cost_mem hpm; omega⟩⟩
  obtain ⟨B, hB⟩ : ∃ B, w.heap.size = B := ⟨_, rfl⟩
  have HB0 : Hid (w.heap.size = B) := hB
  have HLN : Hid (l.length = n) := hl
  have hn24 : n ≤ 1024 := by omega
  clear h hm hok hp hcs hsz hB hl hl24
  go_enter Tryd.func25, Tryd.ntmps25
  go_wp2_with fail
  refine HC.mono ?_
  rintro e V1 ⟨rfl, hb1⟩
  have e1 : ckI true = 0 := rfl
  rw [e1]
  have HP := put_any none 0 0 [] n V1 (Bs.nil V1) (by omega) (by omega)
  have H1 : Hid (Below w.heap.size w V1) := hb1
  have wn : IntKind.u64.wrap (n : Int) = (n : Int) := by rw [IntKind.wrap_u64]; omega
  clear HC hb1 e1
  go_wp2_with fail
  refine HP.mono ?_
  rintro e V2 ⟨rfl, hown, hb2⟩
  obtain ⟨m0, hm0⟩ : ∃ m0, 0 + (putN n).length = m0 := ⟨_, rfl⟩
  rw [hm0] at hown ⊢
  rw [List.nil_append] at hown
  have hB2 : Below w.heap.size w V2 := H1.out.trans (hb2.mono H1.out.size)
  have H2 : Hid (V2.ownsRow B 5 1 (.slice (some ⟨V1.heap.size, 0, none⟩) m0 m0) m0 (bytesV (putN n)) ∧ Below w.heap.size w V2) := ⟨own_base hown (by rw [← HB0.out]; exact H1.out.size), hB2⟩
  obtain ⟨g0, hg0⟩ : ∃ g0, V1.heap.size = g0 := ⟨_, rfl⟩
  rw [hg0] at H2 ⊢
  clear HP hown hb2 hB2 H1 hm0 hg0
  go_wp2
  go_loopw [5, 19] (fun vo vi wr => ∃ (i m c' : Nat) (a' : Option Addr), i ≤ n ∧ vi = .int .i64 i ∧ vo = .slice a' m c' ∧ wr.ownsRow B 5 1 (.slice a' m c') m (bytesV (putN n ++ pcsB (l.take i))) ∧ Below w.heap.size w wr) (fun _ vi _ => n - (intOf vi).toNat)
  case atStart => exact ⟨0, m0, m0, some ⟨g0, 0, none⟩, by omega, rfl, rfl, by simpa [pcsB] using H2.out.1, H2.out.2⟩
  case round =>
    clear H2
    obtain ⟨i, m, c', a', hi, rfl, rfl, hown, hbw⟩ := hrel
    have hml : m = (encS l i).size := by
      have := Bs.own hown
      rw [← encL_len, HLN.out]
      exact this.1.symm
    by_cases hlt : i < n
    · have kk : (i : Int) < (n : Int) := by omega
      obtain ⟨ab, ao, rfl, hab, hc⟩ := (HA.out.1 wr hbw).at (by omega)
      obtain ⟨p, hp⟩ : ∃ p, l[i]? = some p := ⟨_, List.getElem?_eq_getElem (by have := HLN.out; omega)⟩
      obtain ⟨hok, hp0, hp1, hp2⟩ := HA.out.2.2 p (List.mem_of_getElem? hp)
      obtain ⟨c1, c2, c3⟩ := hc i _ hp
      obtain ⟨V3, hV3, r3, hb3⟩ := box_pc (w := wr) p.copy p.n p.data
      obtain ⟨pb, hpb⟩ : ∃ pb, wr.heap.size = pb := ⟨_, rfl⟩
      rw [hpb] at r3
      have x0 : V3.cell? ⟨pb, 0, none⟩ = some (.bool p.copy) := by rw [cell_of_row _ _ _ _ _ _ r3]; rfl
      have x1 : V3.cell? ⟨pb, 1, none⟩ = some (.int .i64 p.n) := by rw [cell_of_row _ _ _ _ _ _ r3]; rfl
      have x2 : V3.cell? ⟨pb, 2, none⟩ = some (.string p.data) := by rw [cell_of_row _ _ _ _ _ _ r3]; rfl
      have HHD := head_any p V3 hp0 hp1 (by omega)
      have hhN : headN p < 18446744073709551616 := by unfold headN; split <;> omega
      have hpk := putN_le10 (headN p) hhN
      have hsn : pcsB (l.take (i + 1)) = pcsB (l.take i) ++ (putN (headN p) ++ p.data.data.toList) := by rw [pcsB_snoc hp, pcB_head hok]
      obtain ⟨hd, hhd⟩ : ∃ hd, headN p = hd := ⟨_, rfl⟩
      rw [hhd] at HHD hhN hpk hsn
      have hmb : m ≤ 200000 := by have := HA.out.2.1 i hi; omega
      obtain ⟨p1, p2, p3⟩ := p
      simp only at *
      have H3 : Hid (wr.ownsRow B 5 1 (.slice a' m c') m (bytesV (putN n ++ pcsB (l.take i))) ∧ Below w.heap.size w wr ∧ Below wr.heap.size wr V3 ∧ wr.heap.size = pb ∧ V3.heap[pb]? = some (.cells #[.bool p1, .int .i64 p2, .string p3] 48 (0, 0)) ∧ pcsB (l.take (i + 1)) = pcsB (l.take i) ++ (putN hd ++ p3.data.toList)) := ⟨hown, hbw, hb3, hpb, r3, hsn⟩
      clear hown hbw hb3 r3 hsn hc hp hok hhd hml
      go_wp2_with fail
      refine HHD.mono ?_
      rintro e V4 ⟨rfl, hb4⟩
      have HP4 := put_any none 0 0 [] hd V4 (Bs.nil V4) (by omega) (by omega)
      have H4 : Hid (Below wr.heap.size wr V4 ∧ V4.heap[pb]? = some (.cells #[.bool p1, .int .i64 p2, .string p3] 48 (0, 0))) := ⟨H3.out.2.2.1.trans (hb4.mono H3.out.2.2.1.size), (hb4.block pb (lt_of_some H3.out.2.2.2.2.1)).trans H3.out.2.2.2.2.1⟩
      clear HHD hb4
      go_wp2_with fail
      refine HP4.mono ?_
      rintro e V5 ⟨rfl, hown5, hb5⟩
      obtain ⟨m2, hm2⟩ : ∃ m2, 0 + (putN hd).length = m2 := ⟨_, rfl⟩
      rw [hm2] at hown5 ⊢
      rw [List.nil_append] at hown5
      obtain ⟨g5, hg5⟩ : ∃ g5, V4.heap.size = g5 := ⟨_, rfl⟩
      rw [hg5] at hown5 ⊢
      have hB5 : Below wr.heap.size wr V5 := H4.out.1.trans (hb5.mono H4.out.1.size)
      have r5 := (hb5.block pb (lt_of_some H4.out.2)).trans H4.out.2
      have ho5 := own_keep H3.out.1 (W' := V5) (fun j hj => hB5.block j (H3.out.1.lt j hj).2)
      have hBs : B ≤ V5.heap.size := by have := HB0.out; have := H3.out.2.1.size; have := hB5.size; omega
      obtain ⟨aA, cA, VA, hrA, hoA, hgA⟩ := addB_own V5 ho5 (Rw.own (G := fun _ => True) hown5 (fun _ _ => trivial)) (by omega) hBs
      have hobl : ∀ j, ob a' = some j → j < wr.heap.size ∧ B ≤ j := fun j hj => ⟨(H3.out.1.lt j (by rw [ob_slice]; exact hj)).2, (H3.out.1.lt j (by rw [ob_slice]; exact hj)).1⟩
      have rA : VA.heap[pb]? = some (.cells #[.bool p1, .int .i64 p2, .string p3] 48 (0, 0)) := by
        rw [hgA.block pb (lt_of_some r5) (fun hj => by have := (hobl pb hj.symm).1; have := H3.out.2.2.2.1; omega)]
        exact r5
      have y2 : VA.cell? ⟨pb, 2, none⟩ = some (.string p3) := by rw [cell_of_row _ _ _ _ _ _ rA]; rfl
      have hBA : Below w.heap.size w VA := (H3.out.2.1.trans (hB5.mono H3.out.2.1.size)).grown hgA (Nat.le_trans H3.out.2.1.size hB5.size) (fun j hj => by have := (hobl j hj).2; have := HB0.out; omega)
      have hBsA : B ≤ VA.heap.size := by have := HB0.out; have := hBA.size; omega
      obtain ⟨m3, hm3⟩ : ∃ m3, m + m2 = m3 := ⟨_, rfl⟩
      rw [hm3] at hoA hrA
      obtain ⟨aC, cC, VC, hrC, hoC, hgC⟩ := addS_own VA hoA p3 (by omega) hBsA
      obtain ⟨m4, hm4⟩ : ∃ m4, m3 + p3.size = m4 := ⟨_, rfl⟩
      rw [hm4] at hoC hrC
      have HE : Hid (VC.ownsRow B 5 1 (.slice aC m4 cC) m4 (bytesV (putN n ++ pcsB (l.take (i + 1)))) ∧ Below w.heap.size w VC) := by
        refine ⟨?_, hBA.grown hgC hBA.size (fun j hj => by have := (hoA.lt j (by rw [ob_slice]; exact hj)).1; have := HB0.out; omega)⟩
        rw [H3.out.2.2.2.2.2]
        simpa [List.append_assoc] using hoC
      clear HP4 hown5 hb5 hm2 hg5 hB5 r5 ho5 hBs hoA hgA hobl rA hBA hBsA hm3 hoC hgC hm4 x0 x1 x2 c1 c2 c3 H4
      go_wp2_with (first | (at_builtin; refine wpList_app V5 rfl _ _ _ _ rfl rfl rfl (hrA _) ?_) | (at_builtin; refine wpList_app VA rfl _ _ _ _ rfl rfl rfl (hrC _) ?_))
      exact ⟨⟨i + 1, m4, cC, aC, by omega, by go_num, by first | rfl | go_num, HE.out⟩, by simp [intOf]; omega⟩
    · obtain rfl : i = n := by omega
      have kk : ¬ (i : Int) < (i : Int) := by omega
      have HE : Hid (EnTo w (encD l) (.returned (.tuple #[.slice a' m c', .int .i64 0])) wr) := by
        refine ⟨a', m, c', rfl, ?_, hbw⟩
        rw [List.take_of_length_le (by have := HLN.out; omega)] at hown
        have := Bs.own hown
        unfold encD
        rw [HLN.out]
        exact this
      clear hown hbw hml
      go_wp2
      refine bodyPost_ret (v := .tuple #[.slice a' m c', .int .i64 0]) ?_ rfl HE.out
      simp [results, go_sem]
end Go.Proofs.YtbhnmjjfammlkaaDoor
namespace Go.Proofs.YtbhnmjjfammlkaaDoor
open Go.RowKit
theorem wsum_a (l : List UInt8) : wsum l % 65536 = wa l % 65536 := by unfold wsum; omega
theorem wsum_b (l : List UInt8) : wsum l / 65536 = wb l % 65536 := by unfold wsum; omega
/-- What comes behind a sum: of any numbers. -/
def nxtA (s : Nat) (o i : Nat) : Int := ((s % 65536 : Nat) - (o : Int) + (i : Int)) % 65536
def nxtB (s : Nat) (size : Int) (o i : Nat) : Int := ((s / 65536 : Nat) - size * (o : Int) + nxtA s o i) % 65536
def nxtI (s : Nat) (size : Int) (o i : Nat) : Int := nxtA s o i + 65536 * nxtB s size o i
theorem nxt_wsum (x : UInt8) (l : List UInt8) (c : UInt8) : nxtI (wsum (x :: l)) ((l.length + 1 : Nat) : Int) x.toNat c.toNat = (wsum (l ++ [c]) : Int) := by
  have ha : nxtA (wsum (x :: l)) x.toNat c.toNat = ((wa (l ++ [c]) % 65536 : Nat) : Int) := by
    unfold nxtA
    rw [wsum_a, wa_snoc, wa]
    omega
  have hb : nxtB (wsum (x :: l)) ((l.length + 1 : Nat) : Int) x.toNat c.toNat = ((wb (l ++ [c]) % 65536 : Nat) : Int) := by
    unfold nxtB
    rw [ha, wsum_b, wb_snoc, wa_snoc, wb]
    obtain ⟨P, hP⟩ : ∃ P : Nat, x.toNat * (l.length + 1) = P := ⟨_, rfl⟩
    have hQ : ((l.length + 1 : Nat) : Int) * (x.toNat : Int) = (P : Int) := by
      rw [← hP, Nat.mul_comm x.toNat]; simp
    rw [hP, hQ]
    omega
  unfold nxtI
  rw [ha, hb]
  unfold wsum
  omega
set_option maxHeartbeats 400000 in
theorem halves_any (x : Nat) (w : World) (hx : x < 4294967296) :
    Calls Tryd.prog 63 #[.int .u32 (x : Int)] w fun e w' => e = .returned (.tuple #[.int .u16 ((x % 65536 : Nat) : Int), .int .u16 ((x / 65536 : Nat) : Int)]) ∧ w' = w := by
  go_enter Tryd.func63, Tryd.ntmps63
  go_wp2
  go_ret2
  refine ⟨ret_val ?_, rfl⟩
  rw [wrap16]
  simp
theorem whole_int (A B : Int) (w : World) (hA : 0 ≤ A ∧ A < 65536) (hB : 0 ≤ B ∧ B < 65536) :
    Calls Tryd.prog 60 #[.int .u16 A, .int .u16 B] w fun e w' => e = .returned (.int .u32 (A + 65536 * B)) ∧ w' = w := by
  obtain ⟨a, rfl⟩ := Int.eq_ofNat_of_zero_le hA.1
  obtain ⟨b, rfl⟩ := Int.eq_ofNat_of_zero_le hB.1
  refine (rollwhole_any a b w (by omega) (by omega)).mono ?_
  rintro e w' ⟨rfl, h⟩
  exact ⟨ret_int (by omega), h⟩
theorem w16 (x : Int) : 0 ≤ IntKind.u16.wrap x ∧ IntKind.u16.wrap x < 65536 := by rw [wrap16]; omega
theorem mul16 (x o : Int) : (x % 65536 * o) % 65536 = (x * o) % 65536 := by
  rw [Int.mul_emod, Int.emod_emod_of_dvd _ (Int.dvd_refl _), ← Int.mul_emod]
theorem nxtI_nat (s : Nat) (size : Int) (o i : Nat) : ∃ n : Nat, nxtI s size o i = (n : Int) ∧ n < 4294967296 := by
  refine ⟨(nxtI s size o i).toNat, ?_, ?_⟩ <;> unfold nxtI nxtB <;> generalize size * (o : Int) = P <;> unfold nxtA <;> omega
set_option maxRecDepth 100000 in
set_option maxHeartbeats 400000 in
theorem rollnext_any (s : Nat) (size : Int) (o i : Nat) (w : World) (hs : s < 4294967296) (ho : o < 256) (hi : i < 256) :
    Calls Tryd.prog 50 #[.int .u32 (s : Int), .int .i64 size, .int .u8 (o : Int), .int .u8 (i : Int)] w fun e w' => e = .returned (.int .u32 (nxtI s size o i)) ∧ w' = w := by
  go_enter Tryd.func50, Tryd.ntmps50
  go_wp2_with (first | (go_at_call 63; refine (halves_any s _ hs).mono ?_; rintro e w' ⟨rfl, h⟩; subst w') | (go_at_call 60; refine (whole_int _ _ _ (w16 _) (w16 _)).mono ?_; rintro e w' ⟨rfl, h⟩; subst w'))
  go_ret
  refine ⟨ret_int ?_, rfl⟩
  simp only [wrap16, mul16]
  unfold nxtI nxtB nxtA
  generalize size * (o : Int) = P
  omega
end Go.Proofs.YtbhnmjjfammlkaaDoor
namespace Go.Proofs.YtbhnmjjfammlkaaDoor
open Go.RowKit
theorem byt_ba (s : ByteArray) : Pc.byt s.data.toList = ⟨false, 0, s⟩ := by
  unfold Pc.byt
  congr 1
theorem bytP_empty {s : ByteArray} (h : s.size = 0) : bytP s.data.toList = [] := by rw [size0 h]; rfl
theorem bytP_some {s : ByteArray} (h : ¬ s.size = 0) : bytP s.data.toList = [⟨false, 0, s⟩] := by
  unfold bytP
  rw [if_neg, byt_ba]
  intro e
  have := congrArg List.length e
  rw [Array.length_toList] at this
  exact h this
/-- What withBytes leaves. -/
def PwTo (w : World) (B : Nat) (l : List Pc) (e : Ending) (w' : World) : Prop := ∃ (a : Option Addr) (c : Nat), e = .returned (.slice a l.length c) ∧ w'.ownsRow B 48 3 (.slice a l.length c) l.length (pcR l) ∧ Below B w w'
theorem own_len {w : World} {B : Nat} {a : Option Addr} {n c : Nat} {l : List Pc} (h : w.ownsRow B 48 3 (.slice a n c) n (pcR l)) : l.length = n := by
  have := (Rw.own (G := fun _ => True) h (fun _ _ => trivial)).1
  unfold pcR at this
  rw [fm_len pcC_len] at this
  omega
set_option maxRecDepth 100000 in
set_option maxHeartbeats 1000000 in
theorem withb_any {w : World} {B : Nat} {a : Option Addr} {n c : Nat} {l : List Pc} (h : w.ownsRow B 48 3 (.slice a n c) n (pcR l)) (hB : B ≤ w.heap.size) (hn : n ≤ 100000) (s : ByteArray) : Calls Tryd.prog 31 #[.slice a n c, .string s] w fun e w' => PwTo w B (l ++ bytP s.data.toList) e w' := by
  have hl := own_len h
  by_cases h0 : s.size = 0
  · have hie : s.toList.isEmpty = true := by rw [size0 h0]; simp
    have HE : Hid (PwTo w B (l ++ bytP s.data.toList) (.returned (.slice a n c)) w) := by
      rw [bytP_empty h0, List.append_nil]
      exact ⟨a, c, by rw [hl], by rw [hl]; exact h, Below.refl _ _⟩
    clear h h0 hl
    go_enter Tryd.func31, Tryd.ntmps31
    go_wp2
    go_ret
    exact HE.out
  · have hie : s.toList.isEmpty = false := by have h5 := str_ne (a := s) (b := ⟨#[]⟩) (fun h => h0 (by rw [h]; rfl)); simp at h5; simpa using h5
    rw [bytP_some h0]
    obtain ⟨V4, hV4, r4, hB4⟩ := box_pc (w := w) false 0 s
    have ho4 := own_keep h (W' := V4) (fun k hk => hB4.block k (h.lt k hk).2)
    obtain ⟨aA, cA, VA, hrA, hoA, hgA, _⟩ := addH_own V4 ho4 (pcRow (p := ⟨false, 0, s⟩) r4) (by omega) (Nat.le_trans hB hB4.size)
    have HE : Hid (PwTo w B (l ++ [⟨false, 0, s⟩]) (.returned (.slice aA (n + 1) cA)) VA) := by
      refine ⟨aA, cA, by simp [hl], ?_, (hB4.mono hB).grown hgA (Nat.le_trans hB hB4.size) (fun k hk => ?_)⟩
      · have e : (l ++ [(⟨false, 0, s⟩ : Pc)]).length = n + 1 := by simp [hl]
        rw [e]
        exact hoA
      · exact (ho4.lt k (by rw [ob_slice]; exact hk)).1
    clear h h0 hl r4 hB4 ho4 hoA hgA
    go_enter Tryd.func31, Tryd.ntmps31
    go_wp2_with ((at_builtin; refine wpList_app V4 rfl _ _ _ _ rfl rfl rfl (hrA _) ?_))
    go_ret
    exact HE.out
theorem fnd_wk {L : List Sg} {s : Sg} {i : Nat} (h : fnd L s = some i) : wk L s.1 = true := (wk_iff L s.1).2 ⟨s, List.mem_of_getElem? (fndL_some (L := L) h), rfl⟩
set_option maxRecDepth 100000 in
set_option maxHeartbeats 1000000 in
theorem dfind_any {w : World} {B g : Nat} {L : List Sg} (h : Inx w B g L) (k win : ByteArray) (hk : k.size ≤ 1000000) (hw : win.size ≤ 1000000) (hL : Laid w) : Calls Tryd.prog 49 #[.string k, .pointer (some ⟨g, 0, none⟩), .int .u32 (wsum win.data.toList : Int), .string win] w fun e w' => FiTo w (fnd L (sgOf k win)) e w' := by
  have HW := weak_any h (wsum win.data.toList) (wsum_lt _)
  have HO : Hid (∀ V, Below w.heap.size w V → Calls Tryd.prog 30 #[.string k, .string win] V fun e w' => e = .returned (.agg #[.int .u32 ((sgOf k win).1 : Int), .string (sgOf k win).2]) ∧ Below V.heap.size V w') := fun V hV => one_any k win V hk hw (hL.below hV)
  have e1 : (sgOf k win).1 = wsum win.data.toList := rfl
  have hlt := wsum_lt win.data.toList
  obtain ⟨⟨s1, s2⟩, hs⟩ : ∃ s, sgOf k win = s := ⟨_, rfl⟩
  have HNW : Hid (wk L s1 = false → fnd L (s1, s2) = none) := fun hh => by
    cases hf : fnd L (s1, s2) with
    | none => rfl
    | some i =>
      have := fnd_wk hf
      rw [hh] at this
      cases this
  rw [hs] at HO e1 ⊢
  simp only at HO e1
  rw [← e1] at HW hlt ⊢
  have HI : Hid (Inx w B g L) := h
  obtain ⟨r, hr⟩ : ∃ r, fnd L (s1, s2) = r := ⟨_, rfl⟩
  rw [hr] at HNW ⊢
  have HR : Hid (fnd L (s1, s2) = r) := hr
  clear h hL hs e1 hr
  obtain ⟨b, hb⟩ : ∃ b, wk L s1 = b := ⟨_, rfl⟩
  rw [hb] at HW HNW
  clear hb
  go_enter Tryd.func49, Tryd.ntmps49
  go_wp2_with fail
  refine HW.mono ?_
  rintro e V1 ⟨rfl, hb1⟩
  have H1 : Hid (Below w.heap.size w V1) := hb1
  clear HW hb1
  cases b with
  | false =>
    have HN2 : Hid (r = none) := HNW.out rfl
    clear HNW
    go_wp2
    refine bodyPost_ret (v := .tuple #[.int .i64 0, .bool false]) ?_ rfl ⟨by rw [HN2.out]; rfl, H1.out⟩
    simp [results, go_sem]
  | true =>
    have HO1 := HO.out V1 H1.out
    clear HO HNW
    go_wp2_with fail
    refine HO1.mono ?_
    rintro e V2 ⟨rfl, hb2⟩
    have H2 : Hid (Below w.heap.size w V2) := H1.out.trans (hb2.mono H1.out.size)
    have HF := find_any (HI.out.below H2.out) s1 s2 hlt
    rw [HR.out] at HF
    obtain ⟨ri, hri⟩ : ∃ ri, ((r.getD 0 : Nat) : Int) = ri := ⟨_, rfl⟩
    obtain ⟨rb, hrb⟩ : ∃ rb, r.isSome = rb := ⟨_, rfl⟩
    have HF2 : Calls Tryd.prog 62 #[.pointer (some ⟨g, 0, none⟩), .agg #[.int .u32 (s1 : Int), .string s2]] V2 fun e w' => e = .returned (.tuple #[.int .i64 ri, .bool rb]) ∧ Below V2.heap.size V2 w' := by rw [← hri, ← hrb]; exact HF
    have HE : Hid (((r.getD 0 : Nat) : Int) = ri ∧ r.isSome = rb) := ⟨hri, hrb⟩
    clear HO1 hb2 HF hri hrb
    go_wp2_with fail
    refine HF2.mono ?_
    rintro e V3 ⟨rfl, hb3⟩
    have H3 : Hid (Below w.heap.size w V3) := H2.out.trans (hb3.mono H2.out.size)
    clear HF2 hb3
    go_wp2
    refine bodyPost_ret (v := .tuple #[.int .i64 ri, .bool rb]) ?_ rfl ⟨by rw [HE.out.1, HE.out.2], H3.out⟩
    simp [results, go_sem]
end Go.Proofs.YtbhnmjjfammlkaaDoor
