/- Walks over Encode, and over the document's Encode. -/
import Derived.Test.YtcmdcmbiilfngabDoorKH
import Derived.Test.YtcmdcmbiilfngabDoorNT
import Derived.BigQuiet
namespace Go.Proofs.YtcmdcmbiilfngabDoor
open Go.RowKit
theorem addB_own {G2 : Nat → Prop} (w : World) {base : Nat} {a : Option Addr} {n c : Nat} {l : List UInt8} (h : w.ownsRow base 5 1 (.slice a n c) n (bytesV l)) {a2 : Option Addr} {m c2 : Nat} {k : List UInt8} (h2 : Rw G2 w 5 1 a2 m c2 (bytesV k)) (hN : n + m ≤ 1000000) (hb : base ≤ w.heap.size) :
    ∃ a' c' w', (∀ ty, (Builtin.append_ #[25, 25] ty #[.slice a n c, .slice a2 m c2]).run Tryd.prog w = .ok (.slice a' (n + m) c') w') ∧ w'.ownsRow base 5 1 (.slice a' (n + m) c') (n + m) (bytesV (l ++ k)) ∧ w.grownBy w' (ob a) := by
  obtain ⟨i, hi, hz, hs, hbb⟩ := info_of info5
  rw [bytesV_append]
  obtain ⟨a', c', w', h3, h4, h5, _⟩ := app_own w 25 5 i _ 1 1 Tryd.underlying25 hi hz hs hbb rfl (by omega) h h2 (bytesV_one k) hN (by omega) hb
  exact ⟨a', c', w', h3, h4, h5⟩
theorem Bs.own {w : World} {base : Nat} {a : Option Addr} {n c : Nat} {bs : List UInt8} (h : w.ownsRow base 5 1 (.slice a n c) n (bytesV bs)) : Bs w a n c bs := by
  cases a with
  | some ad =>
    rcases h.2 with ⟨e, _⟩ | ⟨g, cap, cur, e, _⟩
    · cases e
    · cases e
      exact Bs.owned h
  | none =>
    rcases h.2 with ⟨e, h0⟩ | ⟨g, cap, cur, e, _⟩
    · cases e
      have : bs.length = 0 := by have := h.1; simpa [bytesV] using this
      obtain rfl : bs = [] := List.eq_nil_of_length_eq_zero this
      exact Bs.nil w
    · cases e
theorem Bs.rw {w : World} {a : Option Addr} {len cap : Nat} {bs : List UInt8} (h : Bs w a len cap bs) : Rw (fun _ => True) w 5 1 a len cap (bytesV bs) := by
  have h' := h
  obtain ⟨h1, h2, h3, h4, h5⟩ := h
  refine ⟨by simp [bytesV, h1], h2, by unfold maxLen; omega, fun h0 => ?_⟩
  obtain ⟨b, off, rfl, hc⟩ := h'.at h0
  refine ⟨b, off, rfl, ?_, trivial, fun j u hu => ?_⟩
  · exact World.block_lt_of_cell? w _ (hc 0 (by omega))
  · have hj : j < bs.length := by have := (List.getElem?_eq_some_iff.1 hu).1; simpa [bytesV] using this
    rw [hc j hj]
    simpa [bytesV, hj] using hu
/-- What Encode leaves of a token that may be. -/
def EnTo (w : World) (bs : List UInt8) (e : Ending) (w' : World) : Prop := ∃ (a : Option Addr) (n c : Nat), e = .returned (.tuple #[.slice a n c, .int .i64 0]) ∧ Bs w' a n c bs ∧ Below w.heap.size w w'
/-- The bytes of the first caveats. -/
def encL (t n : Int) (l : List Cv) (i : Nat) : List UInt8 := headB t n ++ putN l.length ++ cvsB (l.take i)
theorem encL_snoc (t n : Int) {l : List Cv} {i : Nat} {c : Cv} (h : l[i]? = some c) : encL t n l (i + 1) = encL t n l i ++ c.bytes := by
  unfold encL
  rw [take_snocK h, cvsB_snoc]
  simp only [List.append_assoc]
theorem encL_zero (t n : Int) (l : List Cv) : encL t n l 0 = headB t n ++ putN l.length := by simp [encL, cvsB]
theorem encL_len {t n : Int} {l : List Cv} (ht : t ≤ 9223372036854775807) (hn : n ≤ 9223372036854775807) (hl : l.length ≤ 8) (hok : ∀ c ∈ l, c.ok = true) : ∀ i, i ≤ l.length → (encL t n l i).length ≤ 30 + 100 * i
  | 0, _ => by
    rw [encL_zero, List.length_append]
    have h1 := head_len ht hn
    have h2 := putN_le10 l.length (by omega)
    omega
  | i + 1, hi => by
    obtain ⟨c, hc⟩ : ∃ c, l[i]? = some c := ⟨_, List.getElem?_eq_getElem (by omega)⟩
    rw [encL_snoc t n hc, List.length_append]
    have h1 := encL_len ht hn hl hok i (by omega)
    have h2 := cvbytes_len (hok c (List.mem_of_getElem? hc))
    omega
theorem enc_all (t n : Int) (l : List Cv) (s : ByteArray) : encT ⟨t, n, l, s⟩ = encL t n l l.length ++ textN s.data.toList := by
  unfold encT encL
  rw [List.take_of_length_le (Nat.le_refl _)]
set_option maxRecDepth 100000 in
set_option maxHeartbeats 2000000 in
theorem cenc_no {w : World} {a : Option Addr} {ln cp : Nat} {l : List Cv} (t n : Int) (s : ByteArray) (h : Kw w a ln cp l) (hp : ∀ c ∈ l, c.path.size ≤ 9223372036854775807) (hm : mayT ⟨t, n, l, s⟩ = false) : Calls Tryd.prog 9 #[.agg #[.int .i64 t, .int .i64 n, .slice a ln cp, .string s]] w fun e w' => e = .returned (.tuple #[.slice none 0 0, .int .i64 1]) ∧ Below w.heap.size w w' := by
  obtain ⟨pb, hpb⟩ : ∃ pb, w.heap.size = pb := ⟨_, rfl⟩
  obtain ⟨V1, hV1, r1, hb1⟩ := box_tk (w := w) t n a ln cp s
  rw [hpb] at r1
  have HK : Hid (∀ W, Below V1.heap.size V1 W → W.cell? ⟨pb, 0, none⟩ = some (.int .i64 t) ∧ W.cell? ⟨pb, 1, none⟩ = some (.int .i64 n) ∧ W.cell? ⟨pb, 2, none⟩ = some (.slice a ln cp) ∧ W.cell? ⟨pb, 3, none⟩ = some (.string s)) := fun W hW => by
    obtain ⟨e0, e1, e2, e3, _⟩ := row4 ((hW.block pb (lt_of_some r1)).trans r1)
    exact ⟨e0, e1, e2, e3⟩
  obtain ⟨y0, y1, y2, y3⟩ := HK.out V1 (Below.refl _ _)
  have HB : Hid (Below w.heap.size w V1) := hb1
  have HM := cmay_any t n s (h.below hb1) hp
  rw [hm] at HM
  unfold YeTo at HM
  clear r1 hb1 h hm
  go_enter Tryd.func9, Tryd.ntmps9
  go_wp2_with fail
  refine HM.mono ?_
  rintro e V2 ⟨rfl, hb2⟩
  have HE : Hid (Below w.heap.size w V2) := HB.out.trans (hb2.mono HB.out.size)
  clear HM hb2 y0 y1 y2 y3
  go_wp2
  refine bodyPost_ret (v := .tuple #[.slice none 0 0, .int .i64 1]) ?_ rfl ⟨rfl, HE.out⟩
  simp [results, go_sem]
set_option maxRecDepth 100000 in
set_option maxHeartbeats 4000000 in
theorem cenc_ok {w : World} {a : Option Addr} {ln cp : Nat} {l : List Cv} (t n : Nat) (s : ByteArray) (h : Kw w a ln cp l) (hm : mayT ⟨(t : Int), (n : Int), l, s⟩ = true) : Calls Tryd.prog 9 #[.agg #[.int .i64 (t : Int), .int .i64 (n : Int), .slice a ln cp, .string s]] w fun e w' => EnTo w (encT ⟨(t : Int), (n : Int), l, s⟩) e w' := by
  have hl := h.len
  obtain ⟨pb, hpb⟩ : ∃ pb, w.heap.size = pb := ⟨_, rfl⟩
  obtain ⟨V1, hV1, r1, hb1⟩ := box_tk (w := w) (t : Int) (n : Int) a ln cp s
  rw [hpb] at r1
  have HK : Hid (∀ W, Below V1.heap.size V1 W → W.cell? ⟨pb, 0, none⟩ = some (.int .i64 (t : Int)) ∧ W.cell? ⟨pb, 1, none⟩ = some (.int .i64 (n : Int)) ∧ W.cell? ⟨pb, 2, none⟩ = some (.slice a ln cp) ∧ W.cell? ⟨pb, 3, none⟩ = some (.string s)) := fun W hW => by
    obtain ⟨e0, e1, e2, e3, _⟩ := row4 ((hW.block pb (lt_of_some r1)).trans r1)
    exact ⟨e0, e1, e2, e3⟩
  obtain ⟨y0, y1, y2, y3⟩ := HK.out V1 (Below.refl _ _)
  have HB : Hid (Below w.heap.size w V1) := hb1
  have hmi := may_iff.1 hm
  have hki := known_iff.1 hmi.1
  simp only at hmi hki
  have hok := hmi.2.2.2
  have HM := cmay_any (t : Int) (n : Int) s (h.below hb1) (fun c hc => by have := ok_path (hok c hc); omega)
  rw [hm] at HM
  unfold YeTo at HM
  have HR : Hid (∀ W, Below V1.heap.size V1 W → Kw W a ln cp l) := fun W hW => h.below (hb1.trans (hW.mono hb1.size))
  have HNB : Hid (∀ W, Calls Tryd.prog 23 #[.agg #[.int .i64 (t : Int), .int .i64 (n : Int), .slice a ln cp, .string s]] W fun e w' => ByTo W (headB t n) e w') := fun W => nbytes_any t n a ln cp s W (by omega) (by omega)
  have hln8 : ln ≤ 8 := by omega
  have HLL : Hid (l.length = ln ∧ (∀ c ∈ l, c.ok = true) ∧ (headB (t : Int) (n : Int)).length ≤ 20 ∧ (∀ i, i ≤ ln → (encL t n l i).length ≤ 30 + 100 * i) ∧ s.size = 32) := ⟨hl, hok, head_len (by omega) (by omega), fun i hi => encL_len (by omega) (by omega) (by omega) hok i (by omega), hmi.2.2.1⟩
  have wl : IntKind.u64.wrap (ln : Int) = (ln : Int) := by rw [IntKind.wrap_u64]; omega
  have hpn := putN_le10 ln (by omega)
  obtain ⟨B, hBs⟩ : ∃ B, V1.heap.size = B := ⟨_, rfl⟩
  have HB0 : Hid (V1.heap.size = B) := hBs
  have HEN : Hid (encT ⟨(t : Int), (n : Int), l, s⟩ = encL t n l ln ++ textN s.data.toList) := by rw [← hl]; exact enc_all _ _ _ _
  clear r1 hb1 h hm hmi hki hok hl hBs
  go_enter Tryd.func9, Tryd.ntmps9
  go_wp2_with fail
  refine HM.mono ?_
  rintro e V2 ⟨rfl, hb2⟩
  have H2 : Hid (Below V1.heap.size V1 V2) := hb2
  clear HM hb2 y0 y1 y2 y3
  go_wp2
  refine wp_region_held_drew (S := fun W => W.cell? ⟨pb, 0, none⟩ = some (.int .i64 (t : Int)) ∧ W.cell? ⟨pb, 1, none⟩ = some (.int .i64 (n : Int)) ∧ W.cell? ⟨pb, 2, none⟩ = some (.slice a ln cp) ∧ W.cell? ⟨pb, 3, none⟩ = some (.string s)) (by kernel_rfl) (HK.out V2.drew H2.out.drew) (fun hHeld => ?_)
  refine wpAnyH_take (i := 0) (v := ?va_0) rfl (by kernel_rfl) (by kernel_rfl) (by kernel_rfl) (fun _ _ _ h => h) (Or.inl ⟨by first | kernel_rfl | rfl, ?ya_0⟩) hHeld ?ra_0
  case ya_0 => (intro W hSW; (try dsimp only at hSW); go_simp; (try with_reducible rfl))
  change wpAnyH _ _ _ _ _ _ _ (Act.put _ (some 10) _) _
  simp only [Act.put, List.setIfInBounds_toArray, List.set_cons_zero, List.set_cons_succ]
  refine wpAnyH_take (i := 2) (v := ?va_2) rfl (by kernel_rfl) (by kernel_rfl) (by kernel_rfl) (fun _ _ _ h => h) (Or.inl ⟨by first | kernel_rfl | rfl, ?ya_2⟩) hHeld ?ra_2
  case ya_2 => (intro W hSW; (try dsimp only at hSW); go_simp; (try with_reducible rfl))
  change wpAnyH _ _ _ _ _ _ _ (Act.put _ (some 12) _) _
  simp only [Act.put, List.setIfInBounds_toArray, List.set_cons_zero, List.set_cons_succ]
  refine wpAnyH_take (i := 3) (v := ?va_3) rfl (by kernel_rfl) (by kernel_rfl) (by kernel_rfl) (fun _ _ _ h => h) (Or.inl ⟨by first | kernel_rfl | rfl, ?ya_3⟩) hHeld ?ra_3
  case ya_3 => (intro W hSW; (try dsimp only at hSW); go_simp; (try with_reducible rfl))
  change wpAnyH _ _ _ _ _ _ _ (Act.put _ (some 13) _) _
  simp only [Act.put, List.setIfInBounds_toArray, List.set_cons_zero, List.set_cons_succ]
  refine wpAnyH_take (i := 4) (v := ?va_4) rfl (by kernel_rfl) (by kernel_rfl) (by kernel_rfl) (fun _ _ _ h => h) (Or.inl ⟨by first | kernel_rfl | rfl, ?ya_4⟩) hHeld ?ra_4
  case ya_4 => (intro W hSW; (try dsimp only at hSW); go_simp; (try with_reducible rfl))
  change wpAnyH _ _ _ _ _ _ _ (Act.put _ (some 14) _) _
  simp only [Act.put, List.setIfInBounds_toArray, List.set_cons_zero, List.set_cons_succ]
  refine wpAnyH_take (i := 5) (v := ?va_5) rfl (by kernel_rfl) (by kernel_rfl) (by kernel_rfl) (fun _ _ _ h => h) (Or.inl ⟨by first | kernel_rfl | rfl, ?ya_5⟩) hHeld ?ra_5
  case ya_5 => (intro W hSW; (try dsimp only at hSW); go_simp; (try with_reducible rfl))
  change wpAnyH _ _ _ _ _ _ _ (Act.put _ (some 15) _) _
  simp only [Act.put, List.setIfInBounds_toArray, List.set_cons_zero, List.set_cons_succ]
  refine wpAnyH_ready (rs := [1]) (by kernel_rfl) (by simp) ?_
  refine AllReadyH.cons rfl (fun K hK => ?_) AllReadyH.nil
  go_simp
  refine (HNB.out V2.drew).mono ?_
  rintro e V3 ⟨a3, n3, c3, rfl, hbs3, hb3⟩
  refine hK.out _ _ (HK.out V3 (H2.out.drew.trans (hb3.mono H2.out.drew.size))) (fun hHeld => ?_)
  clear hK K
  try simp only [Act.put, List.setIfInBounds_toArray, List.set_cons_zero, List.set_cons_succ]
  have hB3 : Below V1.heap.size V1 V3 := H2.out.drew.trans (hb3.mono H2.out.drew.size)
  have hn3 : n3 ≤ 20 := by have := hbs3.1; have := HLL.out.2.2.1; omega
  have HP3 := put_any a3 n3 c3 _ ln V3 hbs3 (by omega) (by omega)
  have H3 : Hid (Below V1.heap.size V1 V3 ∧ (headB (t : Int) (n : Int)).length = n3) := ⟨hB3, hbs3.1⟩
  clear hbs3 hb3 hB3
  refine wpAnyH_ready (rs := [6]) (by kernel_rfl) (by simp) ?_
  refine AllReadyH.cons rfl (fun K hK => ?_) AllReadyH.nil
  go_simp
  refine (HP3).mono ?_
  rintro e V4 ⟨rfl, ho4, hb4⟩
  refine hK.out _ _ (HK.out V4 (H3.out.1.trans (hb4.mono H3.out.1.size))) (fun hHeld => ?_)
  clear hK K
  try simp only [Act.put, List.setIfInBounds_toArray, List.set_cons_zero, List.set_cons_succ]
  have hB4 : Below V1.heap.size V1 V4 := H3.out.1.trans (hb4.mono H3.out.1.size)
  obtain ⟨m4, hm4⟩ : ∃ m4, n3 + (putN ln).length = m4 := ⟨_, rfl⟩
  obtain ⟨g4, hg4⟩ : ∃ g4, V3.heap.size = g4 := ⟨_, rfl⟩
  rw [hm4, hg4] at ho4 ⊢
  have H4 : Hid (V4.ownsRow B 5 1 (.slice (some ⟨g4, 0, none⟩) m4 m4) m4 (bytesV (encL t n l 0)) ∧ Below V1.heap.size V1 V4) := ⟨by
    rw [encL_zero, HLL.out.1]
    exact own_base ho4 (by rw [← hg4, ← HB0.out]; exact H3.out.1.size), hB4⟩
  clear ho4 hb4 hB4 HP3 hm4 hg4
  refine wpAnyH_take (i := 7) (v := ?va_7) rfl (by kernel_rfl) (by kernel_rfl) (by kernel_rfl) (fun _ _ _ h => h) (Or.inl ⟨by first | kernel_rfl | rfl, ?ya_7⟩) hHeld ?ra_7
  case ya_7 => (intro W hSW; (try dsimp only at hSW); go_simp; (try with_reducible rfl))
  change wpAnyH _ _ _ _ _ _ _ (Act.put _ (some 4) _) _
  simp only [Act.put, List.setIfInBounds_toArray, List.set_cons_zero, List.set_cons_succ]
  refine wpAnyH_done (by kernel_rfl) ?_ _
  obtain ⟨y0, y1, y2, y3⟩ := HK.out V4 H4.out.2
  go_wp2
  go_loopw [4, 20] (fun vo vi wr => ∃ (i m c' : Nat) (a' : Option Addr), i ≤ ln ∧ vi = .int .i64 i ∧ vo = .slice a' m c' ∧ wr.ownsRow B 5 1 (.slice a' m c') m (bytesV (encL t n l i)) ∧ Below V1.heap.size V1 wr) (fun _ vi _ => ln - (intOf vi).toNat)
  case atStart => exact ⟨0, m4, m4, some ⟨g4, 0, none⟩, by omega, rfl, rfl, H4.out⟩
  case round =>
  obtain ⟨i, m, c', a', hi, rfl, rfl, hown, hbw⟩ := hrel
  clear y0 y1 y2 y3
  obtain ⟨y0, y1, y2, y3⟩ := HK.out wr hbw
  have hmb : m ≤ 900 := by have h9 := (Bs.own hown).1; have := HLL.out.2.2.2.1 i hi; omega
  by_cases hlt : i < ln
  · have kk : (i : Int) < (ln : Int) := by omega
    obtain ⟨ab, ao, rfl, _, hc⟩ := (HR.out wr hbw).at (by omega)
    obtain ⟨⟨c1, c2, c3⟩, hci⟩ : ∃ c, l[i]? = some c := ⟨_, List.getElem?_eq_getElem (by have := HLL.out.1; omega)⟩
    obtain ⟨d0, d1, d2⟩ := hc i _ hci
    have hcok := HLL.out.2.1 _ (List.mem_of_getElem? hci)
    have hcp := ok_path hcok
    have hco := Cv.ok_iff.1 hcok
    have hcl := cvbytes_len hcok
    simp only at d0 d1 d2 hcp hco
    obtain ⟨V5, hV5, r5, hb5⟩ := box_cv (w := wr) c1 c2 c3
    obtain ⟨qb, hqb⟩ : ∃ qb, wr.heap.size = qb := ⟨_, rfl⟩
    rw [hqb] at r5
    obtain ⟨x0, x1, x2, _⟩ := row3 r5
    have HC := cbytes_any ⟨c1, c2, c3⟩ V5 (by simp only; omega) (by simp only; omega) (by simp only; omega)
    simp only at HC
    have H5 : Hid (wr.ownsRow B 5 1 (.slice a' m c') m (bytesV (encL t n l i)) ∧ Below V1.heap.size V1 wr ∧ Below wr.heap.size wr V5 ∧ encL t n l (i + 1) = encL t n l i ++ (⟨c1, c2, c3⟩ : Cv).bytes ∧ (⟨c1, c2, c3⟩ : Cv).bytes.length ≤ 100) := ⟨hown, hbw, hb5, encL_snoc _ _ hci, hcl⟩
    clear hown hbw hb5 r5 hc hci hcok hco hcl
    go_wp2_with fail
    refine HC.mono ?_
    rintro e V6 ⟨a6, n6, c6, rfl, hbs6, hb6⟩
    have hB6 : Below wr.heap.size wr V6 := H5.out.2.2.1.trans (hb6.mono H5.out.2.2.1.size)
    have ho6 := own_keep H5.out.1 (W' := V6) (fun j hj => hB6.block j (H5.out.1.lt j hj).2)
    have hB1 : Below V1.heap.size V1 V6 := H5.out.2.1.trans (hB6.mono H5.out.2.1.size)
    have hn6 : n6 ≤ 100 := by have := hbs6.1; have := H5.out.2.2.2.2; omega
    obtain ⟨aA, cA, VA, hrA, hoA, hgA⟩ := addB_own V6 ho6 hbs6.rw (by omega) (by rw [← HB0.out]; exact hB1.size)
    obtain ⟨mA, hmA⟩ : ∃ mA, m + n6 = mA := ⟨_, rfl⟩
    rw [hmA] at hrA hoA
    have HE : Hid (VA.ownsRow B 5 1 (.slice aA mA cA) mA (bytesV (encL t n l (i + 1))) ∧ Below V1.heap.size V1 VA) := by
      refine ⟨by rw [H5.out.2.2.2.1]; exact hoA, hB1.grown hgA hB1.size (fun j hj => by have := (ho6.lt j (by rw [ob_slice]; exact hj)).1; have := HB0.out; omega)⟩
    clear HC hbs6 hb6 hB6 ho6 hB1 hoA hgA hmA x0 x1 x2 d0 d1 d2
    go_wp2_with (at_builtin; refine wpList_app V6 rfl _ _ _ _ rfl rfl rfl (hrA _) ?_)
    exact ⟨⟨i + 1, mA, cA, aA, by omega, by go_num, by first | rfl | go_num, HE.out⟩, by simp [intOf]; omega⟩
  · obtain rfl : i = ln := by omega
    have kk : ¬ (i : Int) < (i : Int) := by omega
    have HT := ptext_by a' m c' _ s wr (Bs.own hown) (by omega) (by have := HLL.out.2.2.2.2; omega)
    rw [← HEN.out] at HT
    have H5 : Hid (Below V1.heap.size V1 wr) := hbw
    clear hown hbw
    go_wp2_with fail
    refine HT.mono ?_
    rintro e V6 ⟨a6, n6, c6, rfl, hbs6, hb6⟩
    have HE : Hid (EnTo w (encT ⟨(t : Int), (n : Int), l, s⟩) (.returned (.tuple #[.slice a6 n6 c6, .int .i64 0])) V6) := ⟨a6, n6, c6, rfl, hbs6, HB.out.trans ((H5.out.trans (hb6.mono H5.out.size)).mono HB.out.size)⟩
    clear HT hbs6 hb6 y0 y1 y2 y3
    go_wp2
    refine bodyPost_ret (v := .tuple #[.slice a6 n6 c6, .int .i64 0]) ?_ rfl HE.out
    simp [results, go_sem]
set_option maxRecDepth 100000 in
set_option maxHeartbeats 4000000 in
theorem renc_any {w : World} {a : Option Addr} {ln cp : Nat} {l : List Cv} (t n : Nat) (s : ByteArray) (h : Kw w a ln cp l) (hm : mayT ⟨(t : Int), (n : Int), l, s⟩ = true) : Calls Tryd.prog 11 #[.agg #[.int .i64 (t : Int), .int .i64 (n : Int), .slice a ln cp, .string s]] w fun e w' => StTo w (encT ⟨(t : Int), (n : Int), l, s⟩) e w' := by
  have hl := h.len
  obtain ⟨pb, hpb⟩ : ∃ pb, w.heap.size = pb := ⟨_, rfl⟩
  obtain ⟨V1, hV1, r1, hb1⟩ := box_tk (w := w) (t : Int) (n : Int) a ln cp s
  rw [hpb] at r1
  have HK : Hid (∀ W, Below V1.heap.size V1 W → W.cell? ⟨pb, 0, none⟩ = some (.int .i64 (t : Int)) ∧ W.cell? ⟨pb, 1, none⟩ = some (.int .i64 (n : Int)) ∧ W.cell? ⟨pb, 2, none⟩ = some (.slice a ln cp) ∧ W.cell? ⟨pb, 3, none⟩ = some (.string s)) := fun W hW => by
    obtain ⟨e0, e1, e2, e3, _⟩ := row4 ((hW.block pb (lt_of_some r1)).trans r1)
    exact ⟨e0, e1, e2, e3⟩
  obtain ⟨y0, y1, y2, y3⟩ := HK.out V1 (Below.refl _ _)
  have HB : Hid (Below w.heap.size w V1) := hb1
  have hmi := may_iff.1 hm
  have hki := known_iff.1 hmi.1
  simp only at hmi hki
  have hok := hmi.2.2.2
  have HR : Hid (∀ W, Below V1.heap.size V1 W → Kw W a ln cp l) := fun W hW => h.below (hb1.trans (hW.mono hb1.size))
  have hln8 : ln ≤ 8 := by omega
  have hhl := head_len (t := (t : Int)) (n := (n : Int)) (by omega) (by omega)
  have HLL : Hid (l.length = ln ∧ (∀ c ∈ l, c.ok = true) ∧ (∀ i, i ≤ ln → (encL t n l i).length ≤ 30 + 100 * i) ∧ s.size = 32) := ⟨hl, hok, fun i hi => encL_len (by omega) (by omega) (by omega) hok i (by omega), hmi.2.2.1⟩
  have wl : IntKind.u64.wrap (ln : Int) = (ln : Int) := by rw [IntKind.wrap_u64]; omega
  have hpn := putN_le10 ln (by omega)
  obtain ⟨A, hA⟩ : ∃ A, strOf (headB (t : Int) (n : Int)) = A := ⟨_, rfl⟩
  obtain ⟨C, hC⟩ : ∃ C, strOf (putN ln) = C := ⟨_, rfl⟩
  have HHD : Hid (∀ W, Calls Tryd.prog 28 #[.int .i64 (t : Int), .int .i64 (n : Int)] W fun e w' => e = .returned (.string A) ∧ Below W.heap.size W w') := fun W => by rw [← hA]; exact rhead_any t n W (by omega) (by omega)
  have HPU : Hid (∀ W, Calls Tryd.prog 29 #[.int .u64 (ln : Int)] W fun e w' => e = .returned (.string C) ∧ Below W.heap.size W w') := fun W => by rw [← hC]; exact rput_st ln W (by omega)
  have hov : ¬ 9223372036854775807 < A.size + C.size := by rw [← hA, ← hC, strOf_size, strOf_size]; omega
  have HAC : Hid (A ++ C = strOf (encL t n l 0)) := by show _ = _; rw [encL_zero, hl, strOf_append, hA, hC]
  have HEN : Hid (encT ⟨(t : Int), (n : Int), l, s⟩ = encL t n l ln ++ textN s.data.toList) := by rw [← hl]; exact enc_all _ _ _ _
  clear r1 hb1 h hm hmi hki hok hl hA hC hhl
  go_enter Tryd.func11, Tryd.ntmps11
  go_wp2
  refine wp_region_held_drew (S := fun W => W.cell? ⟨pb, 0, none⟩ = some (.int .i64 (t : Int)) ∧ W.cell? ⟨pb, 1, none⟩ = some (.int .i64 (n : Int)) ∧ W.cell? ⟨pb, 2, none⟩ = some (.slice a ln cp) ∧ W.cell? ⟨pb, 3, none⟩ = some (.string s)) (by kernel_rfl) (HK.out V1.drew (Below.refl _ V1).drew) (fun hHeld => ?_)
  refine wpAnyH_take (i := 0) (v := ?vb_0) rfl (by kernel_rfl) (by kernel_rfl) (by kernel_rfl) (fun _ _ _ h => h) (Or.inl ⟨by first | kernel_rfl | rfl, ?yb_0⟩) hHeld ?rb_0
  case yb_0 => (intro W hSW; (try dsimp only at hSW); go_simp; (try with_reducible rfl))
  change wpAnyH _ _ _ _ _ _ _ (Act.put _ (some 5) _) _
  simp only [Act.put, List.setIfInBounds_toArray, List.set_cons_zero, List.set_cons_succ]
  refine wpAnyH_take (i := 1) (v := ?vb_1) rfl (by kernel_rfl) (by kernel_rfl) (by kernel_rfl) (fun _ _ _ h => h) (Or.inl ⟨by first | kernel_rfl | rfl, ?yb_1⟩) hHeld ?rb_1
  case yb_1 => (intro W hSW; (try dsimp only at hSW); go_simp; (try with_reducible rfl))
  change wpAnyH _ _ _ _ _ _ _ (Act.put _ (some 6) _) _
  simp only [Act.put, List.setIfInBounds_toArray, List.set_cons_zero, List.set_cons_succ]
  refine wpAnyH_take (i := 2) (v := ?vb_2) rfl (by kernel_rfl) (by kernel_rfl) (by kernel_rfl) (fun _ _ _ h => h) (Or.inl ⟨by first | kernel_rfl | rfl, ?yb_2⟩) hHeld ?rb_2
  case yb_2 => (intro W hSW; (try dsimp only at hSW); go_simp; (try with_reducible rfl))
  change wpAnyH _ _ _ _ _ _ _ (Act.put _ (some 7) _) _
  simp only [Act.put, List.setIfInBounds_toArray, List.set_cons_zero, List.set_cons_succ]
  refine wpAnyH_take (i := 3) (v := ?vb_3) rfl (by kernel_rfl) (by kernel_rfl) (by kernel_rfl) (fun _ _ _ h => h) (Or.inl ⟨by first | kernel_rfl | rfl, ?yb_3⟩) hHeld ?rb_3
  case yb_3 => (intro W hSW; (try dsimp only at hSW); go_simp; (try with_reducible rfl))
  change wpAnyH _ _ _ _ _ _ _ (Act.put _ (some 8) _) _
  simp only [Act.put, List.setIfInBounds_toArray, List.set_cons_zero, List.set_cons_succ]
  refine wpAnyH_take (i := 5) (v := ?vb_5) rfl (by kernel_rfl) (by kernel_rfl) (by kernel_rfl) (fun _ _ _ h => h) (Or.inl ⟨by first | kernel_rfl | rfl, ?yb_5⟩) hHeld ?rb_5
  case yb_5 => (intro W hSW; (try dsimp only at hSW); go_simp; (try with_reducible rfl))
  change wpAnyH _ _ _ _ _ _ _ (Act.put _ (some 10) _) _
  simp only [Act.put, List.setIfInBounds_toArray, List.set_cons_zero, List.set_cons_succ]
  refine wpAnyH_take (i := 6) (v := ?vb_6) rfl (by kernel_rfl) (by kernel_rfl) (by kernel_rfl) (fun _ _ _ h => h) (Or.inl ⟨by first | kernel_rfl | rfl, ?yb_6⟩) hHeld ?rb_6
  case yb_6 => (intro W hSW; (try dsimp only at hSW); go_simp; (try with_reducible rfl))
  change wpAnyH _ _ _ _ _ _ _ (Act.put _ (some 11) _) _
  simp only [Act.put, List.setIfInBounds_toArray, List.set_cons_zero, List.set_cons_succ]
  refine wpAnyH_take (i := 7) (v := ?vb_7) rfl (by kernel_rfl) (by kernel_rfl) (by kernel_rfl) (fun _ _ _ h => h) (Or.inl ⟨by first | kernel_rfl | rfl, ?yb_7⟩) hHeld ?rb_7
  case yb_7 => (intro W hSW; (try dsimp only at hSW); go_simp; (try with_reducible rfl))
  change wpAnyH _ _ _ _ _ _ _ (Act.put _ (some 12) _) _
  simp only [Act.put, List.setIfInBounds_toArray, List.set_cons_zero, List.set_cons_succ]
  refine wpAnyH_take (i := 8) (v := ?vb_8) rfl (by kernel_rfl) (by kernel_rfl) (by kernel_rfl) (fun _ _ _ h => h) (Or.inl ⟨by first | kernel_rfl | rfl, ?yb_8⟩) hHeld ?rb_8
  case yb_8 => (intro W hSW; (try dsimp only at hSW); go_simp; (try with_reducible rfl))
  change wpAnyH _ _ _ _ _ _ _ (Act.put _ (some 13) _) _
  simp only [Act.put, List.setIfInBounds_toArray, List.set_cons_zero, List.set_cons_succ]
  refine wpAnyH_ready (rs := [4]) (by kernel_rfl) (by simp) ?_
  refine AllReadyH.cons rfl (fun K hK => ?_) AllReadyH.nil
  go_simp
  refine (HHD.out V1.drew).mono ?_
  rintro e V2 ⟨rfl, hb2⟩
  refine hK.out _ _ (HK.out V2 ((Below.refl _ V1).drew.trans hb2)) (fun hHeld => ?_)
  clear hK K
  try simp only [Act.put, List.setIfInBounds_toArray, List.set_cons_zero, List.set_cons_succ]
  have H2 : Hid (Below V1.heap.size V1 V2) := (Below.refl _ V1).drew.trans hb2
  clear hb2
  refine wpAnyH_ready (rs := [9]) (by kernel_rfl) (by simp) ?_
  refine AllReadyH.cons rfl (fun K hK => ?_) AllReadyH.nil
  go_simp
  refine (HPU.out V2).mono ?_
  rintro e V3 ⟨rfl, hb3⟩
  refine hK.out _ _ (HK.out V3 (H2.out.trans (hb3.mono H2.out.size))) (fun hHeld => ?_)
  clear hK K
  try simp only [Act.put, List.setIfInBounds_toArray, List.set_cons_zero, List.set_cons_succ]
  have H3 : Hid (Below V1.heap.size V1 V3) := H2.out.trans (hb3.mono H2.out.size)
  clear hb3
  refine wpAnyH_take (i := 10) (v := ?vb_10) rfl (by kernel_rfl) (by kernel_rfl) (by kernel_rfl) (fun _ _ _ h => h) (Or.inl ⟨by first | kernel_rfl | rfl, ?yb_10⟩) hHeld ?rb_10
  case yb_10 => (intro W hSW; (try dsimp only at hSW); go_simp; (try with_reducible rfl))
  change wpAnyH _ _ _ _ _ _ _ (Act.put _ (some 15) _) _
  simp only [Act.put, List.setIfInBounds_toArray, List.set_cons_zero, List.set_cons_succ]
  refine wpAnyH_take (i := 11) (v := ?vb_11) rfl (by kernel_rfl) (by kernel_rfl) (by kernel_rfl) (fun _ _ _ h => h) (Or.inl ⟨by first | kernel_rfl | rfl, ?yb_11⟩) hHeld ?rb_11
  case yb_11 => (intro W hSW; (try dsimp only at hSW); go_simp; (try with_reducible rfl))
  change wpAnyH _ _ _ _ _ _ _ (Act.put _ (some 3) _) _
  simp only [Act.put, List.setIfInBounds_toArray, List.set_cons_zero, List.set_cons_succ]
  refine wpAnyH_done (by kernel_rfl) ?_ _
  clear y0 y1 y2 y3
  obtain ⟨y0, y1, y2, y3⟩ := HK.out V3 H3.out
  go_wp2
  go_loopw [3, 4] (fun vo vi wr => ∃ (i : Nat), i ≤ ln ∧ vi = .int .i64 i ∧ vo = .string (strOf (encL t n l i)) ∧ Below V1.heap.size V1 wr) (fun _ vi _ => ln - (intOf vi).toNat)
  case atStart => exact ⟨0, by omega, rfl, by rw [← HAC.out], H3.out⟩
  case round =>
  obtain ⟨i, hi, rfl, rfl, hbw⟩ := hrel
  clear y0 y1 y2 y3
  obtain ⟨y0, y1, y2, y3⟩ := HK.out wr hbw
  obtain ⟨Y, hY⟩ : ∃ Y, strOf (encL (t : Int) (n : Int) l i) = Y := ⟨_, rfl⟩
  rw [hY]
  have hYs : Y.size ≤ 900 := by rw [← hY, strOf_size]; have := HLL.out.2.2.1 i hi; omega
  by_cases hlt : i < ln
  · have kk : (i : Int) < (ln : Int) := by omega
    obtain ⟨ab, ao, rfl, _, hc⟩ := (HR.out wr hbw).at (by omega)
    obtain ⟨⟨c1, c2, c3⟩, hci⟩ : ∃ c, l[i]? = some c := ⟨_, List.getElem?_eq_getElem (by have := HLL.out.1; omega)⟩
    obtain ⟨d0, d1, d2⟩ := hc i _ hci
    have hcok := HLL.out.2.1 _ (List.mem_of_getElem? hci)
    have hcp := ok_path hcok
    have hco := Cv.ok_iff.1 hcok
    have hcl := cvbytes_len hcok
    simp only at d0 d1 d2 hcp hco
    have HC := rbytes_any ⟨c1, c2, c3⟩ wr (by simp only; omega) (by simp only; omega) (by simp only; omega)
    simp only at HC
    obtain ⟨X, hX⟩ : ∃ X, strOf (⟨c1, c2, c3⟩ : Cv).bytes = X := ⟨_, rfl⟩
    unfold StTo at HC
    rw [hX] at HC
    have ov2 : ¬ 9223372036854775807 < Y.size + X.size := by rw [← hX, strOf_size]; omega
    have H5 : Hid (Below V1.heap.size V1 wr ∧ strOf (encL t n l (i + 1)) = Y ++ X) := ⟨hbw, by rw [encL_snoc _ _ hci, strOf_append, hY, hX]⟩
    clear hbw hc hci hcok hco hcl hX hY
    go_wp2_with fail
    refine HC.mono ?_
    rintro e V6 ⟨rfl, hb6⟩
    have HE : Hid (Below V1.heap.size V1 V6) := H5.out.1.trans (hb6.mono H5.out.1.size)
    clear HC hb6 d0 d1 d2
    go_wp2
    exact ⟨⟨i + 1, by omega, by go_num, by rw [H5.out.2], HE.out⟩, by simp [intOf]; omega⟩
  · obtain rfl : i = ln := by omega
    have kk : ¬ (i : Int) < (i : Int) := by omega
    have HT := rtext_st s wr (by have := HLL.out.2.2.2; omega)
    obtain ⟨X, hX⟩ : ∃ X, strOf (textN s.data.toList) = X := ⟨_, rfl⟩
    unfold StTo at HT
    rw [hX] at HT
    have hXs : X.size ≤ 100 := by
      rw [← hX, strOf_size]
      have h8 : s.data.toList.length = 32 := by rw [Array.length_toList]; exact HLL.out.2.2.2
      have := textN_len (l := s.data.toList) (by omega)
      omega
    have ov2 : ¬ 9223372036854775807 < Y.size + X.size := by omega
    have H5 : Hid (Below V1.heap.size V1 wr ∧ strOf (encT ⟨(t : Int), (n : Int), l, s⟩) = Y ++ X) := ⟨hbw, by rw [HEN.out, strOf_append, hY, hX]⟩
    clear hbw hX hY
    go_wp2_with fail
    refine HT.mono ?_
    rintro e V6 ⟨rfl, hb6⟩
    have HE : Hid (StTo w (encT ⟨(t : Int), (n : Int), l, s⟩) (.returned (.string (Y ++ X))) V6) := ⟨by rw [H5.out.2], HB.out.trans ((H5.out.1.trans (hb6.mono H5.out.1.size)).mono HB.out.size)⟩
    clear HT hb6 y0 y1 y2 y3
    go_wp2
    go_ret
    exact HE.out
end Go.Proofs.YtcmdcmbiilfngabDoor
