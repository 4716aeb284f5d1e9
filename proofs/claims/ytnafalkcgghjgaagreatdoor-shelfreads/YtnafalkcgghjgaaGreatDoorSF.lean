/- Walks over sort.Search, and over find. Walks over IndexFunc, leafOf and place. -/
import Derived.Test.YtnafalkcgghjgaaGreatDoorSA
import Derived.Shelf.Abstract
import Derived.Test.YtnafalkcgghjgaaGreatDoorSE
namespace Go.Proofs.YtnafalkcgghjgaaGreatDoor
open Go.RowKit Go.Shelf
set_option maxRecDepth 100000 in
set_option maxHeartbeats 2000000 in
theorem search_any (f : Nat) (lb : Array Value) (p : Nat → Bool) (n : Nat) {w : World} (hn : n ≤ 1000000)
    (eg : ∀ args w, (callFunc f args).run Tryz.prog w = .ok (.enter f args) w)
    (hp : ∀ i : Nat, i < n → ∀ W, Below w.heap.size w W → Calls Tryz.prog f (#[.int .i64 (i : Int)] ++ lb) W fun e w' => e = .returned (.bool (p i)) ∧ Below w.heap.size w w') :
    Calls Tryz.prog 66 #[.int .i64 (n : Int), .func (.func f) #[] lb] w fun e w' => ∃ r : Nat, e = .returned (.int .i64 (r : Int)) ∧ r ≤ n ∧ (0 < r → p (r - 1) = false) ∧ (r < n → p r = true) ∧ Below w.heap.size w w' := by
  have HP : Hid (∀ i : Nat, i < n → ∀ W, Below w.heap.size w W → Calls Tryz.prog f (#[.int .i64 (i : Int)] ++ lb) W fun e w' => e = .returned (.bool (p i)) ∧ Below w.heap.size w w') := hp
  clear hp
  go_enter Tryz.func66, Tryz.ntmps66
  go_wp2
  go_loopw [5, 6] (fun vi vj wr => ∃ i j : Nat, i ≤ j ∧ j ≤ n ∧ vi = .int .i64 i ∧ vj = .int .i64 j ∧ (0 < i → p (i - 1) = false) ∧ (j < n → p j = true) ∧ Below w.heap.size w wr) (fun vi vj _ => (intOf vj - intOf vi).toNat)
  case atStart => exact ⟨0, n, by omega, by omega, rfl, rfl, fun h => absurd h (by omega), fun h => absurd h (by omega), Below.refl _ _⟩
  case round =>
    obtain ⟨i, j, hij, hjn, rfl, rfl, h1, h2, hbel⟩ := hrel
    have HB : Hid (Below w.heap.size w wr) := hbel
    have H1 : Hid (0 < i → p (i - 1) = false) := h1
    have H2 : Hid (j < n → p j = true) := h2
    clear h1 h2 hbel
    by_cases hlt : i < j
    · have kk : (i : Int) < (j : Int) := by omega
      obtain ⟨q, hq⟩ : ∃ q : Nat, (i + j) / 2 = q := ⟨_, rfl⟩
      have HC := HP.out q (by omega) wr HB.out
      have hq1 : i ≤ q ∧ q < j := by omega
      have hqi : ((i : Int) + (j : Int)) / 2 = (q : Int) := by omega
      have hqs : ((i + j : Nat) >>> 1) = q := by rw [Nat.shiftRight_eq_div_pow]; exact hq
      clear hq
      cases hpq : p q with
      | false =>
        rw [hpq] at HC
        go_wp2_with fail
        refine HC.mono ?_
        rintro e V ⟨rfl, hV⟩
        have HV : Hid (Below w.heap.size w V) := hV
        clear hV HC
        go_wp2
        refine ⟨⟨q + 1, j, by omega, hjn, by go_num, rfl, fun _ => by rw [Nat.add_sub_cancel]; exact hpq, H2.out, HV.out⟩, by simp [intOf]; omega⟩
      | true =>
        rw [hpq] at HC
        go_wp2_with fail
        refine HC.mono ?_
        rintro e V ⟨rfl, hV⟩
        have HV : Hid (Below w.heap.size w V) := hV
        clear hV HC
        go_wp2
        refine ⟨⟨i, q, by omega, by omega, rfl, rfl, H1.out, fun _ => hpq, HV.out⟩, by simp [intOf]; omega⟩
    · obtain rfl : i = j := by omega
      have kk : ¬ (i : Int) < (i : Int) := by omega
      go_wp2
      go_ret
      exact ⟨i, rfl, hjn, H1.out, H2.out, HB.out⟩
theorem gtr_sl (a b : ByteArray) : (!(Op.bytesLess a.toList b.toList || a.toList == b.toList)) = sl b a := by
  show (!(sl a b || a.toList == b.toList)) = sl b a
  by_cases e : a = b
  · subst e
    simp [sl_irr]
  · rw [str_nb e, Bool.or_false]
    cases h : sl a b with
    | true => rw [sl_asym h]; rfl
    | false => rw [sl_gt h e]; rfl
set_option maxHeartbeats 1000000 in
theorem find1_any {w : World} (B1 B2 sb b o len cap b2 o2 n k : Nat) (key x : ByteArray) (h1 : w.cell? ⟨B1, 0, none⟩ = some (.pointer (some ⟨sb, 0, none⟩))) (h2 : w.cell? ⟨B2, 0, none⟩ = some (.string key)) (h3 : w.cell? ⟨sb, 1, none⟩ = some (.slice (some ⟨b, o, none⟩) len cap))
    (h4 : w.cell? ⟨b, o + (k + 1) * 3 + 1, none⟩ = some (.slice (some ⟨b2, o2, none⟩) n n)) (h5 : w.cell? ⟨b2, o2, none⟩ = some (.string x)) (hk : k + 1 < len) (hn : 0 < n) (hl : len ≤ 1000000) :
    Calls Tryz.prog 67 #[.int .i64 (k : Int), .pointer (some ⟨B1, 0, none⟩), .pointer (some ⟨B2, 0, none⟩)] w fun e w' => e = .returned (.bool (sl key x)) ∧ Below w.heap.size w w' := by
  obtain ⟨q, hq⟩ : ∃ q : Nat, k + 1 = q := ⟨_, rfl⟩
  rw [hq] at h4 hk
  have hqi : (k : Int) + 1 = (q : Int) := by omega
  have hql : (q : Int) < (len : Int) := by omega
  have hn' : (0 : Int) < (n : Int) := by omega
  have hg := gtr_sl x key
  clear hq
  go_enter Tryz.func67, Tryz.ntmps67
  go_wp2
  go_region
  go_wp2
  go_ret
  refine ⟨ret_bool ?_, (Below.refl _ _).drew⟩
  first | rfl | exact hg
set_option maxHeartbeats 1000000 in
theorem find2_any {w : World} (B1 B2 b o n c k : Nat) (key x : ByteArray) (h1 : w.cell? ⟨B1, 0, none⟩ = some (.slice (some ⟨b, o, none⟩) n c)) (h2 : w.cell? ⟨B2, 0, none⟩ = some (.string key))
    (h5 : w.cell? ⟨b, o + k * 2, none⟩ = some (.string x)) (hk : k < n) :
    Calls Tryz.prog 68 #[.int .i64 (k : Int), .pointer (some ⟨B1, 0, none⟩), .pointer (some ⟨B2, 0, none⟩)] w fun e w' => e = .returned (.bool (!sl x key)) ∧ Below w.heap.size w w' := by
  have hql : (k : Int) < (n : Int) := by omega
  go_enter Tryz.func68, Tryz.ntmps68
  go_wp2
  go_region
  go_wp2
  go_ret
  exact ⟨ret_bool rfl, (Below.refl _ _).drew⟩
/-- A Shelf in memory. -/
def Sat (w : World) (sb jb : Nat) (al : Option Addr) (nl cl : Nat) (ag : Option Addr) (ng cg : Nat) : Prop := w.heap[sb]? = some (.cells #[.pointer (some ⟨jb, 0, none⟩), .slice al nl cl, .slice ag ng cg] 88 (0, 0))
theorem Sat.lt {w : World} {sb jb : Nat} {al : Option Addr} {nl cl : Nat} {ag : Option Addr} {ng cg : Nat} (h : Sat w sb jb al nl cl ag ng cg) : sb < w.heap.size := lt_of_some h
theorem Sat.cells {w : World} {sb jb : Nat} {al : Option Addr} {nl cl : Nat} {ag : Option Addr} {ng cg : Nat} (h : Sat w sb jb al nl cl ag ng cg) : w.cell? ⟨sb, 0, none⟩ = some (.pointer (some ⟨jb, 0, none⟩)) ∧ w.cell? ⟨sb, 1, none⟩ = some (.slice al nl cl) ∧ w.cell? ⟨sb, 2, none⟩ = some (.slice ag ng cg) := by
  refine ⟨?_, ?_, ?_⟩ <;> rw [cell_of_row w sb _ _ _ _ h] <;> rfl
theorem Sat.below {w w' : World} {sb jb : Nat} {al : Option Addr} {nl cl : Nat} {ag : Option Addr} {ng cg : Nat} (h : Sat w sb jb al nl cl ag ng cg) (hb : Below w.heap.size w w') : Sat w' sb jb al nl cl ag ng cg := (hb.block sb h.lt).trans h
/-- What the two looks ask. -/
def ask1 (L : List Mf) (key : ByteArray) (i : Nat) : Bool := match L[i + 1]? with
  | some m => (match m.es.head? with
    | some p => sl key p.1
    | none => false)
  | none => false
def ask2 (es : List Pr) (key : ByteArray) (i : Nat) : Bool := match es[i]? with
  | some p => !sl p.1 key
  | none => false
theorem asked {L : List Mf} {key : ByteArray} {i a : Nat} {m : Mf} (hm : L[i]? = some m) (h1 : 0 < i → ask1 L key (i - 1) = false) (h2 : i < L.length - 1 → ask1 L key i = true) (ha : a ≤ m.es.length) (h3 : 0 < a → ask2 m.es key (a - 1) = false) (h4 : a < m.es.length → ask2 m.es key a = true) : At (lfs L) key i m.lf a := by
  refine ⟨lfs_at hm, fun h0 p hp => ?_, fun y hy p hp => ?_, ha, fun h0 p hp => ?_, fun p hp => ?_⟩
  · have := h1 h0
    unfold ask1 at this
    rw [show i - 1 + 1 = i by omega, hm] at this
    have hp' : m.es.head? = some p := hp
    simp only [hp'] at this
    exact this
  · have hl := (List.getElem?_eq_some_iff.1 hy).1
    rw [lfs_len] at hl
    have := h2 (by omega)
    unfold ask1 at this
    have hz : L[i + 1]? = some L[i + 1] := List.getElem?_eq_getElem hl
    have e := lfs_at hz
    rw [hy] at e
    cases e
    rw [hz] at this
    have hp' : (L[i + 1]).es.head? = some p := hp
    simp only [hp'] at this
    exact this
  · have := h3 h0
    unfold ask2 at this
    have hp' : m.es[a - 1]? = some p := hp
    rw [hp'] at this
    simpa using this
  · have hp' : m.es[a]? = some p := hp
    have := h4 (List.getElem?_eq_some_iff.1 hp').1
    unfold ask2 at this
    rw [hp'] at this
    simpa using this
set_option maxRecDepth 100000 in
set_option maxHeartbeats 2000000 in
theorem find_any {G : Nat → Prop} {w : World} {sb jb : Nat} {al : Option Addr} {nl cl : Nat} {ag : Option Addr} {ng cg n : Nat} {L : List Mf} (hs : Sat w sb jb al nl cl ag ng cg) (hL : Lw G w al nl cl L) (hp : Pre n (lfs L)) (hnl : nl ≤ 1000) (key : ByteArray) :
    Calls Tryz.prog 39 #[.pointer (some ⟨sb, 0, none⟩), .string key] w fun e w' => ∃ (i : Nat) (m : Mf) (a : Nat), e = .returned (.tuple #[.int .i64 (i : Int), .int .i64 (a : Int), .bool (hasK (m.es.drop a) key)]) ∧ L[i]? = some m ∧ At (lfs L) key i m.lf a ∧ Below w.heap.size w w' := by
  have hll := hL.len
  have h1 : 1 ≤ nl := by have := hp.len; rw [lfs_len] at this; omega
  obtain ⟨b, o, rfl, hb, _, hc⟩ := hL.at (by omega)
  obtain ⟨s0, s1, s2⟩ := hs.cells
  have hsl := hs.lt
  have HC : Hid (∀ W, Below w.heap.size w W → W.cell? ⟨sb, 1, none⟩ = some (.slice (some ⟨b, o, none⟩) nl cl) ∧ ∀ (i : Nat) (m : Mf), L[i]? = some m → W.cell? ⟨b, o + i * 3 + 1, none⟩ = some (.slice m.a m.es.length m.es.length)) := fun W hW =>
    ⟨by rw [hW.cell (p := ⟨sb, 1, none⟩) hsl]; exact s1, fun i m hm => by rw [hW.cell (p := ⟨b, _, none⟩) hb]; exact (hc i m hm).2.1⟩
  have HE : Hid (∀ W, Below w.heap.size w W → ∀ m ∈ L, Pw G W m.a m.es.length m.es.length m.es) := fun W hW m hm => (hL.2.below hW) m hm
  have HF : Hid (∀ (i : Nat) (m : Mf), L[i]? = some m → (2 ≤ nl → m.es ≠ []) ∧ m.es.length ≤ 1023) := fun i m hm => by
    refine ⟨fun h2 => hp.full i m.lf (lfs_at hm) (by rw [lfs_len]; omega), ?_⟩
    have e1 := hp.sz m.lf (List.mem_of_getElem? (lfs_at hm))
    have e2 := szL_len (l := m.es) (fun p hq => hp.may p (flat_sub (List.mem_of_getElem? (lfs_at hm)) hq))
    unfold Lf.sz at e1
    have e3 : m.lf.es = m.es := rfl
    rw [e3] at e1
    omega
  obtain ⟨W2, hW2⟩ : ∃ W2, (w.alloc (.cells #[.pointer (some ⟨sb, 0, none⟩)] 25)).alloc (.cells #[.string key] 9) = W2 := ⟨_, rfl⟩
  obtain ⟨h, hh⟩ : ∃ h, w.heap.size = h := ⟨_, rfl⟩
  have hB2 : Below h w W2 := by rw [← hW2, ← hh]; exact ((Below.refl _ w).alloc (Nat.le_refl _) _).alloc (by simp) _
  have hsz2 : W2.heap.size = h + 2 := by rw [← hW2]; simp [hh]
  have r1 : W2.heap[h]? = some (.cells #[.pointer (some ⟨sb, 0, none⟩)] 25 (0, 0)) := by
    rw [← hW2, Below.heap_alloc _ _ _ (by simp [hh]), ← hh]; exact heap_alloc_new w _
  have r2 : W2.heap[h + 1]? = some (.cells #[.string key] 9 (0, 0)) := by
    rw [← hW2, ← hh]
    have := heap_alloc_new (w.alloc (.cells #[.pointer (some ⟨sb, 0, none⟩)] 25)) (.cells #[.string key] 9)
    rwa [show (w.alloc (.cells #[.pointer (some ⟨sb, 0, none⟩)] 25)).heap.size = w.heap.size + 1 by simp] at this
  rw [hh] at HC HE
  have HR : Hid (∀ W, Below W2.heap.size W2 W → W.cell? ⟨h, 0, none⟩ = some (.pointer (some ⟨sb, 0, none⟩)) ∧ W.cell? ⟨h + 1, 0, none⟩ = some (.string key) ∧ Below h w W) := fun W hW => by
    refine ⟨?_, ?_, hB2.trans (hW.mono (by omega))⟩
    · rw [hW.cell (p := ⟨h, 0, none⟩) (by show h < _; omega), cell_of_row _ h _ _ _ _ r1]; rfl
    · rw [hW.cell (p := ⟨h + 1, 0, none⟩) (by show h + 1 < _; omega), cell_of_row _ (h + 1) _ _ _ _ r2]; rfl
  have HS1 := search_any 67 #[.pointer (some ⟨h, 0, none⟩), .pointer (some ⟨h + 1, 0, none⟩)] (ask1 L key) (nl - 1) (w := W2) (by omega) (enters_of Tryz.func67 (by kernel_rfl) rfl) (fun i hi W hW => by
    obtain ⟨q1, q2, q3⟩ := HR.out W hW
    obtain ⟨c1, c2⟩ := HC.out W q3
    have hz : L[i + 1]? = some L[i + 1] := List.getElem?_eq_getElem (by omega)
    obtain ⟨m, hm⟩ : ∃ m, L[i + 1] = m := ⟨_, rfl⟩
    rw [hm] at hz
    have hne := (HF.out _ m hz).1 (by omega)
    have hmp : 0 < m.es.length := by cases hme : m.es with
      | nil => exact absurd hme hne
      | cons p r => simp
    obtain ⟨b2, o2, ea, hb2, _, hc2⟩ := (HE.out W q3 m (List.mem_of_getElem? hz)).at hmp
    have c3 := c2 (i + 1) m hz
    rw [ea] at c3
    have hp0 : m.es[0]? = some m.es[0] := List.getElem?_eq_getElem hmp
    have c4 := (hc2 0 _ hp0).1
    rw [Nat.zero_mul, Nat.add_zero] at c4
    have e : ask1 L key i = sl key (m.es[0]).1 := by
      unfold ask1
      rw [hz]
      simp only [List.head?_eq_getElem?, hp0]
    rw [e]
    refine (find1_any h (h + 1) sb b o nl cl b2 o2 _ i key _ q1 q2 c1 c3 c4 (by omega) hmp (by omega)).mono ?_
    rintro e W' ⟨e1, e2⟩
    exact ⟨e1, hW.trans (e2.mono hW.size)⟩)
  have hk1 : (nl : Int) - 1 = ((nl - 1 : Nat) : Int) := by omega
  rw [← hk1] at HS1
  obtain ⟨q1, q2, q3⟩ := HR.out W2 (Below.refl _ _)
  obtain ⟨c1, _⟩ := HC.out W2 q3
  clear hL hs hc s0 s1 s2 hp r1 r2 hk1 hB2
  go_enter Tryz.func39, Tryz.ntmps39
  go_wp2_with fail
  refine HS1.mono ?_
  rintro e V ⟨i, rfl, hi1, hi2, hi3, hV⟩
  obtain ⟨p1, p2, p3⟩ := HR.out V hV
  obtain ⟨d1, d2⟩ := HC.out V p3
  have hz : L[i]? = some L[i] := List.getElem?_eq_getElem (by omega)
  obtain ⟨m, hm⟩ : ∃ m, L[i] = m := ⟨_, rfl⟩
  rw [hm] at hz
  have d3 := d2 i m hz
  have hml := (HF.out i m hz).2
  obtain ⟨k, hk⟩ : ∃ k, m.es.length = k := ⟨_, rfl⟩
  rw [hk] at d3 hml
  obtain ⟨V1, hV1⟩ : ∃ V1, V.alloc (.cells #[.slice m.a k k] 29) = V1 := ⟨_, rfl⟩
  obtain ⟨v, hv⟩ : ∃ v, V.heap.size = v := ⟨_, rfl⟩
  have hBV : Below v V V1 := by rw [← hV1, ← hv]; exact (Below.refl _ V).alloc (Nat.le_refl _) _
  have hvs : V1.heap.size = v + 1 := by rw [← hV1, ← hv]; simp
  have r3 : V1.heap[v]? = some (.cells #[.slice m.a k k] 29 (0, 0)) := by rw [← hV1, ← hv]; exact heap_alloc_new V _
  have hv2 : W2.heap.size ≤ v := by rw [← hv]; exact hV.size
  have HR3 : Hid (∀ W, Below V1.heap.size V1 W → W.cell? ⟨v, 0, none⟩ = some (.slice m.a k k) ∧ Below W2.heap.size W2 W) := fun W hW => by
    refine ⟨?_, (hV.trans (hBV.mono hv2)).trans (hW.mono (by omega))⟩
    rw [hW.cell (p := ⟨v, 0, none⟩) (by show v < _; omega), cell_of_row _ v _ _ _ _ r3]; rfl
  have HMM : Hid (L[i]? = some m) := hz
  have HK : Hid (m.es.length = k) := hk
  have HS2 := search_any 68 #[.pointer (some ⟨v, 0, none⟩), .pointer (some ⟨h + 1, 0, none⟩)] (ask2 m.es key) k (w := V1) (by omega) (enters_of Tryz.func68 (by kernel_rfl) rfl) (fun j hj W hW => by
    obtain ⟨x1, x2⟩ := HR3.out W hW
    obtain ⟨y1, y2, y3⟩ := HR.out W x2
    obtain ⟨b2, o2, ea, hb2, _, hc2⟩ := (HE.out W y3 m (List.mem_of_getElem? hz)).at (by omega)
    rw [ea] at x1
    have hp0 : m.es[j]? = some m.es[j] := List.getElem?_eq_getElem (by omega)
    have e : ask2 m.es key j = !sl (m.es[j]).1 key := by
      unfold ask2
      rw [hp0]
    rw [e]
    refine (find2_any v (h + 1) b2 o2 k k j key _ x1 y2 (hc2 j _ hp0).1 hj).mono ?_
    rintro e W' ⟨e1, e2⟩
    exact ⟨e1, hW.trans (e2.mono hW.size)⟩)
  obtain ⟨x1, x2⟩ := HR3.out V1 (Below.refl _ _)
  have HI : Hid ((0 < i → ask1 L key (i - 1) = false) ∧ (i < nl - 1 → ask1 L key i = true)) := ⟨hi2, hi3⟩
  have kin : (i : Int) < (nl : Int) := by omega
  clear HS1 hV d2 hi2 hi3 hz hm hk hBV r3
  go_wp2_with fail
  refine HS2.mono ?_
  rintro e X ⟨a, rfl, ha1, ha2, ha3, hX⟩
  obtain ⟨z1, z2⟩ := HR3.out X hX
  obtain ⟨z3, z4, z5⟩ := HR.out X z2
  have HX : Hid (Below h w X) := z5
  have HA : Hid (At (lfs L) key i m.lf a) := asked HMM.out HI.out.1 (by rw [hll]; exact HI.out.2) (by rw [HK.out]; exact ha1) ha2 (by rw [HK.out]; exact ha3)
  clear HS2 hX ha2 ha3 HR3 x1 x2 hV1
  by_cases hak : a < k
  · have kk : (a : Int) < (k : Int) := by omega
    obtain ⟨b2, o2, ea, hb2, _, hc2⟩ := (HE.out X z5 m (List.mem_of_getElem? HMM.out)).at (by rw [HK.out]; omega)
    rw [ea] at z1
    have hal : a < m.es.length := by rw [HK.out]; omega
    have hp0 : m.es[a]? = some m.es[a] := List.getElem?_eq_getElem hal
    have c4 := (hc2 a _ hp0).1
    obtain ⟨p, hpp⟩ : ∃ p, m.es[a] = p := ⟨_, rfl⟩
    rw [hpp] at c4 hp0
    have HH : Hid (hasK (m.es.drop a) key = decide (p.1 = key)) := by show _ = _; rw [hasK_drop, hp0]
    clear hc2 hp0 hpp
    by_cases hek : p.1 = key
    · have hbe : (p.1.toList == key.toList) = true := by rw [hek]; simp
      go_wp2
      go_region
      go_wp2
      refine bodyPost_ret (v := .tuple #[.int .i64 (i : Int), .int .i64 (a : Int), .bool true]) ?_ rfl ⟨i, m, a, ?_, HMM.out, HA.out, ?_⟩
      · simp [results, go_sem]
      · rw [HH.out, decide_eq_true hek]
      · rw [hh]; exact HX.out.drew
    · have hbe : (p.1.toList == key.toList) = false := str_nb hek
      go_wp2
      go_region
      go_wp2
      refine bodyPost_ret (v := .tuple #[.int .i64 (i : Int), .int .i64 (a : Int), .bool false]) ?_ rfl ⟨i, m, a, ?_, HMM.out, HA.out, ?_⟩
      · simp [results, go_sem]
      · rw [HH.out, decide_eq_false hek]
      · rw [hh]; exact HX.out.drew
  · have kk : ¬ (a : Int) < (k : Int) := by omega
    have HH : Hid (hasK (m.es.drop a) key = false) := by show _ = _; rw [hasK_drop, List.getElem?_eq_none (by rw [HK.out]; omega)]
    go_wp2
    go_region
    go_wp2
    refine bodyPost_ret (v := .tuple #[.int .i64 (i : Int), .int .i64 (a : Int), .bool false]) ?_ rfl ⟨i, m, a, ?_, HMM.out, HA.out, ?_⟩
    · simp [results, go_sem]
    · rw [HH.out]
    · rw [hh]; exact HX.out.drew
end Go.Proofs.YtnafalkcgghjgaaGreatDoor
namespace Go.Proofs.YtnafalkcgghjgaaGreatDoor
open Go.RowKit Go.Shelf
set_option maxHeartbeats 1000000 in
theorem is_page {w : World} (B : Nat) (pg page s : Int) (a : Option Addr) (n c : Nat) (h : w.cell? ⟨B, 0, none⟩ = some (.int .i64 pg)) :
    Calls Tryz.prog 109 #[.agg #[.int .i64 page, .slice a n c, .int .i64 s], .pointer (some ⟨B, 0, none⟩)] w fun e w' => e = .returned (.bool (decide (page = pg))) ∧ Below w.heap.size w w' := by
  have hB : B < w.heap.size := World.block_lt_of_cell? _ _ h
  have hne : B ≠ w.heap.size := by omega
  by_cases e : page = pg
  · subst e
    go_enter Tryz.func109, Tryz.ntmps109
    go_wp2
    go_ret
    exact ⟨ret_bool (by simp), (Below.refl _ w).alloc (Nat.le_refl _) _⟩
  · have e' : (page == pg) = false := by simpa using e
    go_enter Tryz.func109, Tryz.ntmps109
    go_wp2
    go_ret
    exact ⟨ret_bool (by simp [e]), (Below.refl _ w).alloc (Nat.le_refl _) _⟩
set_option maxRecDepth 100000 in
set_option maxHeartbeats 2000000 in
theorem index_any {G : Nat → Prop} {w : World} (a : Option Addr) (n c : Nat) (L : List Mf) (h : Lw G w a n c L) (hn : n ≤ 1000) (B : Nat) (pg : Int) (hB : w.cell? ⟨B, 0, none⟩ = some (.int .i64 pg)) :
    Calls Tryz.prog 108 #[.slice a n c, .func (.func 109) #[] #[.pointer (some ⟨B, 0, none⟩)]] w fun e w' => ∃ r : Int, e = .returned (.int .i64 r) ∧ ((r = -1 ∧ ∀ m ∈ L, m.page ≠ pg) ∨ ∃ (i : Nat) (m : Mf), r = (i : Int) ∧ L[i]? = some m ∧ m.page = pg) ∧ Below w.heap.size w w' := by
  have hl := h.len
  have hcap : n ≤ c := h.1.2.1
  have HL : Hid (∀ W, Below w.heap.size w W → Lw G W a n c L) := fun W hW => h.below hW
  have HB : Hid (∀ W, Below w.heap.size w W → W.cell? ⟨B, 0, none⟩ = some (.int .i64 pg)) := fun W hW => by rw [hW.cell (p := ⟨B, 0, none⟩) (World.block_lt_of_cell? _ _ hB)]; exact hB
  have eg := enters_of Tryz.func109 (by kernel_rfl) rfl
  clear h hB
  go_enter Tryz.func108, Tryz.ntmps108
  go_wp2
  go_loopw [8] (fun vi wr => ∃ i : Nat, i ≤ n ∧ vi = .int .i64 i ∧ (∀ m ∈ L.take i, m.page ≠ pg) ∧ Below w.heap.size w wr) (fun vi _ => n - (intOf vi).toNat)
  case atStart => exact ⟨0, by omega, rfl, fun m hm => by simp at hm, Below.refl _ _⟩
  case round =>
    obtain ⟨i, hi, rfl, hno, hbel⟩ := hrel
    have HN : Hid (∀ m ∈ L.take i, m.page ≠ pg) := hno
    have HBB : Hid (Below w.heap.size w wr) := hbel
    by_cases hlt : i < n
    · have kk : (i : Int) < (n : Int) := by omega
      have hm : L[i]? = some L[i] := List.getElem?_eq_getElem (by omega)
      obtain ⟨m, hmm⟩ : ∃ m, L[i] = m := ⟨_, rfl⟩
      rw [hmm] at hm
      obtain ⟨b, o, rfl, hb, _, hc⟩ := (HL.out wr hbel).at (by omega)
      obtain ⟨d1, d2, d3⟩ := hc i m hm
      have HC := is_page (w := wr) B pg m.page (szL m.es : Int) m.a m.es.length m.es.length (HB.out wr hbel)
      have HM : Hid (L[i]? = some m) := hm
      clear hno hbel hc hm hmm
      by_cases hp : m.page = pg
      · rw [decide_eq_true hp] at HC
        have HPP : Hid (m.page = pg) := hp
        clear hp
        go_wp2_with fail
        refine HC.mono ?_
        rintro e V ⟨rfl, hV⟩
        have HV : Hid (Below wr.heap.size wr V) := hV
        clear hV HC
        go_wp2
        go_ret
        exact ⟨(i : Int), rfl, .inr ⟨i, m, rfl, HM.out, HPP.out⟩, HBB.out.trans (HV.out.mono HBB.out.size)⟩
      · rw [decide_eq_false hp] at HC
        go_wp2_with fail
        refine HC.mono ?_
        rintro e V ⟨rfl, hV⟩
        have HV : Hid (Below wr.heap.size wr V) := hV
        clear hV HC
        go_wp2
        refine ⟨⟨i + 1, by omega, by go_num, ?_, HBB.out.trans (HV.out.mono HBB.out.size)⟩, by simp [intOf]; omega⟩
        intro x hx
        rw [take_snoc HM.out] at hx
        rcases List.mem_append.1 hx with hx | hx
        · exact HN.out x hx
        · simp only [List.mem_singleton] at hx; rw [hx]; exact hp
    · obtain rfl : i = n := by omega
      have kk : ¬ (i : Int) < (i : Int) := by omega
      go_wp2
      go_ret
      refine ⟨-1, rfl, .inl ⟨rfl, ?_⟩, HBB.out⟩
      have := HN.out
      rwa [List.take_of_length_le (by omega)] at this
set_option maxHeartbeats 1000000 in
theorem leafOf_any {G : Nat → Prop} {w : World} (a : Option Addr) (n c : Nat) (L : List Mf) (h : Lw G w a n c L) (hn : n ≤ 1000) (pg : Int) :
    Calls Tryz.prog 91 #[.slice a n c, .int .i64 pg] w fun e w' => ∃ r : Int, e = .returned (.int .i64 r) ∧ ((r = -1 ∧ ∀ m ∈ L, m.page ≠ pg) ∨ ∃ (i : Nat) (m : Mf), r = (i : Int) ∧ L[i]? = some m ∧ m.page = pg) ∧ Below w.heap.size w w' := by
  obtain ⟨W1, hW1⟩ : ∃ W1, w.alloc (.cells #[.int .i64 pg] 3) = W1 := ⟨_, rfl⟩
  have hB1 : Below w.heap.size w W1 := by rw [← hW1]; exact (Below.refl _ w).alloc (Nat.le_refl _) _
  have hc : W1.cell? ⟨w.heap.size, 0, none⟩ = some (.int .i64 pg) := by
    have hr : W1.heap[w.heap.size]? = some (.cells #[.int .i64 pg] 3 (0, 0)) := by rw [← hW1]; exact heap_alloc_new w _
    rw [cell_of_row _ _ _ _ _ _ hr]; rfl
  have HI := index_any a n c L (h.below hB1) hn w.heap.size pg hc
  have HB : Hid (Below w.heap.size w W1) := hB1
  clear h hB1 hc
  go_enter Tryz.func91, Tryz.ntmps91
  go_wp2_with fail
  refine HI.mono ?_
  rintro e V ⟨r, rfl, h1, h2⟩
  have HH : Hid (((r = -1 ∧ ∀ m ∈ L, m.page ≠ pg) ∨ ∃ (i : Nat) (m : Mf), r = (i : Int) ∧ L[i]? = some m ∧ m.page = pg) ∧ Below W1.heap.size W1 V) := ⟨h1, h2⟩
  clear h1 h2 HI
  go_wp2
  go_ret
  exact ⟨r, rfl, HH.out.1, HB.out.trans (HH.out.2.mono HB.out.size)⟩
theorem mfV_page (L : List Mf) (i : Nat) (m : Mf) (h : L[i]? = some m) (p : Int) : (mfV L).set (i * 3) (.int .i64 p) = mfV (L.set i { m with page := p }) := by
  induction L generalizing i with
  | nil => simp at h
  | cons x L ih =>
    cases i with
    | zero =>
      simp only [List.getElem?_cons_zero, Option.some.injEq] at h
      subst h
      simp [mfV, mfC]
    | succ i =>
      simp only [List.getElem?_cons_succ] at h
      have := ih i h
      have e : mfV (x :: L) = mfC x ++ mfV L := by simp [mfV]
      have e2 : mfV ((x :: L).set (i + 1) { m with page := p }) = mfC x ++ mfV (L.set i { m with page := p }) := by simp [mfV]
      rw [e, e2, ← this, List.set_append_right _ _ (by rw [mfC_len]; omega), mfC_len]
      congr 2
      omega
theorem lfs_set (L : List Mf) (i : Nat) (m : Mf) : lfs (L.set i m) = (lfs L).set i m.lf := by simp [lfs, List.map_set]
set_option maxRecDepth 100000 in
set_option maxHeartbeats 2000000 in
theorem place_any {G : Nat → Prop} {base : Nat} {w : World} {g cap n q : Nat} {J : List Mf} (h : Lo G base w g cap J) (hG : ∀ x, base ≤ x → G x) (hp : Pre n (lfs J)) (hq : J.length = q) (hl : q ≤ n) (hn : n ≤ 128) :
    Calls Tryz.prog 62 #[.slice (some ⟨g, 0, none⟩) q cap] w fun e w' => e = .returned (.tuple #[]) ∧ ∃ J', Lo G base w' g cap J' ∧ J'.length = q ∧ Shape n (lfs J') ∧ flat (lfs J') = flat (lfs J) ∧ Upd (fun x => x = g) w w' := by
  have hcap : q ≤ cap := by have := (own_cap h.own).1; omega
  have hlw := h.lw hG
  rw [hq] at hlw
  have HLO := leafOf_any (some ⟨g, 0, none⟩) q cap J hlw (by omega) (-1)
  have HLW : Hid (∀ W, Below w.heap.size w W → Lw G W (some ⟨g, 0, none⟩) q cap J) := fun W hW => hlw.below hW
  have HLo : Hid (∀ W, Below w.heap.size w W → Lo G base W g cap J) := fun W hW => h.below hW
  have HP : Hid (Pre n (lfs J)) := hp
  have hgl : g < w.heap.size := (h.own.lt g rfl).2
  clear h hlw hp
  go_enter Tryz.func62, Tryz.ntmps62
  go_wp2_with fail
  refine HLO.mono ?_
  rintro e V ⟨r, rfl, hr, hV⟩
  have HV : Hid (Below w.heap.size w V) := hV
  clear HLO hV
  rcases hr with ⟨rfl, hno⟩ | ⟨i, m, rfl, hm, hpm⟩
  · have HN : Hid (∀ m ∈ J, m.page ≠ -1) := hno
    clear hno
    go_wp2
    refine bodyPost_ret (v := .tuple #[]) ?_ rfl ⟨rfl, J, HLo.out V HV.out, hq, ?_, rfl, Upd.of_below HV.out⟩
    · simp [results, go_sem]
    · refine HP.out.all fun x hx => ?_
      obtain ⟨m, hm, rfl⟩ := List.mem_map.1 hx
      exact HN.out m hm
  · have HM : Hid (J[i]? = some m ∧ m.page = -1) := ⟨hm, hpm⟩
    have hil : i < q := by have := (List.getElem?_eq_some_iff.1 hm).1; omega
    clear hm hpm
    go_wp2
    go_loopw [3] (fun vp wr => ∃ p : Nat, p ≤ n ∧ vp = .int .i64 p ∧ (∀ k : Nat, k < p → ∃ y ∈ lfs J, y.page = (k : Int)) ∧ Below w.heap.size w wr) (fun vp _ => n - (intOf vp).toNat)
    case atStart => exact ⟨0, by omega, rfl, fun k hk => absurd hk (by omega), HV.out⟩
    case round =>
      obtain ⟨p, hpn, rfl, hall, hbel⟩ := hrel
      have hpn' : p < n := free_page (x := m.lf) (by rw [lfs_len]; omega) (List.mem_of_getElem? (lfs_at HM.out.1)) HM.out.2 p hall
      have HL2 := leafOf_any (some ⟨g, 0, none⟩) q cap J (HLW.out wr hbel) (by omega) (p : Int)
      have HA : Hid (∀ k : Nat, k < p → ∃ y ∈ lfs J, y.page = (k : Int)) := hall
      have HB : Hid (Below w.heap.size w wr) := hbel
      clear hall hbel
      go_wp2_with fail
      refine HL2.mono ?_
      rintro e V2 ⟨r, rfl, hr, hV2⟩
      have HV2 : Hid (Below w.heap.size w V2) := HB.out.trans (hV2.mono HB.out.size)
      clear HL2 hV2
      rcases hr with ⟨rfl, hno⟩ | ⟨j, mj, rfl, hj, hpj⟩
      · have HN : Hid (∀ m ∈ J, m.page ≠ (p : Int)) := hno
        have hLo2 := HLo.out V2 HV2.out
        have ci : V2.cell? ⟨g, i * 3, none⟩ = some (.int .i64 m.page) := own_at hLo2.own (by have := fm_at mfC_len HM.out.1 0 (by omega); exact this)
        have fi := own_fro hLo2.own (i * 3)
        have kil : (i : Int) < (q : Int) := by omega
        clear hno hLo2
        go_wp2
        refine bodyPost_end (v := .tuple #[]) ?_ rfl ⟨rfl, J.set i { m with page := (p : Int) }, ⟨?_, ?_⟩, by simpa using hq, ?_, ?_, ?_⟩
        · simp [results, go_sem]
        · have := own_putS (HLo.out V2 HV2.out).own (i * 3) (.int .i64 (p : Int))
          rw [mfV_page J i m HM.out.1] at this
          rw [List.length_set]
          exact this
        · have hg2 : ∃ cur, V2.heap[g]? = some (.cells cur 85 (0, 0)) := by
            rcases (HLo.out V2 HV2.out).own.2 with ⟨h2, _⟩ | ⟨g2, c2, cur, e2, _, hr2, _⟩
            · cases h2
            · cases e2; exact ⟨cur, hr2⟩
          obtain ⟨cur, hcur⟩ := hg2
          intro x hx
          have hx' : ∃ y ∈ J, x.a = y.a ∧ x.es = y.es := by
            rcases List.mem_or_eq_of_mem_set hx with hx | hx
            · exact ⟨x, hx, rfl, rfl⟩
            · exact ⟨m, List.mem_of_getElem? HM.out.1, by rw [hx], by rw [hx]⟩
          obtain ⟨y, hy, e1, e2⟩ := hx'
          rw [e1, e2]
          refine ((HLo.out V2 HV2.out).ent y hy).other fun k cur2 fr hk => ?_
          exact Below.heap_setCell _ _ _ _ (fun e => by rw [e, hcur] at hk; cases hk)
        · have := HP.out.placed (lfs_at HM.out.1) HM.out.2 p hpn' (fun y hy => by
            obtain ⟨z, hz, rfl⟩ := List.mem_map.1 hy
            exact HN.out z hz)
          rw [lfs_set]
          exact this
        · rw [lfs_set]
          exact set_flat (lfs_at HM.out.1) (p : Int)
        · exact Upd.setCell (S := fun x => x = g) (Upd.of_below HV2.out) (p := ⟨g, i * 3, none⟩) (fun _ => rfl) _
      · have HJ : Hid (J[j]? = some mj ∧ mj.page = (p : Int)) := ⟨hj, hpj⟩
        clear hj hpj
        go_wp2
        refine ⟨⟨p + 1, by omega, by go_num, ?_, HV2.out⟩, by simp [intOf]; omega⟩
        intro k hk
        by_cases hkp : k = p
        · subst hkp
          exact ⟨mj.lf, List.mem_of_getElem? (lfs_at HJ.out.1), HJ.out.2⟩
        · exact HA.out k (by omega)
end Go.Proofs.YtnafalkcgghjgaaGreatDoor
