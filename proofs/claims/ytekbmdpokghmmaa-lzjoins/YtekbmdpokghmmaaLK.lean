/- alike; where three bytes stood last, as a map. -/
import Derived.Test.YtekbmdpokghmmaaLJ
import Derived.Maps.OwnSet
import Derived.Maps.Views
import Derived.WideKeyPair
namespace Go.Proofs.Ytekbmdpokghmmaa
open Go.RowKit Lz Go.Maps Go.ChangeMaps Go.WideMaps
theorem arrK : ArrKey Try.prog 71 5 3 := ⟨Try.underlying71, by kernel_rfl, by kernel_rfl, by kernel_rfl⟩
theorem keyed3 : Keyed Try.prog 71 := Keyed.of_law arrK.law
abbrev K3 := UInt8 × UInt8 × UInt8
def keyV (k : K3) : Value := .agg #[.int .u8 (k.1.toNat : Int), .int .u8 (k.2.1.toNat : Int), .int .u8 (k.2.2.toNat : Int)]
def keyL (k : K3) : Lit := .string (keyBytes [.int .u8 (k.1.toNat : Int), .int .u8 (k.2.1.toNat : Int), .int .u8 (k.2.2.toNat : Int)])
theorem wf8 (u : UInt8) : (Lit.int .u8 (u.toNat : Int)).wf = true := by
  have := UInt8.toNat_lt u
  simp [Lit.wf, IntKind.min, IntKind.max, IntKind.signed, IntKind.bits]
  omega
theorem keyOf3 (k : K3) : keyOf Try.prog 71 (keyV k) = some (keyL k) := by
  have hkt : Try.prog.keyType 71 = true := by kernel_rfl
  have hsz : ∃ m, Try.prog.types.size = m + 1 := ⟨Try.prog.types.size - 1, by have : (0 : Nat) < Try.prog.types.size := of_decide_eq_true (by kernel_rfl); omega⟩
  obtain ⟨m, hm⟩ := hsz
  unfold keyOf keyV
  simp only [arrK.hu]
  rw [if_pos (by simp [hkt, Value.formed, arrK.hu, arrK.size]), hm]
  unfold Program.keyLits
  simp only [arrK.hu, Value.cells]
  rw [if_pos (by rw [arrK.size]; rfl), show List.range 3 = [0, 1, 2] from rfl, List.mapM_cons, List.mapM_cons, List.mapM_cons, List.mapM_nil]
  simp [arrK.one, Program.keyLits, Try.underlying5, wf8, keyL]
theorem keyL_inj {k k' : K3} (h : keyL k = keyL k') : k = k' := by
  have h1 := keyOf3 k
  have h2 := keyOf3 k'
  rw [← h] at h2
  have h3 := keyed3.inj h1 h2
  obtain ⟨a, b, c⟩ := k
  obtain ⟨a', b', c'⟩ := k'
  simp only [keyV, Value.agg.injEq, Array.mk.injEq, List.cons.injEq, Value.int.injEq, true_and, and_true] at h3
  obtain ⟨e1, e2, e3⟩ := h3
  rw [UInt8.toNat_inj.1 (by omega : a.toNat = a'.toNat), UInt8.toNat_inj.1 (by omega : b.toNat = b'.toNat), UInt8.toNat_inj.1 (by omega : c.toNat = c'.toNat)]
noncomputable abbrev plI : Value → Option (DataW Unit × List MemPlace) := plainElem Try.prog 3
theorem wfJ {j : Nat} (h : j ≤ 1000000) : (Lit.int .i64 (j : Int)).wf = true := by
  simp [Lit.wf, IntKind.min, IntKind.max, IntKind.signed, IntKind.bits]
  omega
theorem plI_mk {j : Nat} (h : j ≤ 1000000) : plI (.int .i64 (j : Int)) = some (.lit (.int .i64 (j : Int)), []) := plainElem_int Try.underlying3 (wfJ h)
theorem plI_inv {v : Value} {q : Int} {ps : List MemPlace} (h : plI v = some (.lit (.int .i64 q), ps)) : v = .int .i64 q := by
  unfold plI plainElem at h
  rw [Try.underlying3] at h
  cases v <;> simp at h
  next k n =>
    obtain ⟨⟨rfl, _⟩, rfl, _⟩ := h
    rfl
theorem lastK_lt {x : List UInt8} {k : K3} {i j : Nat} (h : lastK x k i = some j) : j < i := (lastK_some h).1
structure LkD (x : List UInt8) (i : Nat) (D : DataW Unit) : Prop where
  has : ∀ k, Maps.has D (keyL k) = (lastK x k i).isSome
  at_ : ∀ k j, lastK x k i = some j → ∀ z, D.atKey (keyL k) z = .lit (.int .i64 (j : Int))
/-- A map of where three bytes stood last. -/
def LastIs (w : World) (mb : Nat) (x : List UInt8) (i : Nat) : Prop := ∃ D, w.ownsMap Try.prog 71 plI mb i D ∧ LkD x i D
theorem LastIs.blk {w : World} {mb i : Nat} {x : List UInt8} (h : LastIs w mb x i) : ∃ es clock, w.heap[mb]? = some (.map es clock) := by
  obtain ⟨D, ⟨es, clock, hb, _⟩, _⟩ := h
  exact ⟨es, clock, hb⟩
theorem LastIs.lt {w : World} {mb i : Nat} {x : List UInt8} (h : LastIs w mb x i) : mb < w.heap.size := by
  obtain ⟨es, clock, hb⟩ := h.blk
  exact lt_of_some hb
theorem LastIs.keep {w w' : World} {mb i : Nat} {x : List UInt8} (h : LastIs w mb x i) (e : w'.heap[mb]? = w.heap[mb]?) : LastIs w' mb x i := by
  obtain ⟨D, ⟨es, clock, hb, F⟩, hr⟩ := h
  exact ⟨D, ⟨es, clock, e.trans hb, F⟩, hr⟩
theorem LastIs.new (w : World) (x : List UInt8) : LastIs (w.alloc (.map #[] 0)) w.heap.size x 0 :=
  ⟨.map [], World.ownsMap_made w Try.prog 71 plI, ⟨fun _ => rfl, fun _ _ h => (by cases h)⟩⟩
theorem zeroI (W : World) : (zeroValue 3).run Try.prog W = .ok (.int .i64 0) W := by kernel_rfl
theorem LastIs.look {w : World} {mb i : Nat} {x : List UInt8} (h : LastIs w mb x i) (k : K3) : (Instr.lookup 70 (.map (some mb)) (keyV k) true).run Try.prog w = .ok (.tuple #[.int .i64 (((lastK x k i).getD 0 : Nat) : Int), .bool (lastK x k i).isSome]) w := by
  obtain ⟨D, ho, hr⟩ := h
  obtain ⟨v, ps, hrun, hv⟩ := ho.look_ok keyed3 Try.underlying70 (zeroI w) (plI_mk (j := 0) (by omega)) (keyOf3 k)
  rw [hrun]
  have h1 := hr.has k
  cases hm : lastK x k i with
  | some j =>
    rw [hr.at_ k j hm] at hv
    rw [h1, plI_inv hv, hm]
    rfl
  | none =>
    rw [hm] at h1
    rw [atKey_of_not_has h1] at hv
    rw [h1, plI_inv hv]
    rfl
theorem turned_upd {w w' : World} {b : Nat} (h : w.mapTurned w' b) : Upd (fun x => x = b) w w' ∧ w'.heap.size = w.heap.size := by
  obtain ⟨es, clock, es', clock', hb, rfl⟩ := h
  refine ⟨⟨rfl, rfl, rfl, by simp [setBlock], fun k hk hs => ?_⟩, by simp [setBlock]⟩
  exact heap_setBlock_other hb _ hs
theorem LastIs.store {w : World} {mb i : Nat} {x : List UInt8} (h : LastIs w mb x i) (hi : i ≤ 1000000) : ∃ w', (Instr.mapUpdate 70 (.map (some mb)) (keyV (key3 x i)) (.int .i64 (i : Int))).run Try.prog w = .ok () w' ∧ LastIs w' mb x (i + 1) ∧ Upd (fun x => x = mb) w w' ∧ w'.heap.size = w.heap.size := by
  obtain ⟨D, ho, hr⟩ := h
  have hm := ho.isMap
  obtain ⟨w', hrun, h1, h2⟩ := ho.store keyed3 Try.underlying70 (by unfold maxLen; omega) (keyOf3 (key3 x i)) (plI_mk hi)
  refine ⟨w', hrun, ⟨_, h1, ⟨fun k => ?_, fun k j hk z => ?_⟩⟩, turned_upd h2⟩
  · unfold lastK
    by_cases e : key3 x i = k
    · subst e
      rw [has_put_same hm (by trivial), if_pos rfl]
      rfl
    · rw [has_put_other (fun e' => e (keyL_inj e').symm), if_neg e, hr.has k]
  · unfold lastK at hk
    by_cases e : key3 x i = k
    · subst e
      rw [if_pos rfl] at hk
      cases hk
      exact atKey_put_same hm (by trivial) _ z
    · rw [if_neg e] at hk
      rw [atKey_put_other (fun e' => e (keyL_inj e').symm)]
      exact hr.at_ k j hk z
theorem str_at (s : ByteArray) (k x : Nat) (hk : k < s.size) (hx : (s.data.toList.getD k 0).toNat = x) (W : World) : (Instr.index 9 (.string s) (.int .i64 (k : Int))).run Try.prog W = .ok (.int .u8 (x : Int)) W := by
  have hk' : k < s.data.size := hk
  rw [run_index_string W 9 s .i64 (k : Int) Try.underlying9, dif_pos ⟨by omega, by omega⟩]
  congr 2
  rw [← hx, List.getD_eq_getElem?_getD, Array.getElem?_toList, Array.getElem?_eq_getElem hk']
  rfl
theorem below_drewK {B : Nat} {w V : World} (h : Below B w V) : ∀ n, Below B w (V.drewN n)
  | 0 => h
  | n + 1 => (below_drewK h n).drew
set_option maxRecDepth 100000 in
set_option maxHeartbeats 2000000 in
theorem alike_any (x : List UInt8) (fr a : Nat) (hfa : fr < a) (ha : a + 3 ≤ x.length) (hx : x.length ≤ 1000000) (w : World) : Calls Try.prog 41 #[.string (strOf x), .int .i64 (fr : Int), .int .i64 (a : Int)] w fun e w' => e = .returned (.int .i64 (alike x fr a : Int)) ∧ Below w.heap.size w w' := by
  have hz : (strOf x).size = x.length := strOf_size x
  have hT : (strOf x).data.toList = x := rfl
  have HS := fun (k : Nat) (hk : k < x.length) => str_at (strOf x) k ((x.getD k 0).toNat) (by rw [hz]; exact hk) (by rw [hT])
  have HS : Hid _ := HS
  obtain ⟨T, hT2⟩ : ∃ T, strOf x = T := ⟨_, rfl⟩
  rw [hT2] at HS hz ⊢
  obtain ⟨N, hN⟩ : ∃ N, x.length = N := ⟨_, rfl⟩
  rw [hN] at hz ha hx
  have HN : Hid (x.length = N) := hN
  obtain ⟨A, hA⟩ : ∃ A, alike x fr a = A := ⟨_, rfl⟩
  rw [hA]
  have HA : Hid (alikeN x fr a 127 3 = A) := hA
  clear hT hT2 hN hA
  go_enter Try.func41, Try.ntmps41
  go_wp2
  go_loopw [7] (fun v7 wr => ∃ n : Nat, 3 ≤ n ∧ n ≤ 130 ∧ a + n ≤ N ∧ v7 = .int .i64 (n : Int) ∧ alikeN x fr a (130 - n) n = A ∧ Below w.heap.size w wr) (fun v7 _ => 130 - (intOf v7).toNat)
  case atStart => exact ⟨3, by omega, by omega, ha, rfl, HA.out, Below.refl _ _⟩
  case round =>
    obtain ⟨n, h3, h130, haN, rfl, hal, hB⟩ := hrel
    have HB : Hid (Below w.heap.size w wr) := hB
    have w1 : IntKind.i64.wrap ((a : Int) + (n : Int)) = ((a + n : Nat) : Int) := by rw [IntKind.wrap_i64]; omega
    have w2 : IntKind.i64.wrap ((fr : Int) + (n : Int)) = ((fr + n : Nat) : Int) := by rw [IntKind.wrap_i64]; omega
    by_cases hn : n < 130
    · have k1 : (n : Int) < 130 := by omega
      have hal := hal
      rw [show 130 - n = (129 - n) + 1 by omega] at hal
      unfold alikeN at hal
      by_cases hl : a + n < N
      · have k2 : ((a + n : Nat) : Int) < (N : Int) := by omega
        have k2' : ((a + n : Nat) : Int) < (T.size : Int) := by omega
        obtain ⟨p, hp⟩ : ∃ p, (x.getD (fr + n) 0).toNat = p := ⟨_, rfl⟩
        obtain ⟨q, hq⟩ : ∃ q, (x.getD (a + n) 0).toNat = q := ⟨_, rfl⟩
        have i1 : ∀ W, (Instr.index 9 (.string T) (.int .i64 ((fr + n : Nat) : Int))).run Try.prog W = .ok (.int .u8 (p : Int)) W := by rw [← hp]; exact HS.out (fr + n) (by rw [HN.out]; omega)
        have i2 : ∀ W, (Instr.index 9 (.string T) (.int .i64 ((a + n : Nat) : Int))).run Try.prog W = .ok (.int .u8 (q : Int)) W := by rw [← hq]; exact HS.out (a + n) (by rw [HN.out]; omega)
        have hpq : x.getD (fr + n) 0 = x.getD (a + n) 0 ↔ p = q := by rw [← hp, ← hq]; exact UInt8.toNat_inj.symm
        by_cases he : p = q
        · have HAL : Hid (alikeN x fr a (130 - (n + 1)) (n + 1) = A) := by
            rw [if_pos ⟨hn, by rw [HN.out]; exact hl, hpq.2 he⟩] at hal
            show _ = A
            rw [show 130 - (n + 1) = 129 - n by omega]; exact hal
          subst he
          clear hal hB hp hq hpq hz
          obtain ⟨J, hJ⟩ : ∃ J, fr + n = J := ⟨_, rfl⟩
          obtain ⟨K, hK⟩ : ∃ K, a + n = K := ⟨_, rfl⟩
          rw [hJ] at w2 i1
          rw [hK] at w1 i2 k2 k2'
          have hd : decide ((K : Int) < (T.size : Int)) = true := by simpa using k2'
          clear hJ hK
          go_wp2
          go_quiet (fail)
          go_wp2
          exact ⟨⟨n + 1, by omega, by omega, by omega, by go_num, HAL.out, below_drewK HB.out _⟩, by simp [intOf]; omega⟩
        · have HAL : Hid (n = A) := by
            rw [if_neg (fun h => he (hpq.1 h.2.2))] at hal
            exact hal
          have ke : ¬ (p : Int) = (q : Int) := by omega
          have ke2 : ((p : Int) == (q : Int)) = false := by simpa using ke
          have ke3 : decide ((p : Int) = (q : Int)) = false := by simpa using ke
          clear hal hB hp hq hpq hz he
          obtain ⟨J, hJ⟩ : ∃ J, fr + n = J := ⟨_, rfl⟩
          obtain ⟨K, hK⟩ : ∃ K, a + n = K := ⟨_, rfl⟩
          rw [hJ] at w2 i1
          rw [hK] at w1 i2 k2 k2'
          have hd : decide ((K : Int) < (T.size : Int)) = true := by simpa using k2'
          clear hJ hK
          go_wp2
          go_quiet (fail)
          go_wp2
          go_ret
          exact ⟨by rw [HAL.out]; rfl, below_drewK HB.out _⟩
      · have HAL : Hid (n = A) := by
          rw [if_neg (fun h => hl (by rw [← HN.out]; exact h.2.1))] at hal
          exact hal
        have k2 : ¬ ((a + n : Nat) : Int) < (T.size : Int) := by omega
        obtain ⟨K, hK⟩ : ∃ K, a + n = K := ⟨_, rfl⟩
        rw [hK] at w1 k2
        clear hal hB hz hK
        go_wp2
        have hd : decide (K < T.size) = false := by simp; omega
        go_quiet (fail)
        go_wp2
        go_ret
        exact ⟨by rw [HAL.out]; rfl, below_drewK HB.out _⟩
    · have hn : n = 130 := by omega
      subst hn
      have HAL : Hid (130 = A) := hal
      clear hal hB hz
      go_wp2
      go_quiet (fail)
      go_wp2
      go_ret
      exact ⟨by rw [← HAL.out]; rfl, below_drewK HB.out _⟩
end Go.Proofs.Ytekbmdpokghmmaa
