/- The walk over NumBack. -/
import Derived.Test.YtbomopjngpnghaaS
import Derived.Deep.AppendLies
namespace Go.Proofs.Ytbomopjngpnghaa
open Go.RowKit

theorem back_all (xs bs : List UInt8) (n la K : Nat) (hl : xs.length = la) (hK : (putN n).length = K) (hn : n < 18446744073709551616) : getAt (xs ++ (putN n ++ bs)) (la : Int) = (n, ((la + K : Nat) : Int), 0) := by
  subst hl hK
  rw [getAt_in (by simp), List.drop_left, getL_back n hn]
  simp
theorem back_cut (xs : List UInt8) (n la K C : Nat) (hl : xs.length = la) (hK : (putN n).length = K) (hn : n < 18446744073709551616) (h1 : la ≤ C) (h2 : C < la + K) : getAt ((xs ++ putN n).take C) (la : Int) = (0, 0, 3) := by
  subst hl hK
  have e : (xs ++ putN n).take C = xs ++ (putN n).take (C - xs.length) := by
    rw [List.take_append, List.take_of_length_le h1]
  rw [e, getAt_in (by simp), List.drop_left, getL_cut n 0 0 _ (by have := putN_le10 n hn; omega) (by omega)]
  rfl

theorem Bs.take {w : World} {a : Option Addr} {len cap : Nat} {bs : List UInt8} (h : Bs w a len cap bs) (C : Nat) (hC : C ≤ len) : Bs w a C cap (bs.take C) := by
  obtain ⟨e1, e2, e3, e4, e5⟩ := h
  refine ⟨by simp; omega, by omega, e3, e4, ?_⟩
  intro ad had i hi
  simp only [List.length_take] at hi
  rw [e5 ad had i (by omega)]
  simp

theorem put_K (a : Option Addr) (len cap : Nat) (bs : List UInt8) (n K : Nat) (hK : (putN n).length = K) (w : World) (h : Bs w a len cap bs) (hb : len ≤ 900000) (hn : n < 18446744073709551616) :
    Calls Try.prog 11 #[.slice a len cap, .int .u64 (n : Int)] w fun e w' => ∃ g, e = .returned (.slice (some ⟨g, 0, none⟩) (len + K) (len + K)) ∧
      Bs w' (some ⟨g, 0, none⟩) (len + K) (len + K) (bs ++ putN n) ∧ Below w.heap.size w w' := by
  subst hK
  exact put_ex a len cap bs n w h hb hn
theorem size_K (n K : Nat) (hK : (putN n).length = K) (w : World) (hn : n < 18446744073709551616) : Calls Try.prog 13 #[.int .u64 (n : Int)] w fun e w' => e = .returned (.int .i64 (K : Int)) ∧ w' = w := by
  subst hK
  exact size_ex n w hn

/-- 'out = append(out, src...)' on bytes, out the call's own, src whatever slice of bytes: nil, empty or not. -/
theorem wpList_append_bs (w : World) {ops : Array Oper} {rest : List Oper} {o : Oper} {a : Act} {Q : Exit → Act → World → Prop} (hgd : o.guard = none) (s x : Operand)
    (ho : o.op = .call { callee := .builtin .append, args := #[s, x], argTypes := #[22, 22] }) (base g k cap : Nat) (ys : List UInt8) (hs : a.eval s = .slice (some ⟨g, 0, none⟩) k cap)
    (hown : w.ownsRow base 5 1 (.slice (some ⟨g, 0, none⟩) k cap) k (bytesV ys)) (ao : Option Addr) (m c : Nat) (bs : List UInt8) (hx : a.eval x = .slice ao m c) (hb : Bs w ao m c bs)
    (hbd : k + m ≤ 10000000) (hbase : base ≤ w.heap.size)
    (h : ∀ g' cap' w', w'.ownsRow base 5 1 (.slice (some ⟨g', 0, none⟩) (k + m) cap') (k + m) (bytesV (ys ++ bs)) → w.grownBy w' (some g) → wpList Try.prog ops Q rest (a.put o.dst (.slice (some ⟨g', 0, none⟩) (k + m) cap')) w') :
    wpList Try.prog ops Q (o :: rest) a w := by
  obtain ⟨i0, hi, hz0, hz1, hz2⟩ := info_parts info5
  have hl : (bytesV bs).length = m * 1 := by rw [bytesV_len, hb.1]; omega
  by_cases h0 : 0 < m
  · obtain ⟨b, off, rfl, _⟩ := hb.at h0
    refine wpList_append_lies w hgd s x 22 ho base 5 i0 (.int .u8 0) 1 1 Try.underlying22 hi hz0 hz1 hz2 rfl (by decide) _ k (bytesV ys) hs hown ⟨b, off, none⟩ m c (bytesV bs) hx hl (hb.cells _ rfl) (bytesV_one bs) h0 (by unfold maxLen; omega) (by omega) hbase _ rfl ?_
    intro g' cap' w' h1 h2 _ _
    rw [← bytesV_append] at h1
    exact h g' cap' w' h1 h2
  · obtain rfl : m = 0 := by omega
    refine wpList_append_fits_any w hgd s x 22 ho base 5 i0 1 Try.underlying22 hi hz1 g k cap (bytesV ys) hs hown ao 0 c (bytesV bs) hx hl (fun e => ⟨rfl, hb.2.2.2.1 e⟩) hb.cells (bytesV_one bs) ?_ ?_
    · rcases hown.2 with ⟨e, _⟩ | ⟨_, _, _, e, _, _, h3, _⟩
      · cases e
      · cases e; omega
    · intro w' h1 h2
      rw [← bytesV_append] at h1
      exact h g cap w' h1 h2

theorem Bs.alloc {w : World} {a : Option Addr} {len cap : Nat} {bs : List UInt8} (h : Bs w a len cap bs) (o : Obj) : Bs (w.alloc o) a len cap bs := h.grown (World.grownBy_alloc w o none) (fun k hk => by cases hk)

set_option maxHeartbeats 1000000 in
theorem numBack_walk (a b : Option Addr) (la ca lb cb : Nat) (xs bs : List UInt8) (n : Nat) (cut : Int) (w : World) (h : Bs w a la ca xs) (h' : Bs w b lb cb bs) (hn : n < 18446744073709551616) (hcut : -9223372036854775808 ≤ cut ∧ cut ≤ 9223372036854775807) :
    Calls Try.prog 5 #[.agg #[.slice a la ca, .slice b lb cb], .int .u64 (n : Int), .int .i64 cut] w fun e w' => e = .returned (.bool true) ∧ Below w.heap.size w w' := by
  have hma : la ≤ 9223372036854775807 := Nat.le_trans h.2.1 h.2.2.1
  have hmb : lb ≤ 9223372036854775807 := Nat.le_trans h'.2.1 h'.2.2.1
  by_cases ha20 : la ≤ 20000
  · by_cases hb20 : lb ≤ 20000
    · obtain ⟨K, hK⟩ : ∃ K, (putN n).length = K := ⟨_, rfl⟩
      have HK : Hid ((putN n).length = K) := hK
      have hK1 : 1 ≤ K := by have := putN_pos n; omega
      have hK2 : K ≤ 10 := by have := putN_le10 n hn; omega
      have HN : Hid (n < 18446744073709551616) := hn
      have HX : Hid (xs.length = la) := h.1
      have HA : Hid (Bs w a la ca xs) := h
      have HB : Hid (Bs w b lb cb bs) := h'
      have HR : Hid _ := back_all xs bs n la K h.1 hK hn
      clear hK hn h h' hma hmb
      go_enter Try.func5, Try.ntmps5
      go_wp2_with fail
      go_region
      go_wp2_with (go_at_call 9; refine (small_yes _ _ _ _ (by first | exact ha20 | exact hb20)).mono ?_; rintro e w' ⟨rfl, hw⟩; subst hw)
      refine (put_K a la ca xs n K HK.out _ (HA.out.below (((Below.refl _ _).alloc (Nat.le_refl _) _).drew)) (by omega) HN.out).mono ?_
      rintro e w1 ⟨g, rfl, hg, hb1⟩
      have HW1 := below_after (undrew hb1)
      have hgl : g < w1.heap.size := by
        have := World.block_lt_of_cell? w1 _ (hg.2.2.2.2 _ rfl 0 (by have := hg.1; omega))
        simpa [Addr.add] using this
      go_wp2_with (at_builtin; refine wpList_append_bs _ rfl (.tmp 34) (.tmp 35) rfl w1.heap.size w1.heap.size 0 0 [] rfl (World.ownsRow_made w1 #[] 0 (Nat.le_refl _) (by decide) rfl) (some ⟨g, 0, none⟩) (la + K) (la + K) (xs ++ putN n) rfl (hg.alloc _) (by omega) (by simp) ?_)
      intro g1 cap1 w2 hown2 hgrow2
      have HW2 : Below w.heap.size w w2 := (HW1.alloc HW1.size _).grown hgrow2 (by have := HW1.size; simp; omega) (by have := HW1.size; intro k hk; cases hk; exact this)
      have hg2 : Bs w2 (some ⟨g, 0, none⟩) (la + K) (la + K) (xs ++ putN n) := (hg.alloc _).grown hgrow2 (by
        intro k hk ad had
        cases hk; cases had
        show g ≠ _
        omega)
      clear hg
      go_wp2_with (at_builtin; refine wpList_append_bs _ rfl (.tmp 37) (.tmp 38) rfl w1.heap.size g1 (la + K) cap1 (xs ++ putN n) rfl hown2 b lb cb bs rfl (HB.out.below HW2) (by omega) (by have := hgrow2.size; simp at this; omega) ?_)
      intro g2 cap2 w3 hown3 hgrow3
      have HW3 : Below w.heap.size w w3 := HW2.grown hgrow3 (by have := HW2.size; omega) (by
        intro k hk; cases hk
        have := hown2.lt g1 rfl
        have := HW1.size
        omega)
      have hb3 := Bs.owned hown3
      have hg3 : Bs w3 (some ⟨g, 0, none⟩) (la + K) (la + K) (xs ++ putN n) := hg2.grown hgrow3 (by
        intro k hk ad had
        cases hk; cases had
        have h1 := hown2.lt g1 rfl
        show g ≠ g1
        omega)
      clear hown2 hown3 hgrow2 hgrow3 hg2 HW2
      go_wp2_with fail
      refine (get3 _ _ _ (xs ++ (putN n ++ bs)) _ n ((la + K : Nat) : Int) 0 HR.out _ hb3 (by omega)).mono ?_
      rintro e w4 ⟨rfl, hw⟩
      subst hw
      clear hb3
      by_cases hc1 : cut < la
      · go_wp2_with (first | (go_at_call 13; refine (size_K n K HK.out _ HN.out).mono ?_; rintro e w5 ⟨rfl, hw⟩; subst hw) | (go_at_call 10; refine (lives_any _).mono ?_; rintro e w' ⟨rfl, hbel⟩))
        go_ret
        exact ⟨rfl, below_on hbel HW3 HW3.size⟩
      · by_cases hc2 : cut < la + K
        · obtain ⟨C, rfl⟩ : ∃ C : Nat, cut = C := ⟨cut.toNat, by omega⟩
          have HT := hg3.take C (by omega)
          have HC : Hid _ := back_cut xs n la K C HX.out HK.out HN.out (by omega) (by omega)
          clear hg3
          go_wp2_with (go_at_call 13; refine (size_K n K HK.out _ HN.out).mono ?_; rintro e w5 ⟨rfl, hw⟩; subst hw)
          refine (get3 _ _ _ ((xs ++ putN n).take C) _ 0 0 3 HC.out _ HT (by omega)).mono ?_
          rintro e w6 ⟨rfl, hw⟩
          subst hw
          clear HT
          go_wp2_with (go_at_call 10; refine (lives_any _).mono ?_; rintro e w' ⟨rfl, hbel⟩)
          go_ret
          exact ⟨rfl, below_on hbel HW3 HW3.size⟩
        · go_wp2_with (first | (go_at_call 13; refine (size_K n K HK.out _ HN.out).mono ?_; rintro e w5 ⟨rfl, hw⟩; subst hw) | (go_at_call 10; refine (lives_any _).mono ?_; rintro e w' ⟨rfl, hbel⟩))
          go_ret
          exact ⟨rfl, below_on hbel HW3 HW3.size⟩
    · go_enter Try.func5, Try.ntmps5
      go_wp2_with fail
      go_region
      go_wp2_with fail
      refine (small_yes _ _ _ _ ha20).mono ?_
      rintro e w' ⟨rfl, hw⟩
      subst hw
      go_wp2_with fail
      refine (small_no _ _ _ _ _ hmb hb20).mono ?_
      rintro e w' ⟨rfl, hw⟩
      subst hw
      go_wp2_with (go_at_call 10; refine (lives_any _).mono ?_; rintro e w' ⟨rfl, hbel⟩)
      go_ret
      exact ⟨rfl, below_after (undrew hbel)⟩
  · go_enter Try.func5, Try.ntmps5
    go_wp2_with fail
    go_region
    go_wp2_with fail
    refine (small_no _ _ _ _ _ hma ha20).mono ?_
    rintro e w' ⟨rfl, hw⟩
    subst hw
    go_wp2_with (go_at_call 10; refine (lives_any _).mono ?_; rintro e w' ⟨rfl, hbel⟩)
    go_ret
    exact ⟨rfl, below_after (undrew hbel)⟩
end Go.Proofs.Ytbomopjngpnghaa
