/- Walks over num's texts, and the document's. -/
import Derived.Test.YtkhidkilkbmpoaaDoorHF
import Derived.Test.YtkhidkilkbmpoaaDoorQT
import Derived.Test.YtkhidkilkbmpoaaDoorCG
import Derived.Deep.AppendSrc
import Derived.Lib.Strings
import Derived.Laws.Slices
namespace Go.Proofs.YtkhidkilkbmpoaaDoor
open Go.RowKit
theorem Bs.str {w : World} {a : Option Addr} {len cap : Nat} {bs : List UInt8} (h : Bs w a len cap bs) : (convert 45 9 (.slice a len cap)).run Tryd.prog w = .ok (.string (strOf bs)) w := h.conv
theorem rput_ex (n : Nat) (w : World) (hn : n < 18446744073709551616) : Calls Tryd.prog 38 #[.int .u64 (n : Int)] w fun e w' => e = .returned (.string (putS n)) ∧ Below w.heap.size w w' := by
  have := rput (n : Int) w (by omega) (by omega)
  simpa using this
theorem size_ex (n : Nat) (w : World) (hn : n < 18446744073709551616) : Calls Tryd.prog 65 #[.int .u64 (n : Int)] w fun e w' => e = .returned (.int .i64 ((putN n).length : Int)) ∧ w' = w := by
  have := size_any (n : Int) w (by omega) (by omega)
  simpa [sizeI] using this
theorem get3 (a : Option Addr) (len cap : Nat) (bs : List UInt8) (p : Int) (n : Nat) (q : Int) (er : Nat) (hr : getAt bs p = (n, q, er)) (w : World) (h : Bs w a len cap bs) (hp : -9223372036854775808 ≤ p ∧ p ≤ 9223372036854775807) :
    Calls Tryd.prog 77 #[.slice a len cap, .int .i64 p] w fun e w' => e = .returned (.tuple #[.int .u64 (n : Int), .int .i64 q, .int .i64 (er : Int)]) ∧ w' = w := by
  have := get_any a len cap bs p w h hp.1 hp.2
  rw [hr] at this
  exact this
theorem rget3 (bs : List UInt8) (p : Int) (n : Nat) (q : Int) (er : Nat) (hr : getAt bs p = (n, q, er)) (w : World) (h : bs.length ≤ 9223372036854775807) (hp : -9223372036854775808 ≤ p ∧ p ≤ 9223372036854775807) :
    Calls Tryd.prog 60 #[.string ⟨bs.toArray⟩, .int .i64 p] w fun e w' => e = .returned (.tuple #[.int .u64 (n : Int), .int .i64 q, .int .i64 (er : Int)]) ∧ w' = w := by
  have := rget_any ⟨bs.toArray⟩ p w (by simpa [ByteArray.size] using h) hp.1 hp.2
  simp only [] at this
  rw [hr] at this
  exact this
theorem size5 (w : World) : (Go.sizeOf 5).run Tryd.prog w = .ok 1 w := by
  obtain ⟨i0, hi, hz0, hz1, hz2⟩ := info_parts info5
  simp [Go.sizeOf, typeInfo, hi, hz1]
theorem Bs.sub {w : World} {b off len cap : Nat} {bs : List UInt8} (h : Bs w (some ⟨b, off, none⟩) len cap bs) (l r : Nat) (h1 : l ≤ r) (h2 : r ≤ len) :
    Bs w (some ⟨b, off + l, none⟩) (r - l) (cap - l) ((bs.drop l).take (r - l)) := by
  obtain ⟨e1, e2, e3, e4, e5⟩ := h
  refine ⟨by simp; omega, by omega, by omega, (by intro e; cases e), ?_⟩
  intro ad had i hi
  cases had
  simp only [List.length_take, List.length_drop] at hi
  have := e5 _ rfl (l + i) (by omega)
  rw [Addr.add_lit] at this ⊢
  rw [Nat.add_assoc, this]
  simp
/-- What a reading that went well says of the bytes. -/
theorem getAt_ok {bs : List UInt8} {p : Int} {n : Nat} {q : Int} (h : getAt bs p = (n, q, 0)) :
    ∃ P Q : Nat, p = P ∧ q = Q ∧ P < Q ∧ Q ≤ bs.length ∧ (bs.drop P).take (Q - P) = putN n ∧ n < 18446744073709551616 := by
  unfold getAt at h
  split at h
  · simp at h
  · rename_i hb
    simp only [Prod.mk.injEq] at h
    obtain ⟨h1, h2, h3⟩ := h
    rw [if_pos h3] at h2
    obtain ⟨m, e1, e2, e3, e4, _, e6⟩ := getL_least (bs.drop p.toNat) 0 0 (getL (bs.drop p.toNat) 0 0).1 (getL (bs.drop p.toNat) 0 0).2.1 (Prod.ext rfl (Prod.ext rfl h3)) (by omega)
    simp only [Nat.pow_zero, Nat.mul_one, Nat.zero_add, Nat.sub_zero] at e1 e2 e3 e4 e6
    have em : m = n := by omega
    subst em
    have hp := putN_pos m
    have hl := List.length_drop (i := p.toNat) (l := bs)
    refine ⟨p.toNat, p.toNat + (putN m).length, by omega, by omega, by omega, by omega, ?_, e6⟩
    rw [show p.toNat + (putN m).length - p.toNat = (putN m).length by omega, e3, e2]
    simp
/-- One that went not well. -/
theorem getL_no : ∀ (l : List UInt8) (i acc : Nat), (getL l i acc).2.2 ≠ 0 → (getL l i acc).1 = 0 ∧ (getL l i acc).2.1 = 0
  | [], i, acc, _ => by unfold getL; split <;> exact ⟨rfl, rfl⟩
  | c :: t, i, acc, h => by
    unfold getL at h ⊢
    split
    · exact ⟨rfl, rfl⟩
    · rename_i h1
      rw [if_neg h1] at h
      split
      · rename_i h2
        rw [if_pos h2] at h
        exact getL_no t _ _ h
      · rename_i h2
        rw [if_neg h2] at h
        split
        · exact ⟨rfl, rfl⟩
        · rename_i h3
          rw [if_neg h3] at h
          exact absurd rfl h
theorem run_append_str (w : World) (ty : TypeId) (base g k cap : Nat) (ys : List UInt8) (s : ByteArray) (hown : w.ownsRow base 5 1 (.slice (some ⟨g, 0, none⟩) k cap) k (bytesV ys)) (hroom : k + s.size ≤ cap) :
    ∃ w', (Builtin.append_ #[45, 9] ty #[.slice (some ⟨g, 0, none⟩) k cap, .string s]).run Tryd.prog w = .ok (.slice (some ⟨g, 0, none⟩) (k + s.size) cap) w' ∧
      w'.ownsRow base 5 1 (.slice (some ⟨g, 0, none⟩) (k + s.size) cap) (k + s.size) (bytesV (ys ++ s.data.toList)) ∧ w.grownBy w' (some g) := by
  obtain ⟨i0, hi, hz0, hz1, hz2⟩ := info_parts info5
  have hbc : byteCells s = bytesV s.data.toList := rfl
  have hlen := byteCells_length s
  rcases hown.2 with ⟨e, _⟩ | ⟨g', cap', cur, e, hbg, hg, hnc, hcm, hcs, htake⟩
  · cases e
  · cases e
    have hyl : ys.length = k := by have := hown.1; simpa [bytesV] using this
    have h1 : ∀ u ∈ byteCells s, u.oneCell' = true := by rw [hbc]; exact bytesV_one _
    have hst := run_storeCells_at Tryd.prog g k 5 (byteCells s) 0 cur w hg (by simp; omega) h1
    simp only [Nat.add_zero] at hst
    refine ⟨w.setRow g (cur.toList.take k ++ byteCells s ++ cur.toList.drop (k + (byteCells s).length)).toArray, ?_, ⟨by rw [bytesV_len, List.length_append, hyl]; simp, .inr ⟨g, cap, _, rfl, hbg, setRow_heap w g cur _ 5 _ hg, hroom, hcm, ?_, ?_⟩⟩, ⟨rfl, rfl, rfl, by simp, fun k _ hk => setRow_other w g k _ (fun e => hk (by simp [e]))⟩⟩
    · simp [Builtin.append_, run_underlying Tryd.underlying45, run_underlying Tryd.underlying9, sizeOf, typeInfo, hi, hz1, Builtin.lenOf, hroom, firstCells_string, Addr.add_lit, hst]
    · simp only [List.size_toArray, List.length_append, List.length_take, List.length_drop, Array.length_toList]
      omega
    · rw [bytesV_append, ← hbc]
      simp only [Nat.mul_one] at htake ⊢
      rw [htake]
      have : (bytesV ys ++ byteCells s).length = k + s.size := by rw [List.length_append, bytesV_len]; omega
      rw [← this]
      exact List.take_left
theorem wpList_append_str (w : World) {ops : Array Oper} {rest : List Oper} {o : Oper} {a : Act} {Q : Exit → Act → World → Prop} (hgd : o.guard = none) (s x : Operand)
    (ho : o.op = .call { callee := .builtin .append, args := #[s, x], argTypes := #[45, 9] }) (base g k cap : Nat) (ys : List UInt8) (hs : a.eval s = .slice (some ⟨g, 0, none⟩) k cap)
    (hown : w.ownsRow base 5 1 (.slice (some ⟨g, 0, none⟩) k cap) k (bytesV ys)) (t : ByteArray) (hx : a.eval x = .string t) (hroom : k + t.size ≤ cap)
    (h : ∀ w', w'.ownsRow base 5 1 (.slice (some ⟨g, 0, none⟩) (k + t.size) cap) (k + t.size) (bytesV (ys ++ t.data.toList)) → w.grownBy w' (some g) → wpList Tryd.prog ops Q rest (a.put o.dst (.slice (some ⟨g, 0, none⟩) (k + t.size) cap)) w') :
    wpList Tryd.prog ops Q (o :: rest) a w := by
  refine wpList_plain hgd fun K hK => ?_
  obtain ⟨w', hrun, h1, h2⟩ := run_append_str w o.type base g k cap ys t hown hroom
  unfold Oper.wp
  simp [execOp, ho, resolve, invoke, builtin, hs, hx, hrun, Result.andThen]
  exact hK _ _ (h w' h1 h2)
set_option maxRecDepth 100000 in
set_option maxHeartbeats 400000 in
theorem tsize_any (s : ByteArray) (w : World) (hs : s.size ≤ 100000) :
    Calls Tryd.prog 63 #[.string s] w fun e w' => e = .returned (.int .i64 (((putN s.size).length + s.size : Nat) : Int)) ∧ w' = w := by
  have h10 := putN_le10 s.size (by omega)
  go_enter Tryd.func63, Tryd.ntmps63
  go_wp2_with (go_at_call 65; refine (size_ex s.size _ (by omega)).mono ?_; rintro e w' ⟨rfl, rfl⟩)
  go_ret
  exact ⟨ret_int (by simp), rfl⟩
set_option maxRecDepth 100000 in
set_option maxHeartbeats 400000 in
theorem atext_any (base g cap : Nat) (bs : List UInt8) (s : ByteArray) (w : World) (hs : s.size ≤ 100000) (hcap : cap ≤ 2000000) (hfit : bs.length + (putN s.size).length + s.size ≤ cap)
    (hown : w.ownsRow base 5 1 (.slice (some ⟨g, 0, none⟩) bs.length cap) bs.length (bytesV bs)) :
    Calls Tryd.prog 61 #[.slice (some ⟨g, 0, none⟩) bs.length cap, .string s] w fun e w' => e = .returned (.slice (some ⟨g, 0, none⟩) (bs.length + (textN s.data.toList).length) cap) ∧
      w'.ownsRow base 5 1 (.slice (some ⟨g, 0, none⟩) (bs.length + (textN s.data.toList).length) cap) (bs.length + (textN s.data.toList).length) (bytesV (bs ++ textN s.data.toList)) ∧ w.grownBy w' (some g) := by
  have hsl : s.data.toList.length = s.size := by simp
  have HT : Hid (bs.length + (putN s.size).length + s.size = bs.length + (textN s.data.toList).length) := by simp [Hid, textN, hsl]; omega
  have HU : Hid (bs ++ (putN s.size ++ s.data.toList) = bs ++ textN s.data.toList) := by simp [Hid, textN, hsl]
  clear hsl
  go_enter Tryd.func61, Tryd.ntmps61
  go_wp2_with fail
  refine (append_any base g cap bs s.size _ (by omega) hcap (by omega) hown).mono ?_
  rintro e w1 ⟨rfl, hown1, hgrow1⟩
  clear hown
  have hl1 : (bs ++ putN s.size).length = bs.length + (putN s.size).length := by simp
  go_wp2_with (at_builtin; refine wpList_append_str _ rfl _ _ rfl base g (bs.length + (putN s.size).length) cap (bs ++ putN s.size) rfl hown1 s rfl hfit ?_)
  intro w2 hown2 hgrow2
  go_wp2
  go_ret
  rw [HT.out, HU.out] at hown2
  exact ⟨by rw [← HT.out]; rfl, hown2, grownBy_trans hgrow1 hgrow2⟩
set_option maxRecDepth 100000 in
set_option maxHeartbeats 400000 in
theorem ptext_any (a : Option Addr) (len cap : Nat) (bs : List UInt8) (s : ByteArray) (w : World) (h : Bs w a len cap bs) (hb : len ≤ 100000) (hs : s.size ≤ 100000) (T : Nat) (hT' : (textN s.data.toList).length = T) :
    Calls Tryd.prog 45 #[.slice a len cap, .string s] w fun e w' => ∃ g, e = .returned (.slice (some ⟨g, 0, none⟩) (len + T) (len + T)) ∧
      Bs w' (some ⟨g, 0, none⟩) (len + T) (len + T) (bs ++ textN s.data.toList) ∧ Below w.heap.size w w' := by
  have h10 := putN_le10 s.size (by omega)
  have hT : (putN s.size).length + s.size = (textN s.data.toList).length := by simp [textN]
  have HT : Hid ((textN s.data.toList).length = T) := hT'
  have hTT : (putN s.size).length + s.size = T := by omega
  obtain ⟨rfl, _⟩ : bs.length = len ∧ True := ⟨h.1, trivial⟩
  have HTT : Hid ((putN s.size).length + s.size = T) := hTT
  have hTb : T ≤ 200000 := by omega
  clear hT' hT hTT
  go_enter Tryd.func45, Tryd.ntmps45
  go_wp2_with fail
  refine (tsize_any s _ hs).mono ?_
  rw [HTT.out]
  rintro e w' ⟨rfl, hw⟩
  subst hw
  go_wp2_with fail
  refine (room_any a bs.length cap T bs _ h (by omega)).mono ?_
  rintro e w1 ⟨rfl, hown1, hbel1⟩
  go_wp2_with fail
  refine (atext_any _ _ _ bs s _ hs (by omega) (by have := HTT.out; omega) hown1).mono ?_
  rw [HT.out]
  rintro e w2 ⟨rfl, hown2, hgrow2⟩
  clear hown1
  go_wp2
  go_ret
  exact ⟨_, rfl, Bs.owned hown2, hbel1.grown hgrow2 hbel1.size (by simp)⟩
set_option maxRecDepth 100000 in
set_option maxHeartbeats 400000 in
theorem rtext_any (s : ByteArray) (w : World) (hs : s.size ≤ 100000) :
    Calls Tryd.prog 39 #[.string s] w fun e w' => e = .returned (.string (strOf (textN s.data.toList))) ∧ Below w.heap.size w w' := by
  have h10 := putN_le10 s.size (by omega)
  have hsz := putS_size s.size
  have HS : Hid (strOf (textN s.data.toList) = putS s.size ++ s) := by
    unfold textN
    rw [strOf_append]
    simp [Hid, strOf, putS]
  go_enter Tryd.func39, Tryd.ntmps39
  go_wp2_with (go_at_call 38; refine (rput_ex s.size _ (by omega)).mono ?_; rintro e w' ⟨rfl, hb⟩)
  go_ret
  exact ⟨by rw [HS.out]; rfl, hb⟩
/-- 'b[l:h]' of a slice of bytes: where it lies, and what it holds. -/
theorem slice_bs (b off len cap l h : Nat) (hlh : l ≤ h) (hh : h ≤ cap) :
    ∃ ao : Addr, (∀ W, (Instr.slice 45 (.slice (some ⟨b, off, none⟩) len cap) (some (.int .i64 (l : Int))) (some (.int .i64 (h : Int))) none).run Tryd.prog W = .ok (.slice (some ao) (h - l) (cap - l)) W) ∧
      ∀ W bs, h ≤ len → Bs W (some ⟨b, off, none⟩) len cap bs → Bs W (some ao) (h - l) (cap - l) ((bs.drop l).take (h - l)) := by
  have ht' : Tryd.prog.underlying 45 = some (.slice (Tryd.prog.elem 45)) := by simp [Program.elem, Tryd.underlying45]
  have he : Tryd.prog.elem 45 = 5 := by simp [Program.elem, Tryd.underlying45]
  by_cases hc : cap = l
  · refine ⟨⟨b, off, none⟩, fun W => ?_, fun W bs hl hb => ?_⟩
    · rw [run_slice_lh W 45 _ _ _ ht' .i64 .i64 _ _ (by omega) (by omega) (by omega), he, size5]
      simp [Result.andThen, sliced, hc]
    · obtain ⟨e1, e2, e3, e4, e5⟩ := hb
      refine ⟨by simp; omega, by omega, by omega, (by intro e; cases e), ?_⟩
      intro ad had i hi
      simp only [List.length_take, List.length_drop] at hi
      omega
  · refine ⟨⟨b, off + l, none⟩, fun W => ?_, fun W bs hl hb => hb.sub l h hlh hl⟩
    rw [run_slice_lh W 45 _ _ _ ht' .i64 .i64 _ _ (by omega) (by omega) (by omega), he, size5]
    by_cases h0 : l = 0
    · subst h0
      simp [Result.andThen, sliced, Addr.add, hc]
    · simp [Result.andThen, sliced, Addr.add, hc, h0]
set_option maxRecDepth 100000 in
set_option maxHeartbeats 400000 in
theorem count_any (a : Option Addr) (len cap : Nat) (bs : List UInt8) (p most : Int) (n : Nat) (q : Int) (er : Nat) (hr : cntAt bs p most = (n, q, er)) (w : World) (h : Bs w a len cap bs) (hp : -9223372036854775808 ≤ p ∧ p ≤ 9223372036854775807) (hm : -9223372036854775808 ≤ most ∧ most ≤ 9223372036854775807) :
    Calls Tryd.prog 89 #[.slice a len cap, .int .i64 p, .int .i64 most] w fun e w' => e = .returned (.tuple #[.int .i64 (n : Int), .int .i64 q, .int .i64 (er : Int)]) ∧ w' = w := by
  obtain ⟨n0, q0, er0, hr0⟩ : ∃ n q er, getAt bs p = (n, q, er) := ⟨_, _, _, rfl⟩
  unfold cntAt at hr
  rw [hr0] at hr
  simp only at hr
  have HR : Hid (getAt bs p = (n0, q0, er0)) := hr0
  clear hr0
  by_cases he : er0 = 0
  · subst he
    rw [if_neg (by simp)] at hr
    by_cases hx : max most 0 < (n0 : Int)
    · rw [if_pos hx] at hr
      simp only [Prod.mk.injEq] at hr
      obtain ⟨rfl, rfl, rfl⟩ := hr
      by_cases h0 : most < 0
      all_goals
        have hx' : max most 0 < (n0 : Int) := hx
        clear hx
        go_enter Tryd.func89, Tryd.ntmps89
        go_wp2_with (go_at_call 77; refine (get3 _ _ _ bs _ n0 q0 0 HR.out _ h hp).mono ?_; rintro e w' ⟨rfl, rfl⟩)
        go_ret3
        exact ⟨rfl, rfl⟩
    · rw [if_neg hx] at hr
      simp only [Prod.mk.injEq] at hr
      obtain ⟨rfl, rfl, rfl⟩ := hr
      by_cases h0 : most < 0
      all_goals
        go_enter Tryd.func89, Tryd.ntmps89
        go_wp2_with (go_at_call 77; refine (get3 _ _ _ bs _ n0 q0 0 HR.out _ h hp).mono ?_; rintro e w' ⟨rfl, rfl⟩)
        go_ret3
        exact ⟨rfl, rfl⟩
  · rw [if_pos he] at hr
    simp only [Prod.mk.injEq] at hr
    obtain ⟨rfl, rfl, rfl⟩ := hr
    have her' : ((er0 : Int) == 0) = false := by simp [he]
    go_enter Tryd.func89, Tryd.ntmps89
    go_wp2_with (go_at_call 77; refine (get3 _ _ _ bs _ n0 q0 er0 HR.out _ h hp).mono ?_; rintro e w' ⟨rfl, rfl⟩)
    go_ret3
    exact ⟨rfl, rfl⟩
/-- What a count that went well says. -/
theorem cntAt_ok {bs : List UInt8} {p most : Int} {n : Nat} {q : Int} (h : cntAt bs p most = (n, q, 0)) : getAt bs p = (n, q, 0) ∧ (n : Int) ≤ max most 0 := by
  unfold cntAt at h
  split at h
  · rename_i h1
    simp only [Prod.mk.injEq] at h
    exact absurd h.2.2 h1
  · split at h
    · simp only [Prod.mk.injEq] at h
      omega
    · rename_i h2
      rw [h] at h2
      exact ⟨h, by omega⟩
set_option maxRecDepth 100000 in
set_option maxHeartbeats 800000 in
theorem gtext_any (a : Option Addr) (len cap : Nat) (bs : List UInt8) (p most : Int) (t : List UInt8) (q : Int) (er : Nat) (hr : textAt bs p most = (t, q, er)) (w : World) (h : Bs w a len cap bs) (hp : -9223372036854775808 ≤ p ∧ p ≤ 9223372036854775807) (hm : -9223372036854775808 ≤ most ∧ most ≤ 9223372036854775807) :
    Calls Tryd.prog 76 #[.slice a len cap, .int .i64 p, .int .i64 most] w fun e w' => e = .returned (.tuple #[.string (strOf t), .int .i64 q, .int .i64 (er : Int)]) ∧ w' = w := by
  obtain ⟨n0, q0, er0, hr0⟩ : ∃ n q er, cntAt bs p most = (n, q, er) := ⟨_, _, _, rfl⟩
  unfold textAt at hr
  rw [hr0] at hr
  simp only at hr
  have HR : Hid (cntAt bs p most = (n0, q0, er0)) := hr0
  have hl := h.1
  have hlm : len ≤ 9223372036854775807 := Nat.le_trans h.2.1 h.2.2.1
  by_cases he : er0 = 0
  · subst he
    rw [if_neg (by simp)] at hr
    obtain ⟨hg, hmx⟩ := cntAt_ok hr0
    obtain ⟨P, Q, rfl, rfl, hPQ, hQ, _, hn⟩ := getAt_ok hg
    clear hr0 hg
    by_cases hx : (bs.length : Int) - (Q : Int) < (n0 : Int)
    · rw [if_pos hx] at hr
      simp only [Prod.mk.injEq] at hr
      obtain ⟨rfl, rfl, rfl⟩ := hr
      have hx' : (len : Int) - (Q : Int) < (n0 : Int) := by omega
      have hQ' : (Q : Int) ≤ len := by omega
      clear hl hx
      go_enter Tryd.func76, Tryd.ntmps76
      go_wp2_with (go_at_call 89; refine (count_any _ _ _ bs _ _ n0 Q 0 HR.out _ h hp hm).mono ?_; rintro e w' ⟨rfl, rfl⟩)
      go_ret3
      exact ⟨rfl, rfl⟩
    · rw [if_neg hx] at hr
      simp only [Prod.mk.injEq, Int.toNat_natCast] at hr
      obtain ⟨rfl, rfl, rfl⟩ := hr
      obtain ⟨b, off, rfl, _⟩ := h.at (by omega)
      have hc := h.2.1
      obtain ⟨ao, hs1, hs2⟩ := slice_bs b off len cap Q (Q + n0) (by omega) (by omega)
      have hB := hs2 w bs (by omega) h
      rw [show Q + n0 - Q = n0 by omega] at hB
      have hcv := hB.str
      simp only [show Q + n0 - Q = n0 by omega, Int.natCast_add] at hs1
      have hx' : ¬ (len : Int) - (Q : Int) < (n0 : Int) := by omega
      have hQ' : (Q : Int) + (n0 : Int) ≤ len := by omega
      clear hl hx hB hs2
      go_enter Tryd.func76, Tryd.ntmps76
      go_wp2_with (go_at_call 89; refine (count_any _ _ _ bs _ _ n0 Q 0 HR.out _ h hp hm).mono ?_; rintro e w' ⟨rfl, rfl⟩)
      go_ret3
      exact ⟨rfl, rfl⟩
  · rw [if_pos he] at hr
    simp only [Prod.mk.injEq] at hr
    obtain ⟨rfl, rfl, rfl⟩ := hr
    have her' : ((er0 : Int) == 0) = false := by simp [he]
    clear hr0 hl
    go_enter Tryd.func76, Tryd.ntmps76
    go_wp2_with (go_at_call 89; refine (count_any _ _ _ bs _ _ n0 q0 er0 HR.out _ h hp hm).mono ?_; rintro e w' ⟨rfl, rfl⟩)
    go_ret3
    exact ⟨rfl, rfl⟩
theorem strOf_extract (bs : List UInt8) (k n : Nat) : (strOf bs).extract k (k + n) = strOf ((bs.drop k).take n) := by
  apply ByteArray.ext
  apply Array.toList_inj.1
  rw [Lib.extract_data]
  simp [strOf]
theorem rgetS (bs : List UInt8) (p : Int) (n : Nat) (q : Int) (er : Nat) (hr : getAt bs p = (n, q, er)) (w : World) (h : bs.length ≤ 9223372036854775807) (hp : -9223372036854775808 ≤ p ∧ p ≤ 9223372036854775807) :
    Calls Tryd.prog 60 #[.string (strOf bs), .int .i64 p] w fun e w' => e = .returned (.tuple #[.int .u64 (n : Int), .int .i64 q, .int .i64 (er : Int)]) ∧ w' = w := rget3 bs p n q er hr w h hp
set_option maxRecDepth 100000 in
set_option maxHeartbeats 800000 in
theorem rgtext_any (bs : List UInt8) (p most : Int) (t : List UInt8) (q : Int) (er : Nat) (hr : textAt bs p most = (t, q, er)) (w : World) (h : bs.length ≤ 9223372036854775807) (hp : -9223372036854775808 ≤ p ∧ p ≤ 9223372036854775807) (hm : -9223372036854775808 ≤ most ∧ most ≤ 9223372036854775807) :
    Calls Tryd.prog 42 #[.string (strOf bs), .int .i64 p, .int .i64 most] w fun e w' => e = .returned (.tuple #[.string (strOf t), .int .i64 q, .int .i64 (er : Int)]) ∧ w' = w := by
  obtain ⟨n0, q0, er0, hr0⟩ : ∃ n q er, getAt bs p = (n, q, er) := ⟨_, _, _, rfl⟩
  have HR : Hid (getAt bs p = (n0, q0, er0)) := hr0
  have hsz := strOf_size bs
  by_cases he : er0 = 0
  · subst he
    obtain ⟨P, Q, rfl, rfl, hPQ, hQ, _, hn⟩ := getAt_ok hr0
    by_cases hx : max most 0 < (n0 : Int)
    · have hc : cntAt bs (P : Int) most = (0, 0, 2) := by unfold cntAt; rw [hr0]; simp only; rw [if_neg (by simp), if_pos hx]
      unfold textAt at hr
      rw [hc] at hr
      simp only at hr
      rw [if_pos (by decide)] at hr
      simp only [Prod.mk.injEq] at hr
      obtain ⟨rfl, rfl, rfl⟩ := hr
      clear hr0 hc
      by_cases h0 : most < 0
      all_goals
        go_enter Tryd.func42, Tryd.ntmps42
        go_wp2_with (go_at_call 60; refine (rgetS bs _ n0 Q 0 HR.out _ h hp).mono ?_; rintro e w' ⟨rfl, rfl⟩)
        go_ret3
        exact ⟨rfl, rfl⟩
    · have hc : cntAt bs (P : Int) most = (n0, (Q : Int), 0) := by unfold cntAt; rw [hr0]; simp only; rw [if_neg (by simp), if_neg hx]
      unfold textAt at hr
      rw [hc] at hr
      simp only at hr
      rw [if_neg (by simp)] at hr
      have hxm : (n0 : Int) ≤ max most 0 := by omega
      clear hr0 hc hx
      by_cases hy : (bs.length : Int) - (Q : Int) < (n0 : Int)
      · rw [if_pos hy] at hr
        simp only [Prod.mk.injEq] at hr
        obtain ⟨rfl, rfl, rfl⟩ := hr
        by_cases h0 : most < 0
        all_goals
          go_enter Tryd.func42, Tryd.ntmps42
          go_wp2_with (go_at_call 60; refine (rgetS bs _ n0 Q 0 HR.out _ h hp).mono ?_; rintro e w' ⟨rfl, rfl⟩)
          all_goals
            go_ret3
            exact ⟨rfl, rfl⟩
      · rw [if_neg hy] at hr
        simp only [Prod.mk.injEq, Int.toNat_natCast] at hr
        obtain ⟨rfl, rfl, rfl⟩ := hr
        have HE : Hid _ := strOf_extract bs Q n0
        by_cases h0 : most < 0
        all_goals
          go_enter Tryd.func42, Tryd.ntmps42
          go_wp2_with (go_at_call 60; refine (rgetS bs _ n0 Q 0 HR.out _ h hp).mono ?_; rintro e w' ⟨rfl, rfl⟩)
          all_goals
            go_ret3
            exact ⟨ret_val (by rw [← HE.out]; rfl), rfl⟩
  · have hc : cntAt bs p most = (0, 0, er0) := by unfold cntAt; rw [hr0]; simp only; rw [if_pos he]
    unfold textAt at hr
    rw [hc] at hr
    simp only at hr
    rw [if_pos he] at hr
    simp only [Prod.mk.injEq] at hr
    obtain ⟨rfl, rfl, rfl⟩ := hr
    have her' : ((er0 : Int) == 0) = false := by simp [he]
    clear hr0 hc
    go_enter Tryd.func42, Tryd.ntmps42
    go_wp2_with (go_at_call 60; refine (rgetS bs _ n0 q0 er0 HR.out _ h hp).mono ?_; rintro e w' ⟨rfl, rfl⟩)
    go_ret3
    exact ⟨rfl, rfl⟩
end Go.Proofs.YtkhidkilkbmpoaaDoor
