/- Texts: the walks over textSize, appendText, num.PutText and the document's Text. -/
import Derived.Test.YtbomopjngpnghabS
import Derived.Deep.AppendSrc
namespace Go.Proofs.Ytbomopjngpnghab
open Go.RowKit

/-- A text's bytes: how many, and they. -/
def textN (t : List UInt8) : List UInt8 := putN t.length ++ t

theorem run_append_str (w : World) (ty : TypeId) (base g k cap : Nat) (ys : List UInt8) (s : ByteArray) (hown : w.ownsRow base 5 1 (.slice (some ⟨g, 0, none⟩) k cap) k (bytesV ys)) (hroom : k + s.size ≤ cap) :
    ∃ w', (Builtin.append_ #[22, 9] ty #[.slice (some ⟨g, 0, none⟩) k cap, .string s]).run Try.prog w = .ok (.slice (some ⟨g, 0, none⟩) (k + s.size) cap) w' ∧
      w'.ownsRow base 5 1 (.slice (some ⟨g, 0, none⟩) (k + s.size) cap) (k + s.size) (bytesV (ys ++ s.data.toList)) ∧ w.grownBy w' (some g) := by
  obtain ⟨i0, hi, hz0, hz1, hz2⟩ := info_parts info5
  have hbc : byteCells s = bytesV s.data.toList := rfl
  have hlen := byteCells_length s
  rcases hown.2 with ⟨e, _⟩ | ⟨g', cap', cur, e, hbg, hg, hnc, hcm, hcs, htake⟩
  · cases e
  · cases e
    have hyl : ys.length = k := by have := hown.1; simpa [bytesV] using this
    have h1 : ∀ u ∈ byteCells s, u.oneCell' = true := by rw [hbc]; exact bytesV_one _
    have hst := run_storeCells_at Try.prog g k 5 (byteCells s) 0 cur w hg (by simp; omega) h1
    simp only [Nat.add_zero] at hst
    refine ⟨w.setRow g (cur.toList.take k ++ byteCells s ++ cur.toList.drop (k + (byteCells s).length)).toArray, ?_, ⟨by rw [bytesV_len, List.length_append, hyl]; simp, .inr ⟨g, cap, _, rfl, hbg, setRow_heap w g cur _ 5 _ hg, hroom, hcm, ?_, ?_⟩⟩, ⟨rfl, rfl, rfl, by simp, fun k _ hk => setRow_other w g k _ (fun e => hk (by simp [e]))⟩⟩
    · simp [Builtin.append_, run_underlying Try.underlying22, run_underlying Try.underlying9, sizeOf, typeInfo, hi, hz1, Builtin.lenOf, hroom, firstCells_string, Addr.add_lit, hst]
    · simp only [List.size_toArray, List.length_append, List.length_take, List.length_drop, Array.length_toList]
      omega
    · rw [bytesV_append, ← hbc]
      simp only [Nat.mul_one] at htake ⊢
      rw [htake]
      have : (bytesV ys ++ byteCells s).length = k + s.size := by rw [List.length_append, bytesV_len]; omega
      rw [← this]
      exact List.take_left

theorem wpList_append_str (w : World) {ops : Array Oper} {rest : List Oper} {o : Oper} {a : Act} {Q : Exit → Act → World → Prop} (hgd : o.guard = none) (s x : Operand)
    (ho : o.op = .call { callee := .builtin .append, args := #[s, x], argTypes := #[22, 9] }) (base g k cap : Nat) (ys : List UInt8) (hs : a.eval s = .slice (some ⟨g, 0, none⟩) k cap)
    (hown : w.ownsRow base 5 1 (.slice (some ⟨g, 0, none⟩) k cap) k (bytesV ys)) (t : ByteArray) (hx : a.eval x = .string t) (hroom : k + t.size ≤ cap)
    (h : ∀ w', w'.ownsRow base 5 1 (.slice (some ⟨g, 0, none⟩) (k + t.size) cap) (k + t.size) (bytesV (ys ++ t.data.toList)) → w.grownBy w' (some g) → wpList Try.prog ops Q rest (a.put o.dst (.slice (some ⟨g, 0, none⟩) (k + t.size) cap)) w') :
    wpList Try.prog ops Q (o :: rest) a w := by
  refine wpList_plain hgd fun K hK => ?_
  obtain ⟨w', hrun, h1, h2⟩ := run_append_str w o.type base g k cap ys t hown hroom
  unfold Oper.wp
  simp [execOp, ho, resolve, invoke, builtin, hs, hx, hrun, Result.andThen]
  exact hK _ _ (h w' h1 h2)

set_option maxHeartbeats 400000 in
theorem tsize_any (s : ByteArray) (w : World) (hs : s.size ≤ 100000) :
    Calls Try.prog 16 #[.string s] w fun e w' => e = .returned (.int .i64 (((putN s.size).length + s.size : Nat) : Int)) ∧ w' = w := by
  have h10 := putN_le10 s.size (by omega)
  go_enter Try.func16, Try.ntmps16
  go_wp2_with (go_at_call 12; refine (size_ex s.size _ (by omega)).mono ?_; rintro e w' ⟨rfl, rfl⟩)
  go_ret
  exact ⟨ret_int (by simp), rfl⟩

set_option maxHeartbeats 400000 in
theorem atext_any (base g cap : Nat) (bs : List UInt8) (s : ByteArray) (w : World) (hs : s.size ≤ 100000) (hfit : bs.length + (putN s.size).length + s.size ≤ cap)
    (hown : w.ownsRow base 5 1 (.slice (some ⟨g, 0, none⟩) bs.length cap) bs.length (bytesV bs)) :
    Calls Try.prog 15 #[.slice (some ⟨g, 0, none⟩) bs.length cap, .string s] w fun e w' => e = .returned (.slice (some ⟨g, 0, none⟩) (bs.length + (textN s.data.toList).length) cap) ∧
      w'.ownsRow base 5 1 (.slice (some ⟨g, 0, none⟩) (bs.length + (textN s.data.toList).length) cap) (bs.length + (textN s.data.toList).length) (bytesV (bs ++ textN s.data.toList)) ∧ w.grownBy w' (some g) := by
  have hsl : s.data.toList.length = s.size := by simp
  have HT : Hid (bs.length + (putN s.size).length + s.size = bs.length + (textN s.data.toList).length) := by simp [Hid, textN, hsl]; omega
  have HU : Hid (bs ++ (putN s.size ++ s.data.toList) = bs ++ textN s.data.toList) := by simp [Hid, textN, hsl]
  clear hsl
  go_enter Try.func15, Try.ntmps15
  go_wp2_with fail
  refine (append_any base g cap bs s.size _ (by omega) (by omega) hown).mono ?_
  rintro e w1 ⟨rfl, hown1, hgrow1⟩
  clear hown
  have hl1 : (bs ++ putN s.size).length = bs.length + (putN s.size).length := by simp
  go_wp2_with (at_builtin; refine wpList_append_str _ rfl _ _ rfl base g (bs.length + (putN s.size).length) cap (bs ++ putN s.size) rfl hown1 s rfl hfit ?_)
  intro w2 hown2 hgrow2
  go_wp2
  go_ret
  rw [HT.out, HU.out] at hown2
  exact ⟨by rw [← HT.out]; rfl, hown2, grownBy_trans hgrow1 hgrow2⟩

set_option maxHeartbeats 400000 in
theorem ptext_any (a : Option Addr) (len cap : Nat) (bs : List UInt8) (s : ByteArray) (w : World) (h : Bs w a len cap bs) (hb : len ≤ 100000) (hs : s.size ≤ 100000) (T : Nat) (hT' : (textN s.data.toList).length = T) :
    Calls Try.prog 7 #[.slice a len cap, .string s] w fun e w' => ∃ g, e = .returned (.slice (some ⟨g, 0, none⟩) (len + T) (len + T)) ∧
      Bs w' (some ⟨g, 0, none⟩) (len + T) (len + T) (bs ++ textN s.data.toList) ∧ Below w.heap.size w w' ∧ w.heap.size ≤ g := by
  have h10 := putN_le10 s.size (by omega)
  have hT : (putN s.size).length + s.size = (textN s.data.toList).length := by simp [textN]
  have HT : Hid ((textN s.data.toList).length = T) := hT'
  have hTT : (putN s.size).length + s.size = T := by omega
  obtain ⟨rfl, _⟩ : bs.length = len ∧ True := ⟨h.1, trivial⟩
  have HTT : Hid ((putN s.size).length + s.size = T) := hTT
  have hTb : T ≤ 200000 := by omega
  clear hT' hT hTT
  go_enter Try.func7, Try.ntmps7
  go_wp2_with fail
  refine (tsize_any s _ hs).mono ?_
  rw [HTT.out]
  rintro e w' ⟨rfl, hw⟩
  subst hw
  go_wp2_with fail
  refine (room_any a bs.length cap T bs _ h (by omega)).mono ?_
  rintro e w1 ⟨rfl, hown1, hbel1⟩
  go_wp2_with fail
  refine (atext_any _ _ _ bs s _ hs (by have := HTT.out; omega) hown1).mono ?_
  rw [HT.out]
  rintro e w2 ⟨rfl, hown2, hgrow2⟩
  clear hown1
  go_wp2
  go_ret
  exact ⟨_, rfl, Bs.owned hown2, hbel1.grown hgrow2 hbel1.size (by simp), Nat.le_refl _⟩

end Go.Proofs.Ytbomopjngpnghab
