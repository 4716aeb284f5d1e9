/- Walk over the program's Derive. -/
import Derived.Test.YtbflkkffpcaakabDoorCD
import Derived.Test.YtbflkkffpcaakabDoorBA
import Derived.Lib.AppendStr
namespace Go.Proofs.YtbflkkffpcaakabDoor
open Go.RowKit
/-- Bytes as values. -/
def bytesV (bs : List UInt8) : List Value := bs.map fun u => .int .u8 (u.toNat : Int)
theorem info5 : (Tryd.prog.info? 5).map (fun i => (i.zero, i.size, i.bytes)) = some (some (.int .u8 0), 1, 1) := by kernel_rfl
theorem owns_below {w w' : World} {base n : Nat} {v : Value} {xs : List Value} (h : w.ownsRow base 5 1 v n xs) (hB : Below w.heap.size w w') : w'.ownsRow base 5 1 v n xs := by
  refine ⟨h.1, ?_⟩
  rcases h.2 with h2 | ⟨g, cap, cur, h1, h2, h3, h4⟩
  · exact .inl h2
  · exact .inr ⟨g, cap, cur, h1, h2, (hB.block _ (lt_of_some h3)).trans h3, h4⟩
theorem owns_slice {w : World} {base n : Nat} {v : Value} {xs : List Value} (h : w.ownsRow base 5 1 v n xs) : ∃ a cap, v = .slice a n cap ∧ (∀ b, v.ownBlock = some b → base ≤ b) := by
  rcases h.2 with ⟨rfl, rfl⟩ | ⟨g, cap, cur, h1, h2, h3, h4⟩
  · exact ⟨none, 0, rfl, fun b hb => by simp [Value.ownBlock] at hb⟩
  · subst h1
    exact ⟨_, cap, rfl, fun b hb => by simp [Value.ownBlock] at hb; omega⟩
theorem owns_base {w : World} {base n : Nat} {v : Value} {xs : List Value} (h : w.ownsRow base 5 1 v n xs) : ∀ b, v.ownBlock = some b → base ≤ b := fun b hb => (h.lt b hb).1
theorem append_wp (w : World) {ops : Array Oper} {rest : List Oper} {o : Oper} {a : Act} {Q : Exit → Act → World → Prop} (hgd : o.guard = none) (s x : Operand)
    (ho : o.op = .call { callee := .builtin .append, args := #[s, x], argTypes := #[29, 9] }) (base n m : Nat) (v : Value) (ys : List UInt8) (hs : a.eval s = v) (hown : w.ownsRow base 5 1 v n (bytesV ys))
    (S : ByteArray) (hx : a.eval x = .string S) (hm : n + S.size = m) (hn : m ≤ 10000000) (hb : base ≤ w.heap.size)
    (h : ∀ a' cap' w', w'.ownsRow base 5 1 (.slice a' m cap') m (bytesV (ys ++ S.data.toList)) → w.grownBy w' v.ownBlock → wpList Tryd.prog ops Q rest (a.put o.dst (.slice a' m cap')) w') :
    wpList Tryd.prog ops Q (o :: rest) a w := by
  obtain ⟨i0, hi, hz0, hz1, hz2⟩ := info_parts info5
  refine Lib.wpList_append_own_string (P := Tryd.prog) w hgd s x 29 9 ho base 5 i0 Tryd.underlying29 Tryd.underlying9 hi hz0 hz1 hz2 v n (bytesV ys) hs hown S hx (by unfold maxLen; omega) (by omega) hb ?_
  intro v' w' h2 h3 _
  have e : bytesV (ys ++ S.data.toList) = bytesV ys ++ Lib.strCells S := by simp [bytesV, Lib.strCells]
  rw [← e, hm] at h2
  obtain ⟨a', cap', rfl, _⟩ := owns_slice h2
  exact h a' cap' w' h2 h3
theorem own_conv {w : World} {base n N cap : Nat} {a : Option Addr} {ys : List UInt8} (h : w.ownsRow base 5 1 (.slice a N cap) N (bytesV ys)) (hn : n ≤ N) :
    (convert 29 9 (.slice a n cap)).run Tryd.prog w = .ok (.string (strOf (ys.take n))) w := by
  have hl : ys.length = N := by have := h.1; simpa [bytesV] using this
  refine BsI.conv (w := w) ?_ (Below.refl _ _)
  have hcap : N ≤ cap ∧ cap ≤ 9223372036854775807 := by
    rcases h.2 with ⟨e, _⟩ | ⟨g, c, cur, e, _, _, h3, h4, _⟩
    · cases e; omega
    · cases e; exact ⟨h3, by simpa [maxLen] using h4⟩
  refine ⟨by rw [List.length_take]; omega, by omega, hcap.2, fun h0 => ?_⟩
  rcases h.2 with ⟨e, _⟩ | ⟨g, c, cur, e, hb, hg, h3, h4, h5, h6⟩
  · cases e; omega
  · cases e
    refine ⟨g, 0, rfl, lt_of_some hg, fun i hi => ?_⟩
    have hc := h.cells (g := g) rfl i (.int .u8 (((ys.getD i 0).toNat : Nat) : Int)) (by simp [bytesV, show i < ys.length by omega])
    rw [add_at] at hc
    rw [hc]
    congr 4
    rw [List.getD_eq_getElem?_getD, List.getD_eq_getElem?_getD, List.getElem?_take_of_lt hi]
theorem slice_to (a : Option Addr) (N n cap : Nat) (ha : (a = none ∧ cap = 0) ∨ ∃ g, a = some ⟨g, 0, none⟩) (hn : n ≤ N) (hN : N ≤ cap) (W : World) :
    (Instr.sliceAt 29 (.slice a N cap) none (some (.int .i64 (n : Int))) none).run Tryd.prog W = .ok (.slice a n cap) W := by
  have h1 : (sizeOf 5).run Tryd.prog W = .ok 1 W := by kernel_rfl
  have hc : n ≤ cap := by omega
  rcases ha with ⟨rfl, rfl⟩ | ⟨g, rfl⟩
  · obtain rfl : n = 0 := by omega
    simp [Instr.sliceAt, Instr.slice, run_underlying Tryd.underlying29, Instr.sliceBounds, Instr.sliceBound, asIntOf, h1]
  · have e : (⟨g, 0, none⟩ : Addr).add 0 = ⟨g, 0, none⟩ := add_at g 0 0
    simp [Instr.sliceAt, Instr.slice, run_underlying Tryd.underlying29, Instr.sliceBounds, Instr.sliceBound, asIntOf, h1, hc, e]
structure DerW (w0 : World) (g : Nat) (b l : List UInt8) (i : Nat) (v : Value) (wr : World) : Prop where
  blk : wr.heap[g]? = some (.cells (u8v b) 43 (0, 0))
  own : wr.ownsRow (g + 1) 5 1 v (32 * i) (bytesV (deriveA b l i))
  bel : Below w0.heap.size w0 wr
  le : w0.heap.size ≤ g
set_option maxRecDepth 100000 in
theorem derive_out (k l : ByteArray) (n : Int) (w : World) (hn : n < 0 ∨ 8160 < n) :
    Calls Tryd.prog 18 #[.string k, .string l, .int .i64 n] w fun e w' => e = .returned (.tuple #[.string ⟨#[]⟩, .int .i64 9]) ∧ w' = w := by
  go_enter Tryd.func18, Tryd.ntmps18
  by_cases h0 : n < 0
  · go_wp2
    refine bodyPost_ret (v := .tuple #[.string ⟨#[]⟩, .int .i64 9]) ?_ rfl ⟨rfl, rfl⟩
    simp [results, go_sem]
  · have h1 : 8160 < n := by omega
    go_wp2
    refine bodyPost_ret (v := .tuple #[.string ⟨#[]⟩, .int .i64 9]) ?_ rfl ⟨rfl, rfl⟩
    simp [results, go_sem]
set_option maxRecDepth 100000 in
set_option maxHeartbeats 1000000 in
theorem derive_any (k l : ByteArray) (n : Nat) (w : World) (hk : k.size ≤ 1000000000) (hl : l.size ≤ 1000000) (hn : n ≤ 8160) (hL : Laid w) :
    Calls Tryd.prog 18 #[.string k, .string l, .int .i64 (n : Int)] w fun e w' => e = .returned (.tuple #[.string (strOf (derived k.data.toList l.data.toList n)), .int .i64 0]) ∧ Below w.heap.size w w' := by
  obtain ⟨b, hb⟩ : ∃ b, blockOf k.data.toList = b := ⟨_, rfl⟩
  obtain ⟨lb, hlb⟩ : ∃ lb, l.data.toList = lb := ⟨_, rfl⟩
  have hbl : b.length = 64 := by rw [← hb, blockOf_len]
  have HK : Hid (Calls Tryd.prog 23 #[.string k] w fun e w' => e = .returned (.agg (u8v b)) ∧ Below w.heap.size w w') := by rw [← hb]; exact key_any k w hk hL
  have HI : Hid ((Tryd.prog.info? 43).map (·.size) = some (u8v b).size) := infoB b hbl
  have HF : Hid (∀ i, i ≤ 255 → n ≤ 32 * i → derived k.data.toList lb n = (deriveA b lb i).take n) := by
    intro i hi h; rw [← hb]; exact (derived_of _ _ _ _ hi h).symm
  have HSE : Hid (∀ (M : ByteArray) (W : World), M.size ≤ 1000000000 → Below w.heap.size w W → Calls Tryd.prog 24 #[.agg (u8v b), .string M] W fun e w' => e = .returned (.string (strOf (sealB b M.data.toList))) ∧ Below W.heap.size W w') := fun M W hM hB => sealby_any b M W hbl hM (hL.below hB)
  have hsz : (u8v b).size = 64 := by rw [u8v_size, hbl]
  have HLB : Hid (l.data.toList = lb) := hlb
  have k1 : ¬ (n : Int) < 0 := by omega
  have k2 : ¬ (8160 : Int) < (n : Int) := by omega
  rw [hlb]
  clear hb hlb hL hk
  go_enter Tryd.func18, Tryd.ntmps18
  go_wp2_with fail
  refine HK.out.mono ?_
  rintro e w2 ⟨rfl, hB2⟩
  have hst : (storeCells ⟨w2.heap.size, 0, none⟩ (u8v b).toList).run Tryd.prog (w2.alloc (.cells #[Value.int IntKind.u8 0, Value.int IntKind.u8 0, Value.int IntKind.u8 0, Value.int IntKind.u8 0, Value.int IntKind.u8 0, Value.int IntKind.u8 0, Value.int IntKind.u8 0, Value.int IntKind.u8 0, Value.int IntKind.u8 0, Value.int IntKind.u8 0, Value.int IntKind.u8 0, Value.int IntKind.u8 0, Value.int IntKind.u8 0, Value.int IntKind.u8 0, Value.int IntKind.u8 0, Value.int IntKind.u8 0, Value.int IntKind.u8 0, Value.int IntKind.u8 0, Value.int IntKind.u8 0, Value.int IntKind.u8 0, Value.int IntKind.u8 0, Value.int IntKind.u8 0, Value.int IntKind.u8 0, Value.int IntKind.u8 0, Value.int IntKind.u8 0, Value.int IntKind.u8 0, Value.int IntKind.u8 0, Value.int IntKind.u8 0, Value.int IntKind.u8 0, Value.int IntKind.u8 0, Value.int IntKind.u8 0, Value.int IntKind.u8 0, Value.int IntKind.u8 0, Value.int IntKind.u8 0, Value.int IntKind.u8 0, Value.int IntKind.u8 0, Value.int IntKind.u8 0, Value.int IntKind.u8 0, Value.int IntKind.u8 0, Value.int IntKind.u8 0, Value.int IntKind.u8 0, Value.int IntKind.u8 0, Value.int IntKind.u8 0, Value.int IntKind.u8 0, Value.int IntKind.u8 0, Value.int IntKind.u8 0, Value.int IntKind.u8 0, Value.int IntKind.u8 0, Value.int IntKind.u8 0, Value.int IntKind.u8 0, Value.int IntKind.u8 0, Value.int IntKind.u8 0, Value.int IntKind.u8 0, Value.int IntKind.u8 0, Value.int IntKind.u8 0, Value.int IntKind.u8 0, Value.int IntKind.u8 0, Value.int IntKind.u8 0, Value.int IntKind.u8 0, Value.int IntKind.u8 0, Value.int IntKind.u8 0, Value.int IntKind.u8 0, Value.int IntKind.u8 0, Value.int IntKind.u8 0] 43)) = .ok () ((w2.alloc (.cells #[Value.int IntKind.u8 0, Value.int IntKind.u8 0, Value.int IntKind.u8 0, Value.int IntKind.u8 0, Value.int IntKind.u8 0, Value.int IntKind.u8 0, Value.int IntKind.u8 0, Value.int IntKind.u8 0, Value.int IntKind.u8 0, Value.int IntKind.u8 0, Value.int IntKind.u8 0, Value.int IntKind.u8 0, Value.int IntKind.u8 0, Value.int IntKind.u8 0, Value.int IntKind.u8 0, Value.int IntKind.u8 0, Value.int IntKind.u8 0, Value.int IntKind.u8 0, Value.int IntKind.u8 0, Value.int IntKind.u8 0, Value.int IntKind.u8 0, Value.int IntKind.u8 0, Value.int IntKind.u8 0, Value.int IntKind.u8 0, Value.int IntKind.u8 0, Value.int IntKind.u8 0, Value.int IntKind.u8 0, Value.int IntKind.u8 0, Value.int IntKind.u8 0, Value.int IntKind.u8 0, Value.int IntKind.u8 0, Value.int IntKind.u8 0, Value.int IntKind.u8 0, Value.int IntKind.u8 0, Value.int IntKind.u8 0, Value.int IntKind.u8 0, Value.int IntKind.u8 0, Value.int IntKind.u8 0, Value.int IntKind.u8 0, Value.int IntKind.u8 0, Value.int IntKind.u8 0, Value.int IntKind.u8 0, Value.int IntKind.u8 0, Value.int IntKind.u8 0, Value.int IntKind.u8 0, Value.int IntKind.u8 0, Value.int IntKind.u8 0, Value.int IntKind.u8 0, Value.int IntKind.u8 0, Value.int IntKind.u8 0, Value.int IntKind.u8 0, Value.int IntKind.u8 0, Value.int IntKind.u8 0, Value.int IntKind.u8 0, Value.int IntKind.u8 0, Value.int IntKind.u8 0, Value.int IntKind.u8 0, Value.int IntKind.u8 0, Value.int IntKind.u8 0, Value.int IntKind.u8 0, Value.int IntKind.u8 0, Value.int IntKind.u8 0, Value.int IntKind.u8 0, Value.int IntKind.u8 0] 43)).setRow w2.heap.size (u8v b)) :=
    storeB _ w2.heap.size b zeros64 hbl rfl (by rw [litB]; exact heap_alloc_new _ _)
  obtain ⟨W3, hW3⟩ : ∃ W, W = (w2.alloc (.cells #[Value.int IntKind.u8 0, Value.int IntKind.u8 0, Value.int IntKind.u8 0, Value.int IntKind.u8 0, Value.int IntKind.u8 0, Value.int IntKind.u8 0, Value.int IntKind.u8 0, Value.int IntKind.u8 0, Value.int IntKind.u8 0, Value.int IntKind.u8 0, Value.int IntKind.u8 0, Value.int IntKind.u8 0, Value.int IntKind.u8 0, Value.int IntKind.u8 0, Value.int IntKind.u8 0, Value.int IntKind.u8 0, Value.int IntKind.u8 0, Value.int IntKind.u8 0, Value.int IntKind.u8 0, Value.int IntKind.u8 0, Value.int IntKind.u8 0, Value.int IntKind.u8 0, Value.int IntKind.u8 0, Value.int IntKind.u8 0, Value.int IntKind.u8 0, Value.int IntKind.u8 0, Value.int IntKind.u8 0, Value.int IntKind.u8 0, Value.int IntKind.u8 0, Value.int IntKind.u8 0, Value.int IntKind.u8 0, Value.int IntKind.u8 0, Value.int IntKind.u8 0, Value.int IntKind.u8 0, Value.int IntKind.u8 0, Value.int IntKind.u8 0, Value.int IntKind.u8 0, Value.int IntKind.u8 0, Value.int IntKind.u8 0, Value.int IntKind.u8 0, Value.int IntKind.u8 0, Value.int IntKind.u8 0, Value.int IntKind.u8 0, Value.int IntKind.u8 0, Value.int IntKind.u8 0, Value.int IntKind.u8 0, Value.int IntKind.u8 0, Value.int IntKind.u8 0, Value.int IntKind.u8 0, Value.int IntKind.u8 0, Value.int IntKind.u8 0, Value.int IntKind.u8 0, Value.int IntKind.u8 0, Value.int IntKind.u8 0, Value.int IntKind.u8 0, Value.int IntKind.u8 0, Value.int IntKind.u8 0, Value.int IntKind.u8 0, Value.int IntKind.u8 0, Value.int IntKind.u8 0, Value.int IntKind.u8 0, Value.int IntKind.u8 0, Value.int IntKind.u8 0, Value.int IntKind.u8 0] 43)).setRow w2.heap.size (u8v b) := ⟨_, rfl⟩
  have h3 : DerW w w2.heap.size b lb 0 (.slice none 0 0) W3 := by
    refine ⟨?_, ⟨rfl, .inl ⟨rfl, rfl⟩⟩, ?_, hB2.size⟩
    · rw [hW3]; exact setRow_heap _ _ _ _ _ _ (heap_alloc_new _ _)
    · rw [hW3]; exact Go.Proofs.YtbflkkffpcaakabDoor.below_setRow (hB2.alloc hB2.size _) _ hB2.size _
  rw [← hW3] at hst
  have HST : Hid (DerW w w2.heap.size b lb 0 (.slice none 0 0) W3) := h3
  clear hW3 h3 hB2
  go_wp2
  go_loopw [9, 10, 11] (fun o la c wr => ∃ (i N : Nat) (a : Option Addr) (cap : Nat), N = 32 * i ∧ N < n + 32 ∧ o = .slice a N cap ∧ la = .string (strOf (deriveT b lb i)) ∧ c = .int .u8 (((i + 1) % 256 : Nat) : Int) ∧ DerW w w2.heap.size b lb i o wr) (fun o _ _ _ => 9000 - sliceN o)
  case atStart => exact ⟨0, 0, none, 0, rfl, by omega, rfl, rfl, rfl, HST.out⟩
  case round =>
    obtain ⟨i, N, a, cap, hN, hNn, rfl, rfl, rfl, hrel⟩ := hrel
    by_cases hlt : N < n
    · have hi : i < 255 := by omega
      obtain ⟨c, hc⟩ : ∃ c, c = i + 1 := ⟨_, rfl⟩
      have hcm : (i + 1) % 256 = c := by omega
      rw [hcm]
      have hc1 : c ≤ 255 := by omega
      obtain ⟨T, hT⟩ : ∃ T, strOf (deriveT b lb i) = T := ⟨_, rfl⟩
      have hTs : T.size ≤ 32 := by rw [← hT, strOf_size]; exact deriveT_len _ _ _
      have hT1 : (strOf [UInt8.ofNat c]).size = 1 := rfl
      have hcv := fun (W : World) => conv_one W wr.heap.size 1 c
      have kN : (N : Int) < (n : Int) := by omega
      have HR : Hid (DerW w w2.heap.size b lb i (.slice a N cap) wr) := hrel
      have HT : Hid (deriveT b lb (i + 1) = sealB b (T ++ l ++ strOf [UInt8.ofNat c]).data.toList) := by
        show _ = _
        rw [deriveT, ← hc, ← hT, ← HLB.out]
        congr 1
      rw [hT]
      have HN : Hid (N = 32 * i) := hN
      have HC : Hid (c = i + 1) := hc
      have hwlt : w2.heap.size < wr.heap.size := lt_of_some hrel.blk
      have HB1 : Hid (Below w.heap.size w (wr.alloc (.cells #[.int .u8 (c : Int)] 5))) := hrel.bel.alloc hrel.bel.size _
      clear hrel HST hT hN hc hcm hst
      go_wp2_with (refine wpList_load_row rfl 43 _ rfl w2.heap.size rfl 43 (u8v b) (0, 0) _ HR.out.blk Tryd.underlying43 rfl HI.out ?_)
      have HSE1 := HSE.out (T ++ l ++ strOf [UInt8.ofNat c]) (wr.alloc (.cells #[.int .u8 (c : Int)] 5)) (by rw [ByteArray.size_append, ByteArray.size_append, hT1]; omega) HB1.out
      rw [← HT.out] at HSE1
      refine HSE1.mono ?_
      rintro e w4 ⟨rfl, hB4⟩
      obtain ⟨U, hU⟩ : ∃ U, strOf (deriveT b lb (i + 1)) = U := ⟨_, rfl⟩
      have hUs : U.size = 32 := by rw [← hU, strOf_size, deriveT, sealB_len]
      rw [hU]
      have hw4 : Below wr.heap.size wr w4 := ((Below.refl _ wr).alloc (Nat.le_refl _) _).trans (hB4.mono (by simp))
      have hlt4 : w2.heap.size < w4.heap.size := Nat.lt_of_lt_of_le hwlt hw4.size
      have hb4 : w4.heap[w2.heap.size]? = some (.cells (u8v b) 43 (0, 0)) := (hw4.block _ hwlt).trans HR.out.blk
      have hob := owns_base HR.out.own
      obtain ⟨N', hN'⟩ : ∃ N', N' = 32 * i + 32 := ⟨_, rfl⟩
      have HOWN : Hid (w4.ownsRow (w2.heap.size + 1) 5 1 (.slice a N cap) N (bytesV (deriveA b lb i))) := by
        have := owns_below HR.out.own hw4
        rw [← HN.out] at this
        exact this
      have H5 : Hid (∀ a' cap' w5, w5.ownsRow (w2.heap.size + 1) 5 1 (.slice a' N' cap') N' (bytesV (deriveA b lb i ++ U.data.toList)) → w4.grownBy w5 (Value.slice a N cap).ownBlock → DerW w w2.heap.size b lb (i + 1) (.slice a' N' cap') w5) := by
        intro a' cap' w5 hown hgr
        refine ⟨?_, ?_, ?_, HR.out.le⟩
        · rw [hgr.block _ hlt4 (fun e => by have := hob _ e.symm; omega)]; exact hb4
        · rw [show 32 * (i + 1) = N' by omega, deriveA, show deriveT b lb (i + 1) = U.data.toList by rw [← hU]; rfl]; exact hown
        · have hle := HR.out.le
          have hs := HR.out.bel.size
          have hB := HR.out.bel.trans (hw4.mono hs)
          exact ⟨hgr.os.trans hB.os, hgr.tape.trans hB.tape, hgr.output.trans hB.output, Nat.le_trans hB.size hgr.size, fun x hx => (hgr.block x (by omega) (fun e => by have := hob _ e.symm; omega)).trans (hB.block x hx)⟩
      have HN' : Hid (N' = 32 * i + 32) := hN'
      have HM : Hid (N + U.size = N') := by show _ = _; rw [hUs, hN', HN.out]
      have HU : Hid (strOf (deriveT b lb (i + 1)) = U) := hU
      have HLT : Hid (w2.heap.size + 1 ≤ w4.heap.size) := hlt4
      have HNL : Hid (N' ≤ 10000000) := by show _ ≤ _; omega
      clear hob hb4 hlt4 hw4 hB4 hU hN' HSE1 HB1 hcv
      go_wp2_with (refine append_wp w4 rfl (.tmp 35) (.tmp 36) rfl (w2.heap.size + 1) N N' (.slice a N cap) (deriveA b lb i) rfl HOWN.out U rfl HM.out HNL.out HLT.out ?_; intro a' cap' w5 hown hgr; have H6 : Hid (DerW w w2.heap.size b lb (i + 1) (.slice a' N' cap') w5) := H5.out a' cap' w5 hown hgr; clear hown hgr)
      refine ⟨⟨i + 1, N', a', cap', by have := HN'.out; omega, by have := HN'.out; have := HN.out; omega, rfl, ?_, ?_, H6.out⟩, ?_⟩
      · rw [HU.out]
      · have := HC.out
        go_num
      · have := HN'.out
        have := HN.out
        simp only [sliceN]
        omega
    · have hi : i ≤ 255 := by omega
      have hown := hrel.own
      rw [← hN] at hown
      have hcp : N ≤ cap ∧ ((a = none ∧ cap = 0) ∨ ∃ g, a = some ⟨g, 0, none⟩) := by
        rcases hown.2 with ⟨e, _⟩ | ⟨g, c, cur, e, _, _, h3, _⟩
        · cases e; exact ⟨by omega, .inl ⟨rfl, rfl⟩⟩
        · cases e; exact ⟨h3, .inr ⟨_, rfl⟩⟩
      have hsl := slice_to a N n cap hcp.2 (by omega) hcp.1
      have hcv := own_conv hown (show n ≤ N by omega)
      rw [← HF.out i hi (by omega)] at hcv
      have kN : ¬ (N : Int) < (n : Int) := by omega
      have kn : (n : Int) ≤ (cap : Int) := by have := hcp.1; omega
      have hB := hrel.bel
      clear hrel hown hN HST hst
      go_wp2
      refine bodyPost_ret (v := .tuple #[.string (strOf (derived k.data.toList lb n)), .int .i64 0]) ?_ rfl ⟨rfl, hB⟩
      simp [results, go_sem]
end Go.Proofs.YtbflkkffpcaakabDoor
