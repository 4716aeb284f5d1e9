/- The walks over withRoom, appendNumber, num.Put. -/
import Derived.Test.YtbomopjngpnghabH
namespace Go.Proofs.Ytbomopjngpnghab
open Go.RowKit

theorem info5 : (Try.prog.info? 5).map (fun i => (i.zero, i.size, i.bytes)) = some (some (.int .u8 0), 1, 1) := by kernel_rfl

/-- Bytes, as the cells of a row. -/
def bytesV (bs : List UInt8) : List Value := bs.map fun u => .int .u8 (u.toNat : Int)
theorem bytesV_len (bs : List UInt8) : (bytesV bs).length = bs.length := by simp [bytesV]
theorem bytesV_append (a b : List UInt8) : bytesV (a ++ b) = bytesV a ++ bytesV b := by simp [bytesV]
theorem bytesV_one (bs : List UInt8) : ∀ u ∈ bytesV bs, u.oneCell' = true := by
  intro u hu
  obtain ⟨_, _, rfl⟩ := List.mem_map.1 hu
  rfl
theorem Bs.cells {w : World} {a : Option Addr} {len cap : Nat} {bs : List UInt8} (h : Bs w a len cap bs) : ∀ ad, a = some ad → ∀ j u, (bytesV bs)[j]? = some u → w.cell? (ad.add j) = some u := by
  intro ad had j u hu
  have hj : j < bs.length := by
    have := (List.getElem?_eq_some_iff.1 hu).1
    simpa [bytesV] using this
  rw [h.2.2.2.2 ad had j hj]
  rw [← hu]
  simp [bytesV, hj]
theorem Bs.grown {w w' : World} {a : Option Addr} {len cap : Nat} {bs : List UInt8} {row : Option Nat} (h : Bs w a len cap bs) (hg : w.grownBy w' row) (hr : ∀ k, row = some k → ∀ ad, a = some ad → ad.block ≠ k) : Bs w' a len cap bs :=
  ⟨h.1, h.2.1, h.2.2.1, h.2.2.2.1, fun ad had i hi => hg.cell (h.2.2.2.2 ad had i hi) (by
    cases row with
    | none => simp
    | some k =>
      have := hr k rfl ad had
      have e : (ad.add i).block = ad.block := by unfold Addr.add; split <;> rfl
      rw [e]; simpa using this)⟩

set_option maxHeartbeats 400000 in
theorem room_any (a : Option Addr) (len cap sz : Nat) (bs : List UInt8) (w : World) (h : Bs w a len cap bs) (hb : len + sz ≤ 1000000) :
    Calls Try.prog 14 #[.slice a len cap, .int .i64 (sz : Int)] w fun e w' => e = .returned (.slice (some ⟨w.heap.size, 0, none⟩) len (len + sz)) ∧
      w'.ownsRow w.heap.size 5 1 (.slice (some ⟨w.heap.size, 0, none⟩) len (len + sz)) len (bytesV bs) ∧ Below w.heap.size w w' := by
  obtain ⟨i0, hi, hz0, hz1, hz2⟩ := info_parts info5
  have hlen : len ≤ 1000000 := by omega
  have hsz : sz ≤ 1000000 := by omega
  have HL : Hid (bs.length = len) := h.1
  have hn : a = none → len = 0 ∧ cap = 0 := fun e => by have := h.2.2.2.1 e; have := h.2.1; omega
  have HC := h.cells
  have HG := fun w' hg => h.grown (w' := w') (row := none) hg (fun k hk => by cases hk)
  have HN : Hid (a = none → len = 0 ∧ cap = 0) := hn
  clear hn
  go_enter Try.func14, Try.ntmps14
  go_wp2_with (at_make; refine wpList_make_own _ rfl _ _ 22 rfl w.heap.size 5 i0 (.int .u8 0) 1 Try.underlying22 hi hz0 hz1 _ _ _ (len + sz) rfl rfl (by omega) (by rw [hz2]; omega) (by unfold maxLen; omega) (Nat.le_refl _) ?_)
  intro w1 hown1 hgrow1
  have HB := HG w1 hgrow1
  go_wp2_with (at_builtin; refine wpList_append_fits_any _ rfl _ _ 22 rfl w.heap.size 5 i0 1 Try.underlying22 hi hz1 w.heap.size 0 (len + sz) [] rfl hown1 a len cap (bytesV bs) rfl (by rw [bytesV_len, HL.out]; omega) HN.out HB.cells (bytesV_one bs) (by omega) ?_)
  intro w2 hown2 hgrow2
  go_wp2
  go_ret
  exact ⟨by simp, hown2, ((Below.refl _ _).grown hgrow1 (Nat.le_refl _) (by simp)).grown hgrow2 hgrow1.size (by simp)⟩

theorem grownBy_trans {w w1 w2 : World} {r : Option Nat} (h1 : w.grownBy w1 r) (h2 : w1.grownBy w2 r) : w.grownBy w2 r :=
  ⟨h2.os.trans h1.os, h2.tape.trans h1.tape, h2.output.trans h1.output, Nat.le_trans h1.size h2.size, fun k hk hr => (h2.block k (Nat.lt_of_lt_of_le hk h1.size) hr).trans (h1.block k hk hr)⟩

/-- What the loop of appendNumber holds: the bytes so far, and what is left of the number. -/
def PutRel (w : World) (base g cap : Nat) (bs : List UInt8) (n : Nat) (done : List UInt8) (m : Nat) (wr : World) : Prop :=
  m < 18446744073709551616 ∧ done ++ putN m = bs ++ putN n ∧ done.length + (putN m).length ≤ cap ∧ wr.ownsRow base 5 1 (.slice (some ⟨g, 0, none⟩) done.length cap) done.length (bytesV done) ∧ w.grownBy wr (some g)

theorem byteV (m : Nat) (h : m < 256) : [Value.int .u8 (m : Int)] = bytesV [UInt8.ofNat m] := by
  have : (UInt8.ofNat m).toNat = m := by simp; omega
  simp only [bytesV, List.map_cons, List.map_nil, this]

theorem putRel_on {w : World} {base g cap : Nat} {bs : List UInt8} {n : Nat} {done : List UInt8} {m : Nat} {wr w1 : World} {o : Obj} (h : PutRel w base g cap bs n done m wr) (hm : ¬ m < 128)
    (hown : w1.ownsRow base 5 1 (.slice (some ⟨g, 0, none⟩) (done.length + 1) cap) (done.length + 1) (bytesV done ++ [.int .u8 ((m : Int) % 128 + 128)])) (hg : (wr.alloc o).grownBy w1 (some g)) :
    PutRel w base g cap bs n (done ++ [UInt8.ofNat (m % 128 + 128)]) (m / 128) w1 := by
  obtain ⟨h1, h2, h3, h4, h5⟩ := h
  rw [putN_more hm] at h2 h3
  refine ⟨by omega, by rw [← h2]; simp, by simp only [List.length_append, List.length_cons, List.length_nil] at h3 ⊢; omega, ?_, grownBy_trans (grownBy_trans h5 (World.grownBy_alloc wr o _)) hg⟩
  have e : ((m : Int) % 128 + 128) = ((m % 128 + 128 : Nat) : Int) := by omega
  rw [e, byteV (m % 128 + 128) (by omega), ← bytesV_append] at hown
  simpa using hown

theorem putRel_fin {w : World} {base g cap : Nat} {bs : List UInt8} {n : Nat} {done : List UInt8} {m : Nat} {wr w1 : World} {o : Obj} (h : PutRel w base g cap bs n done m wr) (hm : m < 128)
    (hown : w1.ownsRow base 5 1 (.slice (some ⟨g, 0, none⟩) (done.length + 1) cap) (done.length + 1) (bytesV done ++ [.int .u8 (m : Int)])) (hg : (wr.alloc o).grownBy w1 (some g)) :
    done.length + 1 = bs.length + (putN n).length ∧ w1.ownsRow base 5 1 (.slice (some ⟨g, 0, none⟩) (bs.length + (putN n).length) cap) (bs.length + (putN n).length) (bytesV (bs ++ putN n)) ∧ w.grownBy w1 (some g) := by
  obtain ⟨h1, h2, h3, h4, h5⟩ := h
  rw [putN_small hm] at h2
  have hl : done.length + 1 = bs.length + (putN n).length := by have := congrArg List.length h2; simpa using this
  refine ⟨hl, ?_, grownBy_trans (grownBy_trans h5 (World.grownBy_alloc wr o _)) hg⟩
  rw [byteV m (by omega), ← bytesV_append, h2, hl] at hown
  exact hown

theorem one_new (w : World) (v : Value) (t : TypeId) : ∀ j u, [v][j]? = some u → (w.alloc (.cells #[v] t)).cell? ((⟨w.heap.size, 0, none⟩ : Addr).add j) = some u := by
  intro j u hj
  match j, hj with
  | 0, hj => simp at hj; subst hj; simp [Addr.add]

set_option maxRecDepth 100000 in
set_option maxHeartbeats 400000 in
theorem append_any (base g cap : Nat) (bs : List UInt8) (n : Nat) (w : World) (hn : n < 18446744073709551616) (hfit : bs.length + (putN n).length ≤ cap)
    (hown : w.ownsRow base 5 1 (.slice (some ⟨g, 0, none⟩) bs.length cap) bs.length (bytesV bs)) :
    Calls Try.prog 13 #[.slice (some ⟨g, 0, none⟩) bs.length cap, .int .u64 (n : Int)] w fun e w' => e = .returned (.slice (some ⟨g, 0, none⟩) (bs.length + (putN n).length) cap) ∧
      w'.ownsRow base 5 1 (.slice (some ⟨g, 0, none⟩) (bs.length + (putN n).length) cap) (bs.length + (putN n).length) (bytesV (bs ++ putN n)) ∧ w.grownBy w' (some g) := by
  obtain ⟨i0, hi, hz0, hz1, hz2⟩ := info_parts info5
  have hstart : PutRel w base g cap bs n bs n w := ⟨hn, rfl, hfit, hown, World.grownBy.refl _ _⟩
  clear hown hfit hn
  go_enter Try.func13, Try.ntmps13
  go_wp2
  go_loopw [0, 1] (fun v x wr => ∃ done : List UInt8, ∃ m : Nat, v = .slice (some ⟨g, 0, none⟩) done.length cap ∧ x = .int .u64 (m : Int) ∧ PutRel w base g cap bs n done m wr) (fun _ x _ => (intOf x).toNat)
  case atStart => exact ⟨bs, n, rfl, rfl, hstart⟩
  case round =>
    obtain ⟨done, m, rfl, rfl, hrel⟩ := hrel
    have hm := hrel.1
    have hown := hrel.2.2.2.1
    have hfit : done.length + 1 ≤ cap := by have := hrel.2.2.1; have := putN_pos m; omega
    clear hstart
    by_cases h128 : m < 128
    · go_wp2_with (at_builtin; refine wpList_append_fits _ rfl _ _ 22 rfl base 5 i0 1 Try.underlying22 hi hz1 g done.length cap (bytesV done) rfl (hown.alloc _) ⟨wr.heap.size, 0, none⟩ 1 1 [.int .u8 (m : Int)] rfl rfl (one_new _ _ _) (by simp [Value.oneCell']) hfit ?_)
      intro w1 hown1 hgrow1
      have R := putRel_fin hrel h128 hown1 hgrow1
      have R1 : Hid _ := R.1
      have R2 := R.2
      clear hown1 hgrow1 hown hrel R
      go_wp2
      go_ret
      exact ⟨by rw [← R1.out]; rfl, R2⟩
    · go_wp2_with (at_builtin; refine wpList_append_fits _ rfl _ _ 22 rfl base 5 i0 1 Try.underlying22 hi hz1 g done.length cap (bytesV done) rfl (hown.alloc _) ⟨wr.heap.size, 0, none⟩ 1 1 [.int .u8 ((m : Int) % 128 + 128)] rfl rfl (one_new _ _ _) (by simp [Value.oneCell']) hfit ?_)
      intro w1 hown1 hgrow1
      have R := putRel_on hrel h128 hown1 hgrow1
      clear hown1 hgrow1 hown hrel
      go_wp2
      go_roundw
      case rel => exact ⟨done ++ [UInt8.ofNat (m % 128 + 128)], m / 128, by simp, by go_num, R⟩
      case measure => simp [intOf]; omega
end Go.Proofs.Ytbomopjngpnghab
