/- Walks over the program's own numbers: Len64, Size, endsNumber, Get, withRoom, appendNumber, Put. -/
import Derived.Test.YtgihdfmeokbplaaHD
import Derived.Lib.BitFns
namespace Go.Proofs.Ytgihdfmeokbplaa
open Go.RowKit
theorem tab_size : Lib.len8tab.size = 256 := by decide +kernel
theorem tab_eq : ∀ n : Fin 256, (Lib.len8tab[n.val]'(Nat.lt_of_lt_of_eq n.isLt tab_size.symm)).toNat = Lib.bitLen n.val := by decide +kernel
theorem len_close (k : Nat) (b x : Int) {hp : b.toNat < Lib.len8tab.size} (h0 : 0 ≤ b) (h1 : b < 256) (hk : k ≤ 56) (e : Lib.bitLen x.toNat = k + Lib.bitLen b.toNat) :
    wrap64 ((k : Int) + wrap64 ((Lib.len8tab[b.toNat]'hp).toNat : Int)) = (Lib.bitLen x.toNat : Int) := by
  have t := tab_eq ⟨b.toNat, by omega⟩
  have l := Lib.bitLen_le8 ⟨b.toNat, by omega⟩
  simp only at t l
  rw [t, e]
  unfold wrap64
  omega
theorem len_close0 (x : Int) {hp : x.toNat < Lib.len8tab.size} (h0 : 0 ≤ x) (h1 : x < 256) :
    wrap64 (wrap64 ((Lib.len8tab[x.toNat]'hp).toNat : Int)) = (Lib.bitLen x.toNat : Int) := by
  have t := tab_eq ⟨x.toNat, by omega⟩
  have l := Lib.bitLen_le8 ⟨x.toNat, by omega⟩
  simp only at t l
  rw [t]
  unfold wrap64
  omega
set_option maxRecDepth 100000 in
set_option maxHeartbeats 400000 in
theorem len64_any (x : Int) (w : World) (h0 : 0 ≤ x) (h1 : x ≤ 18446744073709551615) :
    Calls Try.prog 74 #[.int .u64 x] w fun e w' => e = .returned (.int .i64 (Lib.bitLen x.toNat)) ∧ w' = w := by
  have hsz := tab_size
  go_enter Try.func74, Try.ntmps74
  go_wp2
  all_goals (go_ret; refine ⟨congrArg Ending.returned (congrArg (Value.int IntKind.i64) ?_), rfl⟩)
  · exact len_close 56 _ x (by omega) (by omega) (by omega) (by rw [Lib.bitLen_shift 56 x.toNat (by omega) (by omega)]; congr 2; omega)
  · exact len_close 48 _ x (by omega) (by omega) (by omega) (by rw [Lib.bitLen_shift 48 x.toNat (by omega) (by omega)]; congr 2; omega)
  · exact len_close 40 _ x (by omega) (by omega) (by omega) (by rw [Lib.bitLen_shift 40 x.toNat (by omega) (by omega)]; congr 2; omega)
  · exact len_close 32 _ x (by omega) (by omega) (by omega) (by rw [Lib.bitLen_shift 32 x.toNat (by omega) (by omega)]; congr 2; omega)
  · exact len_close 24 _ x (by omega) (by omega) (by omega) (by rw [Lib.bitLen_shift 24 x.toNat (by omega) (by omega)]; congr 2; omega)
  · exact len_close 16 _ x (by omega) (by omega) (by omega) (by rw [Lib.bitLen_shift 16 x.toNat (by omega) (by omega)]; congr 2; omega)
  · exact len_close 8 _ x (by omega) (by omega) (by omega) (by rw [Lib.bitLen_shift 8 x.toNat (by omega) (by omega)]; congr 2; omega)
  · exact len_close0 x (by omega) (by omega)
theorem ret_intN {k : IntKind} {a b : Int} (h : a = b) : Ending.returned (.int k a) = .returned (.int k b) := by rw [h]
theorem ret_boolN {a b : Bool} (h : a = b) : Ending.returned (.bool a) = .returned (.bool b) := by rw [h]
set_option maxHeartbeats 400000 in
theorem ends_any (i c : Int) (w : World) (h0 : 0 ≤ i) (h1 : i ≤ 100) (h2 : 0 ≤ c) (h3 : c ≤ 255) :
    Calls Try.prog 91 #[.int .i64 i, .int .u8 c] w fun e w' => e = .returned (.bool (endsB i c)) ∧ w' = w := by
  by_cases hi : 0 < i
  · by_cases hc : c = 0
    · subst hc
      go_enter Try.func91, Try.ntmps91
      go_wp2
      go_ret
      exact ⟨ret_boolN (by simp [endsB, hi]), rfl⟩
    · have hc' : (c == 0) = false := by simpa using hc
      by_cases h9 : i < 9
      · go_enter Try.func91, Try.ntmps91
        go_wp2
        go_ret
        exact ⟨ret_boolN (by simp [endsB, hi, hc, h9]), rfl⟩
      · go_enter Try.func91, Try.ntmps91
        go_wp2
        go_ret
        exact ⟨ret_boolN (by simp [endsB, hi, hc]; omega), rfl⟩
  · obtain rfl : i = 0 := by omega
    go_enter Try.func91, Try.ntmps91
    go_wp2
    go_ret
    exact ⟨ret_boolN (by simp [endsB]), rfl⟩
def sizeI (n : Int) : Int := (putN n.toNat).length
set_option maxHeartbeats 400000 in
theorem size_any (x : Int) (w : World) (h0 : 0 ≤ x) (h1 : x ≤ 18446744073709551615) :
    Calls Try.prog 65 #[.int .u64 x] w fun e w' => e = .returned (.int .i64 (sizeI x)) ∧ w' = w := by
  have hl := bitLen_le64 x.toNat
  have HS : Hid (sizeI x = max 1 ((Lib.bitLen x.toNat + 6) / 7 : Nat)) := by unfold sizeI; rw [putN_len x.toNat (by omega)]; simp [Hid]
  go_enter Try.func65, Try.ntmps65
  go_wp2_with (go_at_call 74; refine (len64_any _ _ h0 h1).mono ?_; rintro e w' ⟨rfl, rfl⟩)
  all_goals
    go_ret
    exact ⟨ret_intN (by rw [HS.out]; omega), rfl⟩
set_option maxRecDepth 100000 in
set_option maxHeartbeats 400000 in
theorem get_in (b off len cap : Nat) (bs : List UInt8) (p : Nat) (w : World) (hb : bs.length = len) (hm : len ≤ 9223372036854775807) (hp : p < len)
    (hcell : ∀ i (h : i < bs.length), w.cell? ⟨b, off + i, none⟩ = some (.int .u8 (bs[i].toNat : Int))) :
    Calls Try.prog 84 #[.slice (some ⟨b, off, none⟩) len cap, .int .i64 (p : Int)] w fun e w' => e = .returned (ans3 (getAt bs p)) ∧ w' = w := by
  have HB : Hid (bs.length = len) := hb
  clear hb
  go_enter Try.func84, Try.ntmps84
  go_wp2
  go_loop [7, 18] (fun n j => ∃ k : Nat, ∃ Z : Nat, j = .int .i64 k ∧ n = .int .u64 (Z : Int) ∧ GetRel bs p k Z) (fun _ j => 10 - (intOf j).toNat)
  case atStart => exact ⟨0, 0, rfl, rfl, by omega, by have := HB.out; omega, by omega, by intro _; decide, rfl⟩
  case round =>
    obtain ⟨k, Z, rfl, rfl, hrel⟩ := hrel
    have hk := hrel.1
    have hpk : p + k ≤ len := by have := HB.out; have := hrel.2.1; omega
    by_cases h10 : k < 10
    · by_cases hlt : p + k < len
      · have hlt' : p + k < bs.length := by have := HB.out; omega
        have hc := hcell (p + k) hlt'
        have hxl := (bs[p + k]'hlt').toNat_lt
        obtain ⟨x, hx⟩ : ∃ x : Int, x = ((bs[p + k]'hlt').toNat : Int) := ⟨_, rfl⟩
        rw [← hx] at hc
        have hx0 : 0 ≤ x := by omega
        have hx255 : x ≤ 255 := by omega
        have HX : Hid (x = ((bs[p + k]'hlt').toNat : Int)) := hx
        clear hx hcell hxl
        by_cases hx1 : 128 ≤ x
        · obtain ⟨Z', eZ, rel'⟩ := getRel_on hrel h10 (by have := HB.out; omega) HX.out hx1
          clear hrel
          go_wp2
          go_round
          case rel => exact ⟨k + 1, Z', by go_num, rfl, rel'⟩
          case measure => simp [intOf]; omega
        · by_cases he : endsB k x = true
          · have HR : Hid (ans3 (getAt bs p) = .tuple #[.int .u64 (bits .or .u64 (Z : Int) (IntKind.u64.wrap (x % 128 * 2 ^ (7 * k)))), .int .i64 ((p : Int) + k + 1), .int .i64 0]) := getRel_ok hrel h10 (by have := HB.out; omega) HX.out (by omega) he
            clear hrel
            go_wp2_with (go_at_call 91; refine (ends_any _ _ _ (by omega) (by omega) (by omega) (by omega)).mono ?_; rintro e w' ⟨rfl, rfl⟩)
            go_ret3
            exact ⟨ret_valN HR.out.symm, rfl⟩
          · have he' : endsB k x = false := by simpa using he
            have HR : Hid (ans3 (getAt bs p) = .tuple #[.int .u64 0, .int .i64 0, .int .i64 4]) := getRel_bad hrel h10 (by have := HB.out; omega) HX.out (by omega) he'
            clear hrel he
            go_wp2_with (go_at_call 91; refine (ends_any _ _ _ (by omega) (by omega) (by omega) (by omega)).mono ?_; rintro e w' ⟨rfl, rfl⟩)
            go_ret3
            exact ⟨ret_valN HR.out.symm, rfl⟩
      · have HR : Hid (ans3 (getAt bs p) = .tuple #[.int .u64 0, .int .i64 0, .int .i64 3]) := getRel_end hrel h10 (by have := HB.out; omega)
        clear hrel
        go_wp2
        go_ret3
        exact ⟨ret_valN HR.out.symm, rfl⟩
    · have HR : Hid (ans3 (getAt bs p) = .tuple #[.int .u64 0, .int .i64 0, .int .i64 4]) := getRel_ten hrel h10
      clear hrel
      go_wp2
      go_ret3
      exact ⟨ret_valN HR.out.symm, rfl⟩
/-- WHAT A WALK IS TOLD OF A SLICE OF BYTES: its bytes bs, by the cells from its address on. -/
def Bs (w : World) (a : Option Addr) (len cap : Nat) (bs : List UInt8) : Prop :=
  bs.length = len ∧ len ≤ cap ∧ cap ≤ 9223372036854775807 ∧ (a = none → cap = 0) ∧ ∀ ad, a = some ad → ∀ i (h : i < bs.length), w.cell? (ad.add i) = some (.int .u8 (bs[i].toNat : Int))
theorem Bs.at {w : World} {a : Option Addr} {len cap : Nat} {bs : List UInt8} (h : Bs w a len cap bs) (h0 : 0 < len) :
    ∃ b off, a = some ⟨b, off, none⟩ ∧ ∀ i (h : i < bs.length), w.cell? ⟨b, off + i, none⟩ = some (.int .u8 (bs[i].toNat : Int)) := by
  obtain ⟨h1, h2, h3, h4, h5⟩ := h
  cases a with
  | none => have := h4 rfl; omega
  | some ad =>
    obtain ⟨b, off, spot⟩ := ad
    have hc := h5 _ rfl 0 (by omega)
    have hspot : spot = none := by simpa [Addr.add] using World.cell?_spot hc
    subst hspot
    refine ⟨b, off, rfl, fun i hi => ?_⟩
    have := h5 _ rfl i hi
    rwa [Addr.add_lit] at this
set_option maxRecDepth 100000 in
set_option maxHeartbeats 400000 in
theorem get_any (a : Option Addr) (len cap : Nat) (bs : List UInt8) (p : Int) (w : World) (h : Bs w a len cap bs) (hp0 : -9223372036854775808 ≤ p) (hp1 : p ≤ 9223372036854775807) :
    Calls Try.prog 84 #[.slice a len cap, .int .i64 p] w fun e w' => e = .returned (ans3 (getAt bs p)) ∧ w' = w := by
  have hlen := h.1
  have hm : len ≤ 9223372036854775807 := Nat.le_trans h.2.1 h.2.2.1
  by_cases n0 : p < 0
  · have HR := getAt_neg (bs := bs) n0
    have HR' : Hid (ans3 (getAt bs p) = .tuple #[.int .u64 0, .int .i64 0, .int .i64 9]) := HR
    clear HR hlen
    go_enter Try.func84, Try.ntmps84
    go_wp2
    go_ret3
    exact ⟨ret_valN HR'.out.symm, rfl⟩
  · by_cases n1 : (len : Int) < p
    · have HR' : Hid (ans3 (getAt bs p) = .tuple #[.int .u64 0, .int .i64 0, .int .i64 9]) := getAt_past (by omega)
      clear hlen
      go_enter Try.func84, Try.ntmps84
      go_wp2
      go_ret3
      exact ⟨ret_valN HR'.out.symm, rfl⟩
    · by_cases n2 : (len : Int) = p
      · have HR' : Hid (ans3 (getAt bs p) = .tuple #[.int .u64 0, .int .i64 0, .int .i64 3]) := getAt_last (by omega)
        clear hlen h n1
        subst n2
        go_enter Try.func84, Try.ntmps84
        go_wp2
        refine wp_loop_rounds 1 ?_
        rw [rounds_succ]
        go_wp2
        go_ret3
        exact ⟨ret_valN HR'.out.symm, rfl⟩
      · obtain ⟨b, off, rfl, hc⟩ := h.at (by omega)
        obtain ⟨q, rfl⟩ : ∃ q : Nat, p = q := ⟨p.toNat, by omega⟩
        exact get_in b off len cap bs q w hlen hm (by omega) hc
theorem info5 : (Try.prog.info? 5).map (fun i => (i.zero, i.size, i.bytes)) = some (some (.int .u8 0), 1, 1) := by kernel_rfl
/-- Bytes, as the cells of a row. -/
def bytesV (bs : List UInt8) : List Value := bs.map fun u => .int .u8 (u.toNat : Int)
theorem bytesV_len (bs : List UInt8) : (bytesV bs).length = bs.length := by simp [bytesV]
theorem bytesV_append (a b : List UInt8) : bytesV (a ++ b) = bytesV a ++ bytesV b := by simp [bytesV]
theorem bytesV_one (bs : List UInt8) : ∀ u ∈ bytesV bs, u.oneCell' = true := by
  intro u hu
  obtain ⟨_, _, rfl⟩ := List.mem_map.1 hu
  rfl
theorem Bs.cells {w : World} {a : Option Addr} {len cap : Nat} {bs : List UInt8} (h : Bs w a len cap bs) : ∀ ad, a = some ad → ∀ j u, (bytesV bs)[j]? = some u → w.cell? (ad.add j) = some u := by
  intro ad had j u hu
  have hj : j < bs.length := by
    have := (List.getElem?_eq_some_iff.1 hu).1
    simpa [bytesV] using this
  rw [h.2.2.2.2 ad had j hj]
  rw [← hu]
  simp [bytesV, hj]
theorem Bs.grown {w w' : World} {a : Option Addr} {len cap : Nat} {bs : List UInt8} {row : Option Nat} (h : Bs w a len cap bs) (hg : w.grownBy w' row) (hr : ∀ k, row = some k → ∀ ad, a = some ad → ad.block ≠ k) : Bs w' a len cap bs :=
  ⟨h.1, h.2.1, h.2.2.1, h.2.2.2.1, fun ad had i hi => hg.cell (h.2.2.2.2 ad had i hi) (by
    cases row with
    | none => simp
    | some k =>
      have := hr k rfl ad had
      have e : (ad.add i).block = ad.block := by unfold Addr.add; split <;> rfl
      rw [e]; simpa using this)⟩
set_option maxHeartbeats 400000 in
theorem room_any (a : Option Addr) (len cap sz : Nat) (bs : List UInt8) (w : World) (h : Bs w a len cap bs) (hb : len + sz ≤ 1000000) :
    Calls Try.prog 64 #[.slice a len cap, .int .i64 (sz : Int)] w fun e w' => e = .returned (.slice (some ⟨w.heap.size, 0, none⟩) len (len + sz)) ∧
      w'.ownsRow w.heap.size 5 1 (.slice (some ⟨w.heap.size, 0, none⟩) len (len + sz)) len (bytesV bs) ∧ Below w.heap.size w w' := by
  obtain ⟨i0, hi, hz0, hz1, hz2⟩ := info_parts info5
  have hlen : len ≤ 1000000 := by omega
  have hsz : sz ≤ 1000000 := by omega
  have HL : Hid (bs.length = len) := h.1
  have hn : a = none → len = 0 ∧ cap = 0 := fun e => by have := h.2.2.2.1 e; have := h.2.1; omega
  have HC := h.cells
  have HG := fun w' hg => h.grown (w' := w') (row := none) hg (fun k hk => by cases hk)
  have HN : Hid (a = none → len = 0 ∧ cap = 0) := hn
  clear hn
  go_enter Try.func64, Try.ntmps64
  go_wp2_with (at_make; refine wpList_make_own _ rfl _ _ 48 rfl w.heap.size 5 i0 (.int .u8 0) 1 Try.underlying48 hi hz0 hz1 _ _ _ (len + sz) rfl rfl (by omega) (by rw [hz2]; omega) (by unfold maxLen; omega) (Nat.le_refl _) ?_)
  intro w1 hown1 hgrow1
  have HB := HG w1 hgrow1
  go_wp2_with (at_builtin; refine wpList_append_fits_any _ rfl _ _ 48 rfl w.heap.size 5 i0 1 Try.underlying48 hi hz1 w.heap.size 0 (len + sz) [] rfl hown1 a len cap (bytesV bs) rfl (by rw [bytesV_len, HL.out]; omega) HN.out HB.cells (bytesV_one bs) (by omega) ?_)
  intro w2 hown2 hgrow2
  go_wp2
  go_ret
  exact ⟨by simp, hown2, ((Below.refl _ _).grown hgrow1 (Nat.le_refl _) (by simp)).grown hgrow2 hgrow1.size (by simp)⟩
theorem grownBy_trans {w w1 w2 : World} {r : Option Nat} (h1 : w.grownBy w1 r) (h2 : w1.grownBy w2 r) : w.grownBy w2 r :=
  ⟨h2.os.trans h1.os, h2.tape.trans h1.tape, h2.output.trans h1.output, Nat.le_trans h1.size h2.size, fun k hk hr => (h2.block k (Nat.lt_of_lt_of_le hk h1.size) hr).trans (h1.block k hk hr)⟩
/-- What the loop of appendNumber holds: the bytes so far, and what is left of the number. -/
def PutRel (w : World) (base g cap : Nat) (bs : List UInt8) (n : Nat) (done : List UInt8) (m : Nat) (wr : World) : Prop :=
  m < 18446744073709551616 ∧ done ++ putN m = bs ++ putN n ∧ done.length + (putN m).length ≤ cap ∧ wr.ownsRow base 5 1 (.slice (some ⟨g, 0, none⟩) done.length cap) done.length (bytesV done) ∧ w.grownBy wr (some g)
theorem byteV (m : Nat) (h : m < 256) : [Value.int .u8 (m : Int)] = bytesV [UInt8.ofNat m] := by
  have : (UInt8.ofNat m).toNat = m := by simp; omega
  simp only [bytesV, List.map_cons, List.map_nil, this]
theorem putRel_on {w : World} {base g cap : Nat} {bs : List UInt8} {n : Nat} {done : List UInt8} {m : Nat} {wr w1 : World} {o : Obj} (h : PutRel w base g cap bs n done m wr) (hm : ¬ m < 128)
    (hown : w1.ownsRow base 5 1 (.slice (some ⟨g, 0, none⟩) (done.length + 1) cap) (done.length + 1) (bytesV done ++ [.int .u8 ((m : Int) % 128 + 128)])) (hg : (wr.alloc o).grownBy w1 (some g)) :
    PutRel w base g cap bs n (done ++ [UInt8.ofNat (m % 128 + 128)]) (m / 128) w1 := by
  obtain ⟨h1, h2, h3, h4, h5⟩ := h
  rw [putN_more hm] at h2 h3
  refine ⟨by omega, by rw [← h2]; simp, by simp only [List.length_append, List.length_cons, List.length_nil] at h3 ⊢; omega, ?_, grownBy_trans (grownBy_trans h5 (World.grownBy_alloc wr o _)) hg⟩
  have e : ((m : Int) % 128 + 128) = ((m % 128 + 128 : Nat) : Int) := by omega
  rw [e, byteV (m % 128 + 128) (by omega), ← bytesV_append] at hown
  simpa using hown
theorem putRel_fin {w : World} {base g cap : Nat} {bs : List UInt8} {n : Nat} {done : List UInt8} {m : Nat} {wr w1 : World} {o : Obj} (h : PutRel w base g cap bs n done m wr) (hm : m < 128)
    (hown : w1.ownsRow base 5 1 (.slice (some ⟨g, 0, none⟩) (done.length + 1) cap) (done.length + 1) (bytesV done ++ [.int .u8 (m : Int)])) (hg : (wr.alloc o).grownBy w1 (some g)) :
    done.length + 1 = bs.length + (putN n).length ∧ w1.ownsRow base 5 1 (.slice (some ⟨g, 0, none⟩) (bs.length + (putN n).length) cap) (bs.length + (putN n).length) (bytesV (bs ++ putN n)) ∧ w.grownBy w1 (some g) := by
  obtain ⟨h1, h2, h3, h4, h5⟩ := h
  rw [putN_small hm] at h2
  have hl : done.length + 1 = bs.length + (putN n).length := by have := congrArg List.length h2; simpa using this
  refine ⟨hl, ?_, grownBy_trans (grownBy_trans h5 (World.grownBy_alloc wr o _)) hg⟩
  rw [byteV m (by omega), ← bytesV_append, h2, hl] at hown
  exact hown
theorem one_new (w : World) (v : Value) (t : TypeId) : ∀ j u, [v][j]? = some u → (w.alloc (.cells #[v] t)).cell? ((⟨w.heap.size, 0, none⟩ : Addr).add j) = some u := by
  intro j u hj
  match j, hj with
  | 0, hj => simp at hj; subst hj; simp [Addr.add]
set_option maxRecDepth 100000 in
set_option maxHeartbeats 400000 in
theorem append_any (base g cap : Nat) (bs : List UInt8) (n : Nat) (w : World) (hn : n < 18446744073709551616) (_hcap : cap ≤ 2000000) (hfit : bs.length + (putN n).length ≤ cap)
    (hown : w.ownsRow base 5 1 (.slice (some ⟨g, 0, none⟩) bs.length cap) bs.length (bytesV bs)) :
    Calls Try.prog 63 #[.slice (some ⟨g, 0, none⟩) bs.length cap, .int .u64 (n : Int)] w fun e w' => e = .returned (.slice (some ⟨g, 0, none⟩) (bs.length + (putN n).length) cap) ∧
      w'.ownsRow base 5 1 (.slice (some ⟨g, 0, none⟩) (bs.length + (putN n).length) cap) (bs.length + (putN n).length) (bytesV (bs ++ putN n)) ∧ w.grownBy w' (some g) := by
  obtain ⟨i0, hi, hz0, hz1, hz2⟩ := info_parts info5
  have hstart : PutRel w base g cap bs n bs n w := ⟨hn, rfl, hfit, hown, World.grownBy.refl _ _⟩
  clear hown hfit hn
  go_enter Try.func63, Try.ntmps63
  go_wp2
  go_loopw [0, 1] (fun v x wr => ∃ done : List UInt8, ∃ m : Nat, v = .slice (some ⟨g, 0, none⟩) done.length cap ∧ x = .int .u64 (m : Int) ∧ PutRel w base g cap bs n done m wr) (fun _ x _ => (intOf x).toNat)
  case atStart => exact ⟨bs, n, rfl, rfl, hstart⟩
  case round =>
    obtain ⟨done, m, rfl, rfl, hrel⟩ := hrel
    have hm := hrel.1
    have hown := hrel.2.2.2.1
    have hfit : done.length + 1 ≤ cap := by have := hrel.2.2.1; have := putN_pos m; omega
    clear hstart
    by_cases h128 : m < 128
    · go_wp2_with (at_builtin; refine wpList_append_fits _ rfl _ _ 48 rfl base 5 i0 1 Try.underlying48 hi hz1 g done.length cap (bytesV done) rfl (hown.alloc _) ⟨wr.heap.size, 0, none⟩ 1 1 [.int .u8 (m : Int)] rfl rfl (one_new _ _ _) (by simp [Value.oneCell']) hfit ?_)
      intro w1 hown1 hgrow1
      have R := putRel_fin hrel h128 hown1 hgrow1
      have R1 : Hid _ := R.1
      have R2 := R.2
      clear hown1 hgrow1 hown hrel R
      go_wp2
      go_ret
      exact ⟨by rw [← R1.out]; rfl, R2⟩
    · go_wp2_with (at_builtin; refine wpList_append_fits _ rfl _ _ 48 rfl base 5 i0 1 Try.underlying48 hi hz1 g done.length cap (bytesV done) rfl (hown.alloc _) ⟨wr.heap.size, 0, none⟩ 1 1 [.int .u8 ((m : Int) % 128 + 128)] rfl rfl (one_new _ _ _) (by simp [Value.oneCell']) hfit ?_)
      intro w1 hown1 hgrow1
      have R := putRel_on hrel h128 hown1 hgrow1
      clear hown1 hgrow1 hown hrel
      go_wp2
      go_roundw
      case rel => exact ⟨done ++ [UInt8.ofNat (m % 128 + 128)], m / 128, by simp, by go_num, R⟩
      case measure => simp [intOf]; omega
set_option maxHeartbeats 400000 in
theorem put_any (a : Option Addr) (len cap : Nat) (bs : List UInt8) (n : Nat) (w : World) (h : Bs w a len cap bs) (hb : len ≤ 900000) (hn : n < 18446744073709551616) :
    Calls Try.prog 44 #[.slice a len cap, .int .u64 (n : Int)] w fun e w' => e = .returned (.slice (some ⟨w.heap.size, 0, none⟩) (len + (putN n).length) (len + (putN n).length)) ∧
      w'.ownsRow w.heap.size 5 1 (.slice (some ⟨w.heap.size, 0, none⟩) (len + (putN n).length) (len + (putN n).length)) (len + (putN n).length) (bytesV (bs ++ putN n)) ∧ Below w.heap.size w w' := by
  have h10 := putN_le10 n hn
  have hsI : sizeI (n : Int) = ((putN n).length : Int) := by simp [sizeI]
  obtain ⟨rfl, _⟩ : bs.length = len ∧ True := ⟨h.1, trivial⟩
  have hn' : (n : Int) ≤ 18446744073709551615 := by omega
  have HN : Hid (n < 18446744073709551616) := hn
  clear hn
  go_enter Try.func44, Try.ntmps44
  go_wp2_with (go_at_call 65; refine (size_any _ _ (by omega) hn').mono ?_; rintro e w' ⟨rfl, rfl⟩)
  refine (room_any a bs.length cap (putN n).length bs _ h (by omega)).mono ?_
  rintro e w1 ⟨rfl, hown1, hbel1⟩
  go_wp2_with fail
  refine (append_any _ _ _ bs n _ HN.out (by omega) (Nat.le_refl _) hown1).mono ?_
  rintro e w2 ⟨rfl, hown2, hgrow2⟩
  clear hown1
  go_wp2
  go_ret
  exact ⟨rfl, hown2, hbel1.grown hgrow2 hbel1.size (by simp)⟩
/-- What a call owns, as a slice of bytes. -/
theorem Bs.owned {w : World} {base g n cap : Nat} {bs : List UInt8} (h : w.ownsRow base 5 1 (.slice (some ⟨g, 0, none⟩) n cap) n (bytesV bs)) : Bs w (some ⟨g, 0, none⟩) n cap bs := by
  have hl : bs.length = n := by have := h.1; simpa [bytesV] using this
  have hc := h.cells (g := g) rfl
  obtain ⟨_, h2⟩ := h
  rcases h2 with ⟨h2, _⟩ | ⟨g', cap', cur, e, _, _, h3, h4, _⟩
  · cases h2
  · cases e
    refine ⟨hl, h3, by simpa [maxLen] using h4, (by intro e; cases e), ?_⟩
    intro ad had i hi
    cases had
    exact hc i _ (by simp [bytesV, hi])
/-- string(b), of whatever slice of bytes. -/
theorem Bs.conv {w : World} {a : Option Addr} {len cap : Nat} {bs : List UInt8} (h : Bs w a len cap bs) : (convert 48 9 (.slice a len cap)).run Try.prog w = .ok (.string ⟨bs.toArray⟩) w := by
  by_cases h0 : 0 < len
  · obtain ⟨b, off, rfl, hc⟩ := h.at h0
    have hl := h.1
    rw [run_convert_bytes_arg w 48 5 Try.underlying48 Try.underlying5 b off len cap (bs.map fun u => (u.toNat : Int)) (by simpa using hl) (fun i hi => by
      rw [hc i (by omega)]
      simp [List.getD, show i < bs.length by omega]) 9 Try.underlying9]
    congr 3
    simp [strOfNums, List.map_map, Function.comp_def]
  · have hb : bs = [] := List.eq_nil_of_length_eq_zero (by have := h.1; omega)
    subst hb
    obtain rfl : len = 0 := by omega
    cases a with
    | none => exact run_convert_bytes_nil w 48 5 Try.underlying48 Try.underlying5 0 cap 9 Try.underlying9
    | some ad =>
      rw [run_convert_bytes_string w 48 9 5 _ 0 cap Try.underlying48 Try.underlying5 Try.underlying9, run_bytesToString w ad 0 cap [] (by simp [loadCells, loadCellsFrom])]
      rfl
theorem Bs.below {w w' : World} {a : Option Addr} {len cap : Nat} {bs : List UInt8} (h : Bs w a len cap bs) (hb : Below w.heap.size w w') : Bs w' a len cap bs := by
  refine ⟨h.1, h.2.1, h.2.2.1, h.2.2.2.1, fun ad had i hi => ?_⟩
  have := h.2.2.2.2 ad had i hi
  rw [hb.cell (World.block_lt_of_cell? w _ this)]
  exact this
theorem Bs.nil (w : World) : Bs w none 0 0 [] := ⟨rfl, by omega, by omega, fun _ => rfl, by intro ad h; cases h⟩
end Go.Proofs.Ytgihdfmeokbplaa
