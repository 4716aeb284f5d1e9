/- Tokens, Unpack, Size. -/
import Derived.Test.YtekbmdpokghmmaaLE
namespace Go.Proofs.Ytekbmdpokghmmaa
open Go.RowKit Lz
def tkC (t : Tk) : List Value := [.int .i64 (t.b : Int), .int .i64 (t.s : Int), .string (strOf t.d)]
def tksV (l : List Tk) : List Value := l.flatMap tkC
theorem tksV_len (l : List Tk) : (tksV l).length = l.length * 3 := fm_len (f := tkC) (k := 3) (fun _ => rfl) l
theorem tksV_app (a b : List Tk) : tksV (a ++ b) = tksV a ++ tksV b := by simp [tksV]
theorem tksV_one (l : List Tk) : ∀ u ∈ tksV l, u.oneCell' = true := by
  intro u hu
  obtain ⟨t, _, h⟩ := List.mem_flatMap.1 hu
  simp only [tkC, List.mem_cons, List.not_mem_nil, or_false] at h
  rcases h with rfl | rfl | rfl <;> rfl
theorem infoTok : (Try.prog.info? 51).map (fun i => (i.zero, i.size, i.bytes)) = some (some (.agg #[.int .i64 0, .int .i64 0, .string ⟨#[]⟩]), 3, 32) := by kernel_rfl
theorem len_told {size : Nat} {ts : List Tk} : ∀ {d : Nat}, Goes size d ts → ts.length ≤ toldL ts := by
  induction ts with
  | nil => intro _ _; exact Nat.le_refl _
  | cons t ts ih =>
    intro d h
    have := ih h.2.2.2
    have := h.1.told1
    simp only [List.length_cons, toldL]
    omega
/-- Tokens added to a row of one's own. -/
theorem app_toks {G2 : Nat → Prop} (w : World) {base : Nat} {a : Option Addr} {n c : Nat} {ts : List Tk} (h : w.ownsRow base 51 3 (.slice a n c) n (tksV ts)) {a2 : Option Addr} {m c2 : Nat} {k : List Tk} (h2 : Rw G2 w 51 3 a2 m c2 (tksV k)) (hN : n + m ≤ 1000000) (hb : base ≤ w.heap.size) :
    ∃ a' c' w', (∀ ty, (Builtin.append_ #[29, 29] ty #[.slice a n c, .slice a2 m c2]).run Try.prog w = .ok (.slice a' (n + m) c') w') ∧ w'.ownsRow base 51 3 (.slice a' (n + m) c') (n + m) (tksV (ts ++ k)) ∧ w.grownBy w' (ob a) ∧ (ob a' = ob a ∨ ob a' = some w.heap.size) := by
  obtain ⟨i, hi, hz, hs, hbb⟩ := info_of infoTok
  rw [tksV_app]
  exact app_own w 29 51 i _ 3 32 Try.underlying29 hi hz hs hbb rfl (by omega) h h2 (tksV_one k) hN (by omega) hb
/-- A new row of a token. -/
theorem newTok (w : World) (t : Tk) : Rw (fun _ => True) (w.alloc (.cells #[.int .i64 (t.b : Int), .int .i64 (t.s : Int), .string (strOf t.d)] 51)) 51 3 (some ⟨w.heap.size, 0, none⟩) 1 1 (tksV [t]) := by
  refine ⟨by rw [tksV_len]; rfl, Nat.le_refl _, by unfold maxLen; omega, fun _ => ⟨_, 0, rfl, by simp, trivial, fun j u hu => ?_⟩⟩
  rw [Nat.zero_add, cell_of_row _ _ _ _ _ _ (heap_alloc_new w _)]
  simpa [tksV, tkC] using hu
set_option maxRecDepth 100000 in
set_option maxHeartbeats 2000000 in
theorem tok1_any {w : World} {R B N c : Nat} {a : Option Addr} {ts : List Tk} (t : Tk) (h : OutR w R B 29 51 3 a N c (tksV ts)) (hl : N ≤ 200000) :
    Calls Try.prog 25 #[.agg #[.int .i64 (t.b : Int), .int .i64 (t.s : Int), .string (strOf t.d)], .pointer (some ⟨B, 0, none⟩)] w fun e w' => e = .returned (.tuple #[]) ∧ OutTo w R B 29 51 3 a (N + 1) (tksV (ts ++ [t])) w' := by
  obtain ⟨b, s, d⟩ := t
  simp only
  obtain ⟨C, hC⟩ : ∃ C, w.heap.size = C := ⟨_, rfl⟩
  have hnt := fun V => newTok V ⟨b, s, d⟩
  simp only at hnt
  obtain ⟨T, hT⟩ : ∃ T, strOf d = T := ⟨_, rfl⟩
  rw [hT] at hnt ⊢
  obtain ⟨W1, hW1⟩ : ∃ W, w.alloc (.cells #[.int .i64 (b : Int), .int .i64 (s : Int), .string T] 51) = W := ⟨_, rfl⟩
  have hb1 : Below w.heap.size w W1 := by rw [← hW1]; exact (Below.refl _ w).alloc (Nat.le_refl _) _
  have hr1 : W1.heap[C]? = some (.cells #[.int .i64 (b : Int), .int .i64 (s : Int), .string T] 51 (0, 0)) := by rw [← hW1, ← hC]; exact heap_alloc_new w _
  have z0 : W1.cell? ⟨C, 0, none⟩ = some (.int .i64 (b : Int)) := by rw [cell_of_row _ _ _ _ _ _ hr1]; rfl
  have z1 : W1.cell? ⟨C, 1, none⟩ = some (.int .i64 (s : Int)) := by rw [cell_of_row _ _ _ _ _ _ hr1]; rfl
  have z2 : W1.cell? ⟨C, 2, none⟩ = some (.string T) := by rw [cell_of_row _ _ _ _ _ _ hr1]; rfl
  have x0 : W1.cell? ⟨B, 0, none⟩ = some (.slice a N c) := by rw [cell_of_row _ _ _ _ _ _ (h.below hb1).2.1]; rfl
  obtain ⟨D, hD⟩ : ∃ D, W1.heap.size = D := ⟨_, rfl⟩
  obtain ⟨V1, hV1⟩ : ∃ W, W1.alloc (.cells #[.int .i64 (b : Int), .int .i64 (s : Int), .string T] 51) = W := ⟨_, rfl⟩
  have hb2 : Below w.heap.size w V1 := by rw [← hV1]; exact hb1.alloc hb1.size _
  have hrow : Rw (fun _ => True) V1 51 3 (some ⟨D, 0, none⟩) 1 1 (tksV [⟨b, s, d⟩]) := by rw [← hV1, ← hD]; exact hnt W1
  have hRs : R ≤ V1.heap.size := by have := hb2.size; have := h.1; have := h.lt.1; omega
  obtain ⟨a3, c3, W5, hr5, ho5, hg5, ha5⟩ := app_toks V1 (h.below hb2).2.2.2 hrow (by omega) hRs
  obtain ⟨hB5, hOT⟩ := OutTo.set h hb2 hg5 ha5 ho5
  have f5 := frozen_of_row W5 B 0 _ _ hB5
  have x5 : W5.cell? ⟨B, 0, none⟩ = some (.slice a N c) := by rw [cell_of_row _ _ _ _ _ _ hB5]; rfl
  obtain ⟨W6, hW6⟩ : ∃ W, W5.setCell ⟨B, 0, none⟩ (.slice a3 (N + 1) c3) = W := ⟨_, rfl⟩
  rw [hW6] at hOT
  have HO : Hid (OutTo w R B 29 51 3 a (N + 1) (tksV (ts ++ [⟨b, s, d⟩])) W6) := hOT
  clear h hb1 hr1 hb2 hrow hRs ho5 hg5 ha5 hB5 hOT hT hnt
  go_enter Try.func25, Try.ntmps25
  go_wp2_with (refine wpList_app V1 rfl _ _ _ _ rfl rfl rfl (hr5 _) ?_)
  refine bodyPost_end (v := .tuple #[]) ?_ rfl ⟨rfl, HO.out⟩
  simp [results, go_sem]
/-- What Tokens answers. -/
def TokTo (w : World) (bs : List UInt8) (e : Ending) (w' : World) : Prop := Below w.heap.size w w' ∧ ((∃ n ts a c, Whole bs n ts ∧ e = .returned (.tuple #[.slice a ts.length c, .int .i64 0]) ∧ w'.ownsRow w.heap.size 51 3 (.slice a ts.length c) ts.length (tksV ts)) ∨ ((∀ n ts, ¬ Whole bs n ts) ∧ e = .returned (.tuple #[.slice none 0 0, .int .i64 4])))
theorem whole_none {bs : List UInt8} (h : begL bs = none) : ∀ n ts, ¬ Whole bs n ts := by
  rintro n ts ⟨k, e, _⟩
  rw [h] at e
  cases e
theorem whole_some {bs : List UInt8} {n k : Nat} (h : begL bs = some (n, k)) {m : Nat} {ts : List Tk} : Whole bs m ts → m = n ∧ Right n (bs.drop k) ts := by
  rintro ⟨i, e, hr⟩
  rw [h] at e
  cases e
  exact ⟨rfl, hr⟩
set_option maxRecDepth 100000 in
set_option maxHeartbeats 2000000 in
theorem lzsize_any {w : World} {a : Option Addr} {len cap : Nat} {bs : List UInt8} (h : Bs w a len cap bs) : Calls Try.prog 16 #[.slice a len cap] w fun e w' => e = .returned (match begL bs with | some (n, _) => .tuple #[.int .i64 (n : Int), .int .i64 0] | none => .tuple #[.int .i64 0, .int .i64 4]) ∧ w' = w := by
  have HB := begin_any h
  unfold begV at HB
  cases hb : begL bs with
  | none =>
    rw [hb] at HB
    have HB : Hid (Calls Try.prog 21 #[.slice a len cap] w fun e w' => e = .returned (.tuple #[.int .i64 0, .int .i64 0, .int .i64 4]) ∧ w' = w) := HB
    clear hb
    go_enter Try.func16, Try.ntmps16
    go_wp2_with fail
    refine HB.out.mono ?_
    rintro e w' ⟨rfl, h⟩; subst w'
    go_wp2
    go_ret2
    exact ⟨rfl, rfl⟩
  | some nk =>
    obtain ⟨n, k⟩ := nk
    rw [hb] at HB
    have HB : Hid (Calls Try.prog 21 #[.slice a len cap] w fun e w' => e = .returned (.tuple #[.int .i64 (n : Int), .int .i64 (k : Int), .int .i64 0]) ∧ w' = w) := HB
    clear hb
    go_enter Try.func16, Try.ntmps16
    go_wp2_with fail
    refine HB.out.mono ?_
    rintro e w' ⟨rfl, h⟩; subst w'
    go_wp2
    go_ret2
    exact ⟨rfl, rfl⟩
set_option maxRecDepth 100000 in
set_option maxHeartbeats 2000000 in
theorem tokens_any {w : World} {a : Option Addr} {len cap : Nat} {bs : List UInt8} (h : Bs w a len cap bs) : Calls Try.prog 12 #[.slice a len cap] w (TokTo w bs) := by
  have HB := begin_any h
  unfold begV at HB
  cases hb : begL bs with
  | none =>
    rw [hb] at HB
    have HB : Hid (Calls Try.prog 21 #[.slice a len cap] w fun e w' => e = .returned (.tuple #[.int .i64 0, .int .i64 0, .int .i64 4]) ∧ w' = w) := HB
    have HN : Hid (∀ n ts, ¬ Whole bs n ts) := whole_none hb
    clear hb
    go_enter Try.func12, Try.ntmps12
    go_wp2_with fail
    refine HB.out.mono ?_
    rintro e w' ⟨rfl, h⟩; subst w'
    go_wp2
    go_ret2
    exact ⟨Below.refl _ _, .inr ⟨HN.out, rfl⟩⟩
  | some nk =>
    obtain ⟨n, k⟩ := nk
    rw [hb] at HB
    obtain ⟨hn, hk⟩ := begL_le hb
    have hlen := h.1
    have HB : Hid (Calls Try.prog 21 #[.slice a len cap] w fun e w' => e = .returned (.tuple #[.int .i64 (n : Int), .int .i64 (k : Int), .int .i64 0]) ∧ w' = w) := HB
    have HE : Hid (begL bs = some (n, k)) := hb
    obtain ⟨B, hB⟩ : ∃ B, w.heap.size = B := ⟨_, rfl⟩
    obtain ⟨W1, hW1⟩ : ∃ W, w.alloc (.cells #[.slice none 0 0] 29) = W := ⟨_, rfl⟩
    have hb1 : Below w.heap.size w W1 := by rw [← hW1]; exact (Below.refl _ w).alloc (Nat.le_refl _) _
    have ho : OutR W1 B B 29 51 3 none 0 0 (tksV []) := ⟨Nat.le_refl _, by rw [← hW1, ← hB]; exact heap_alloc_new w _, by simp [ob], World.ownsRow_nil _ _ _ _⟩
    have hly := lyv_of (w0 := w) (R := B) (B := B) (ty := 29) (e := 51) (sz := 3) (size := n) (f := 25) (cnt := List.length) (enc := tksV) (lb := #[.pointer (some ⟨B, 0, none⟩)]) (enters_of Try.func25 (by kernel_rfl) rfl) (fun W ts t a c h hg => by
      have h1 := len_told hg
      have h2 := hg.le (Nat.zero_le _)
      rw [List.length_append] at h1
      rw [List.length_append]
      exact tok1_any t h (by omega))
    have hrd : ∀ W ts F, InvR w B B 29 51 3 List.length tksV W ts F → Bs W (cutA a cap k 1) (len - k) (cap - k) (bs.drop k) := fun W ts F ⟨_, _, _, _, hb⟩ => by
      rw [← hB] at hb
      exact (h.below hb).rest k (by omega)
    have HW := walk_any hly hrd (w := W1) (F0 := fun x => x = B ∨ ob none = some x) ⟨none, 0, ho, rfl, by rw [← hB]; exact hb1⟩ hn
    have HW : Hid (Calls Try.prog 22 #[.slice (cutA a cap k 1) (len - k) (cap - k), .int .i64 (n : Int), .func (.func 25) #[] #[.pointer (some ⟨B, 0, none⟩)]] W1 (WkTo n (bs.drop k) (InvR w B B 29 51 3 List.length tksV))) := HW
    have hcut := off_bytes a len cap k (by omega)
    have hwB : Hid (w.heap.size = B) := hB
    clear hb h hb1 ho hly hrd
    go_enter Try.func12, Try.ntmps12
    go_wp2_with fail
    refine HB.out.mono ?_
    rintro e w' ⟨rfl, h⟩; subst w'
    go_wp2_with fail
    refine HW.out.mono ?_
    rintro e V ⟨r, ts, F, rfl, ⟨a9, c9, ho, _, hbV⟩, hyes, hno⟩
    have cB : V.cell? ⟨B, 0, none⟩ = some (.slice a9 ts.length c9) := by rw [cell_of_row _ _ _ _ _ _ ho.2.1]; rfl
    have HO : Hid (V.ownsRow B 51 3 (.slice a9 ts.length c9) ts.length (tksV ts) ∧ Below B w V) := ⟨ho.2.2.2, hbV⟩
    cases r with
    | true =>
      have HR : Hid (Right n (bs.drop k) ts) := hyes rfl
      clear hyes hno ho hbV
      go_wp2
      go_ret2
      refine ⟨by rw [hwB.out]; exact HO.out.2, .inl ⟨n, ts, a9, c9, ⟨k, HE.out, HR.out⟩, rfl, by rw [hwB.out]; exact HO.out.1⟩⟩
    | false =>
      have HR : Hid (∀ us, ¬ Right n (bs.drop k) us) := hno rfl
      clear hyes hno ho hbV cB
      go_wp2
      go_ret2
      exact ⟨by rw [hwB.out]; exact HO.out.2, .inr ⟨fun m us hw => HR.out us (whole_some HE.out hw).2, rfl⟩⟩
end Go.Proofs.Ytekbmdpokghmmaa
