/- Tokens in memory; begin, told, first. -/
import Derived.Test.YtekbmdpokghmmaaLB
namespace Go.Proofs.Ytekbmdpokghmmaa
open Go.RowKit Lz
abbrev tkV (t : Tk) : Value := .agg #[.int .i64 (t.b : Int), .int .i64 (t.s : Int), .string (strOf t.d)]
def begV (bs : List UInt8) : Value := match begL bs with
  | some (n, k) => .tuple #[.int .i64 (n : Int), .int .i64 (k : Int), .int .i64 0]
  | none => .tuple #[.int .i64 0, .int .i64 0, .int .i64 4]
theorem getAt0 (bs : List UInt8) : getAt bs 0 = ((getL bs 0 0).1, if (getL bs 0 0).2.2 = 0 then ((getL bs 0 0).2.1 : Int) else 0, (getL bs 0 0).2.2) := by
  have := getAt_in (bs := bs) (p := 0) (by omega)
  rw [List.drop_zero] at this
  simpa using this
theorem getL_lt (bs : List UInt8) : (getL bs 0 0).1 < 18446744073709551616 := by
  obtain ⟨m, k, c, hg⟩ : ∃ m k c, getL bs 0 0 = (m, k, c) := ⟨_, _, _, rfl⟩
  by_cases hc : c = 0
  · subst hc
    obtain ⟨n, h1, h2, h3, h4, _, h6⟩ := getL_least bs 0 0 m k hg (by omega)
    rw [hg]; simp only; rw [Nat.pow_zero, Nat.mul_one] at h1 h6; omega
  · have : ∀ (l : List UInt8) (i acc : Nat), (getL l i acc).2.2 ≠ 0 → (getL l i acc).1 = 0 := by
      intro l
      induction l with
      | nil => intro i acc h; unfold getL; split <;> rfl
      | cons c t ih =>
        intro i acc h
        unfold getL at h ⊢
        split
        · rfl
        · next h1 =>
          rw [if_neg h1] at h
          split
          · next h2 => rw [if_pos h2] at h; exact ih _ _ h
          · next h2 =>
            rw [if_neg h2] at h
            split
            · rfl
            · next h3 => rw [if_neg h3] at h; exact absurd rfl h
    rw [this bs 0 0 (by rw [hg]; exact hc)]
    omega
set_option maxRecDepth 100000 in
set_option maxHeartbeats 1000000 in
theorem begin_any {w : World} {a : Option Addr} {len cap : Nat} {bs : List UInt8} (h : Bs w a len cap bs) : Calls Try.prog 21 #[.slice a len cap] w fun e w' => e = .returned (begV bs) ∧ w' = w := by
  have HG := get_any a len cap bs 0 w h (by omega) (by omega)
  rw [getAt0] at HG
  have hn := getL_lt bs
  obtain ⟨n, k, c, hg⟩ : ∃ m k c, getL bs 0 0 = (m, k, c) := ⟨_, _, _, rfl⟩
  have hv : begV bs = match (if c = 0 ∧ n ≤ 65536 then some (n, k) else none) with
    | some (n, k) => .tuple #[.int .i64 (n : Int), .int .i64 (k : Int), .int .i64 0]
    | none => .tuple #[.int .i64 0, .int .i64 0, .int .i64 4] := by unfold begV begL; rw [hg]
  rw [hv]
  rw [hg] at HG hn
  simp only [ans3] at HG hn
  clear hg hv h
  by_cases hc : c = 0
  · subst hc
    rw [if_pos rfl] at HG
    have HG : Hid (Calls Try.prog 35 #[.slice a len cap, .int .i64 0] w fun e w' => e = .returned (.tuple #[.int .u64 (n : Int), .int .i64 (k : Int), .int .i64 0]) ∧ w' = w) := HG
    by_cases hs : n ≤ 65536
    · rw [if_pos ⟨rfl, hs⟩]
      have k1 : ¬ (65536 : Int) < (n : Int) := by omega
      have wn : IntKind.i64.wrap (n : Int) = (n : Int) := wrapI _ (by omega) (by omega)
      go_enter Try.func21, Try.ntmps21
      go_wp2_with fail
      refine HG.out.mono ?_
      rintro e w' ⟨rfl, h⟩; subst w'
      go_wp2
      go_ret3
      exact ⟨rfl, rfl⟩
    · rw [if_neg (by omega)]
      have k1 : (65536 : Int) < (n : Int) := by omega
      go_enter Try.func21, Try.ntmps21
      go_wp2_with fail
      refine HG.out.mono ?_
      rintro e w' ⟨rfl, h⟩; subst w'
      go_wp2
      go_ret3
      exact ⟨rfl, rfl⟩
  · rw [if_neg hc] at HG
    rw [if_neg (by omega)]
    have k1 : ¬ (c : Int) = 0 := by omega
    have kb : ((c : Int) == 0) = false := by simpa using k1
    have kn : ((c : Int) != 0) = true := by simpa using k1
    have HG : Hid (Calls Try.prog 35 #[.slice a len cap, .int .i64 0] w fun e w' => e = .returned (.tuple #[.int .u64 (n : Int), .int .i64 0, .int .i64 (c : Int)]) ∧ w' = w) := HG
    go_enter Try.func21, Try.ntmps21
    go_wp2_with fail
    refine HG.out.mono ?_
    rintro e w' ⟨rfl, h⟩; subst w'
    go_wp2
    go_ret3
    exact ⟨rfl, rfl⟩
set_option maxHeartbeats 400000 in
theorem told_any (t : Tk) (ht : t.told ≤ 9000000000000000000) (w : World) : Calls Try.prog 32 #[tkV t] w fun e w' => e = .returned (.int .i64 (t.told : Int)) ∧ Below w.heap.size w w' := by
  obtain ⟨b, s, d⟩ := t
  unfold Tk.told at ht ⊢
  simp only at ht ⊢
  have hz : (strOf d).size = d.length := strOf_size d
  have wn : IntKind.i64.wrap ((d.length : Int) + (s : Int)) = (d.length : Int) + (s : Int) := wrapI _ (by omega) (by omega)
  have e1 : ((d.length + s : Nat) : Int) = (d.length : Int) + (s : Int) := by omega
  rw [e1]
  show Calls Try.prog 32 #[.agg #[.int .i64 (b : Int), .int .i64 (s : Int), .string (strOf d)]] w _
  rw [← hz] at wn ht ⊢
  generalize strOf d = T at *
  clear hz e1
  go_enter Try.func32, Try.ntmps32
  go_wp2
  go_ret
  exact ⟨rfl, (Below.refl _ w).alloc (Nat.le_refl _) _⟩
def firV (bs : List UInt8) : Value := match firstT bs with
  | some (t, n) => .tuple #[tkV t, .int .i64 (n : Int)]
  | none => .tuple #[tkV ⟨0, 0, []⟩, .int .i64 0]
theorem infoTk : (Try.prog.info? 51).map (·.size) = some 3 := by kernel_rfl
theorem res_tk2 {fn : Func} {p q : Tmp} (h : fn.results = #[.cell p 51, .tmp q]) (tmps : Array Value) (w : World) (g : Nat) (cs : Array Value) (hp : tmps.getD p undef = .pointer (some ⟨g, 0, none⟩)) (hg : w.heap[g]? = some (.cells cs 51 (0, 0))) (hi : (Try.prog.info? 51).map (·.size) = some cs.size) :
    (results fn tmps).run Try.prog w = .ok (.tuple #[.agg cs, tmps.getD q undef]) w := by
  have hp' : tmps[p]?.getD undef = .pointer (some ⟨g, 0, none⟩) := by simpa using hp
  have hl := run_loadVar_row (P := Try.prog) w g 51 51 cs (0, 0) _ hg Try.underlying51 rfl hi
  simp [results, h, hp', asAddr, hl]
theorem or_i64 (h l : Nat) (hh : h < 256) (hl : l < 256) : bits .or .i64 ((256 * h : Nat) : Int) (l : Int) = ((256 * h + l : Nat) : Int) := by
  have e1 : (BitVec.ofInt 64 ((256 * h : Nat) : Int)).toNat = 256 * h := by rw [BitVec.toNat_ofInt]; omega
  have e2 : (BitVec.ofInt 64 (l : Int)).toNat = l := by rw [BitVec.toNat_ofInt]; omega
  show IntKind.i64.wrap ((BitVec.ofInt 64 ((256 * h : Nat) : Int) ||| BitVec.ofInt 64 (l : Int)).toNat : Int) = _
  rw [BitVec.toNat_or, e1, e2, show 256 * h = 2 ^ 8 * h by rfl, ← Nat.two_pow_add_eq_or_of_lt (i := 8) (by simpa using hl)]
  exact wrapI _ (by omega) (by omega)
set_option maxRecDepth 100000 in
set_option maxHeartbeats 2000000 in
theorem first_any {w : World} {a : Option Addr} {len cap : Nat} {bs : List UInt8} (h : Bs w a len cap bs) (h0 : 0 < len) : Calls Try.prog 36 #[.slice a len cap] w fun e w' => e = .returned (firV bs) ∧ Below w.heap.size w w' := by
  obtain ⟨b, o, rfl, _⟩ := h.at h0
  have hlen := h.1
  have hlc := h.2.1
  have hcm := h.2.2.1
  obtain ⟨B, hB⟩ : ∃ B, w.heap.size = B := ⟨_, rfl⟩
  obtain ⟨W1, hW1⟩ : ∃ W, w.alloc (.cells #[.int .i64 0, .int .i64 0, .string ⟨#[]⟩] 51) = W := ⟨_, rfl⟩
  have hb1 : Below w.heap.size w W1 := by rw [← hW1]; exact (Below.refl _ w).alloc (Nat.le_refl _) _
  have hr1 : W1.heap[B]? = some (.cells #[.int .i64 0, .int .i64 0, .string ⟨#[]⟩] 51 (0, 0)) := by rw [← hW1, ← hB]; exact heap_alloc_new w _
  have hbs1 := h.below hb1
  have c0 := hbs1.cellat 0 h0
  rw [Nat.add_zero] at c0
  obtain ⟨c, hc⟩ : ∃ c, bs.getD 0 0 = c := ⟨_, rfl⟩
  obtain ⟨n, hn⟩ : ∃ n, c.toNat = n := ⟨_, rfl⟩
  have hn256 : n < 256 := by rw [← hn]; exact UInt8.toNat_lt c
  have hbc : bs = c :: bs.drop 1 := by
    cases bs with
    | nil => rw [← hlen] at h0; cases h0
    | cons x r => simp at hc; subst hc; rfl
  rw [hc, hn] at c0
  have HF : Hid (bs = c :: bs.drop 1 ∧ c.toNat = n ∧ (bs.drop 1).length = len - 1) := ⟨hbc, hn, by rw [List.length_drop, hlen]⟩
  have f0 := frozen_of_row W1 B 0 _ _ hr1
  have f1 := frozen_of_row W1 B 1 _ _ hr1
  have f2 := frozen_of_row W1 B 2 _ _ hr1
  have HZ : Hid (firstT bs = none → ∀ V, V.heap[B]? = some (.cells #[.int .i64 0, .int .i64 0, .string ⟨#[]⟩] 51 (0, 0)) → ∀ (tmps : Array Value), tmps.getD 2 undef = .pointer (some ⟨B, 0, none⟩) → tmps.getD 3 undef = .int .i64 0 → (results Try.f36 tmps).run Try.prog V = .ok (firV bs) V) := by
    intro hf V hV tmps h2 h3
    have := res_tk2 (fn := Try.f36) (p := 2) (q := 3) (by rfl) tmps V B _ h2 hV infoTk
    rw [this, h3]
    unfold firV
    rw [hf]
    rfl
  have HS : Hid (∀ t k, firstT bs = some (t, k) → ∀ V, V.heap[B]? = some (.cells #[.int .i64 (t.b : Int), .int .i64 (t.s : Int), .string (strOf t.d)] 51 (0, 0)) → ∀ (tmps : Array Value), tmps.getD 2 undef = .pointer (some ⟨B, 0, none⟩) → tmps.getD 3 undef = .int .i64 (k : Int) → (results Try.f36 tmps).run Try.prog V = .ok (firV bs) V) := by
    intro t k hf V hV tmps h2 h3
    have := res_tk2 (fn := Try.f36) (p := 2) (q := 3) (by rfl) tmps V B _ h2 hV infoTk
    rw [this, h3]
    unfold firV
    rw [hf]
  have HB : Hid (∀ V : World, Upd (fun x => x = B) W1 V → Below w.heap.size w V ∧ Below B w V) := fun V hV => by
    rw [hB]
    refine ⟨?_, ?_⟩ <;> rw [← hB]
    all_goals
      have h8 : Upd (fun x => x = B) w V := (Upd.of_below (S := fun x => x = B) hb1).trans hV (fun x hx _ => hx)
      exact h8.below (Nat.le_refl _) (fun k hk => by omega)
  have HR1 : Hid (W1.heap[B]? = some (.cells #[.int .i64 0, .int .i64 0, .string ⟨#[]⟩] 51 (0, 0))) := hr1
  have HST : Hid (∀ V, Upd (fun x => x = B) W1 V → V.heap[B]? = W1.heap[B]? → ∀ (x y : Int) (s : ByteArray), Upd (fun x => x = B) W1 (((V.setCell ⟨B, 0, none⟩ (.int .i64 x)).setCell ⟨B, 1, none⟩ (.int .i64 y)).setCell ⟨B, 2, none⟩ (.string s)) ∧ (((V.setCell ⟨B, 0, none⟩ (.int .i64 x)).setCell ⟨B, 1, none⟩ (.int .i64 y)).setCell ⟨B, 2, none⟩ (.string s)).heap[B]? = some (.cells #[.int .i64 x, .int .i64 y, .string s] 51 (0, 0))) := fun V hV hv x y s => by
    refine ⟨((hV.setCell (p := ⟨B, 0, none⟩) (fun _ => rfl) _).setCell (p := ⟨B, 1, none⟩) (fun _ => rfl) _).setCell (p := ⟨B, 2, none⟩) (fun _ => rfl) _, ?_⟩
    rw [heap_setCell_same _ B 2 _ _ _ (heap_setCell_same _ B 1 _ _ _ (heap_setCell_same V B 0 _ _ _ (hv.trans hr1)))]
    rfl
  have z0 : W1.cell? ⟨B, 0, none⟩ = some (.int .i64 0) := by rw [cell_of_row _ _ _ _ _ _ hr1]; rfl
  have z1 : W1.cell? ⟨B, 1, none⟩ = some (.int .i64 0) := by rw [cell_of_row _ _ _ _ _ _ hr1]; rfl
  have z2 : W1.cell? ⟨B, 2, none⟩ = some (.string ⟨#[]⟩) := by rw [cell_of_row _ _ _ _ _ _ hr1]; rfl
  by_cases h128 : n < 128
  · have k1 : (n : Int) < 128 := by omega
    by_cases hsh : len < n + 2
    · have k2 : (len : Int) < 1 + (n : Int) + 1 := by omega
      have HN : Hid (firstT bs = none) := by
        show firstT bs = none
        rw [HF.out.1]
        simp only [firstT]
        rw [if_pos (by rw [HF.out.2.1]; exact h128), if_pos (by rw [HF.out.2.1, HF.out.2.2]; omega)]
      clear h hbs1 hbc hc hn hb1 hr1
      go_enter Try.func36, Try.ntmps36
      go_wp2
      obtain ⟨e1, e2⟩ := HST.out W1 (Upd.refl _ _) rfl 0 0 ⟨#[]⟩
      refine bodyPost_ret (v := firV bs) ?_ rfl ⟨rfl, by first | exact (HB.out _ e1).1 | exact (HB.out _ e1).2⟩
      exact HZ.out HN.out _ e2 _ (by rfl) (by rfl)
    · have k2 : ¬ (len : Int) < 1 + (n : Int) + 1 := by omega
      have HN : Hid (firstT bs = some (⟨0, 0, (bs.drop 1).take (n + 1)⟩, n + 2)) := by
        have e : firstT (c :: bs.drop 1) = some (⟨0, 0, (bs.drop 1).take (n + 1)⟩, n + 2) := by
          simp only [firstT]
          rw [if_pos (by rw [HF.out.2.1]; exact h128), if_neg (by rw [HF.out.2.1, HF.out.2.2]; omega), HF.out.2.1]
        rw [← HF.out.1] at e
        exact e
      have hm := fun V => mid_bytes (some ⟨b, o, none⟩) len cap 1 (n + 2) (by omega) (by omega) V
      have hcv := (hbs1.off 1 (n + 2) (by omega) (by omega)).convS
      rw [show n + 2 - 1 = n + 1 by omega] at hm hcv
      obtain ⟨sa, hsa⟩ : ∃ sa, cutA (some ⟨b, o, none⟩) cap 1 1 = sa := ⟨_, rfl⟩
      obtain ⟨sc, hsc⟩ : ∃ sc, cap - 1 = sc := ⟨_, rfl⟩
      obtain ⟨T, hT⟩ : ∃ T, strOf ((bs.drop 1).take (n + 1)) = T := ⟨_, rfl⟩
      rw [hsa, hsc] at hm hcv
      rw [hT] at hcv
      have hm2 : ∀ V : World, (Instr.sliceAt 22 (.slice (some ⟨b, o, none⟩) len cap) (some (.int .i64 1)) (some (.int .i64 (1 + (n : Int) + 1))) none).run Try.prog V = .ok (.slice sa (n + 1) sc) V := fun V => by
        have := hm V
        rw [show ((n + 2 : Nat) : Int) = 1 + (n : Int) + 1 by omega] at this
        exact this
      have HT : Hid (strOf ((bs.drop 1).take (n + 1)) = T) := hT
      clear h hbs1 hbc hc hn hb1 hr1 hm hsa hsc hT
      go_enter Try.func36, Try.ntmps36
      go_wp2
      obtain ⟨e1, e2⟩ := HST.out W1 (Upd.refl _ _) rfl 0 0 T
      refine bodyPost_ret (v := firV bs) ?_ rfl ⟨rfl, by first | exact (HB.out _ e1).1 | exact (HB.out _ e1).2⟩
      refine HS.out _ _ HN.out _ (by rw [HT.out]; exact e2) _ (by rfl) ?_
      show Value.int .i64 (1 + (n : Int) + 1) = .int .i64 ((n + 2 : Nat) : Int)
      rw [show ((n + 2 : Nat) : Int) = 1 + (n : Int) + 1 by omega]
  · have k1 : ¬ (n : Int) < 128 := by omega
    by_cases hsh : len < 3
    · have k2 : (len : Int) < 3 := by omega
      have HN : Hid (firstT bs = none) := by
        have e : firstT (c :: bs.drop 1) = none := by
          simp only [firstT]
          rw [if_neg (by rw [HF.out.2.1]; exact h128)]
          cases hd : bs.drop 1 with
          | nil => rfl
          | cons x r =>
            cases r with
            | nil => rfl
            | cons y r =>
              have := HF.out.2.2
              rw [hd] at this
              simp at this
              omega
        rw [← HF.out.1] at e
        exact e
      clear h hbs1 hbc hc hn hb1 hr1
      go_enter Try.func36, Try.ntmps36
      go_wp2
      obtain ⟨e1, e2⟩ := HST.out W1 (Upd.refl _ _) rfl 0 0 ⟨#[]⟩
      refine bodyPost_ret (v := firV bs) ?_ rfl ⟨rfl, by first | exact (HB.out _ e1).1 | exact (HB.out _ e1).2⟩
      exact HZ.out HN.out _ e2 _ (by rfl) (by rfl)
    · have k2 : ¬ (len : Int) < 3 := by omega
      obtain ⟨p, hp⟩ : ∃ p, bs.getD 1 0 = p := ⟨_, rfl⟩
      obtain ⟨q, hq⟩ : ∃ q, bs.getD 2 0 = q := ⟨_, rfl⟩
      obtain ⟨pn, hpn⟩ : ∃ n, p.toNat = n := ⟨_, rfl⟩
      obtain ⟨qn, hqn⟩ : ∃ n, q.toNat = n := ⟨_, rfl⟩
      have c1 := hbs1.cellat 1 (by omega)
      have c2 := hbs1.cellat 2 (by omega)
      rw [hp, hpn] at c1
      rw [hq, hqn] at c2
      have hp2 : pn < 256 := by rw [← hpn]; exact UInt8.toNat_lt p
      have hq2 : qn < 256 := by rw [← hqn]; exact UInt8.toNat_lt q
      have HN : Hid (firstT bs = some (⟨256 * pn + qn + 1, n - 125, []⟩, 3)) := by
        have e : firstT (c :: bs.drop 1) = some (⟨256 * pn + qn + 1, n - 125, []⟩, 3) := by
          simp only [firstT]
          rw [if_neg (by rw [HF.out.2.1]; exact h128)]
          have e1 : bs.drop 1 = p :: q :: bs.drop 3 := by
            rw [List.getD_eq_getElem?_getD, List.getElem?_eq_getElem (by omega)] at hp hq
            rw [List.drop_eq_getElem_cons (show 1 < bs.length by omega), List.drop_eq_getElem_cons (show 1 + 1 < bs.length by omega)]
            rw [Option.getD_some] at hp hq
            rw [← hp, ← hq]
          rw [e1]
          simp only
          rw [HF.out.2.1, hpn, hqn]
        rw [← HF.out.1] at e
        exact e
      have hor := or_i64 pn qn hp2 hq2
      have e5 : ((256 * pn : Nat) : Int) = (pn : Int) * 256 := by omega
      rw [e5] at hor
      have e6 : ((256 * pn + qn : Nat) : Int) = (256 * pn + qn : Nat) := rfl
      obtain ⟨D, hD⟩ : ∃ D, 256 * pn + qn = D := ⟨_, rfl⟩
      have hD2 : D < 65536 := by omega
      rw [hD] at hor
      have HD : Hid (256 * pn + qn = D) := hD
      have k3 : (1 : Int) < (len : Int) := by omega
      have wp : IntKind.i64.wrap (pn : Int) = (pn : Int) := wrapI _ (by omega) (by omega)
      have wq : IntKind.i64.wrap (qn : Int) = (qn : Int) := wrapI _ (by omega) (by omega)
      have k4 : (2 : Int) < (len : Int) := by omega
      have ws : IntKind.i64.wrap ((pn : Int) * 256) = (pn : Int) * 256 := wrapI _ (by omega) (by omega)
      clear h hbs1 hbc hc hn hb1 hr1 hp hq hpn hqn e5 e6 hD
      go_enter Try.func36, Try.ntmps36
      go_wp2
      refine wp_region_held_drew (S := fun V => V.cell? ⟨b, o + 1, none⟩ = some (.int .u8 (pn : Int)) ∧ V.cell? ⟨b, o + 2, none⟩ = some (.int .u8 (qn : Int)) ∧ V = W1.drew) (by kernel_rfl) (⟨c1, c2, rfl⟩) (fun hHeld => ?_)
      refine wpAnyH_take (i := 0) (v := ?v0) rfl (by kernel_rfl) (by kernel_rfl) (by kernel_rfl) (fun _ _ _ h => h) (Or.inl ⟨by first | kernel_rfl | rfl, ?y0⟩) hHeld ?r0
      case y0 => (intro W hSW; (try dsimp only at hSW); go_simp; (try with_reducible rfl))
      change wpAnyH _ _ _ _ _ _ _ (Act.put _ (some 31) _) _
      simp only [Act.put, List.setIfInBounds_toArray, List.set_cons_zero, List.set_cons_succ]
      refine wpAnyH_take (i := 1) (v := ?v1) rfl (by kernel_rfl) (by kernel_rfl) (by kernel_rfl) (fun _ _ _ h => h) (Or.inl ⟨by first | kernel_rfl | rfl, ?y1⟩) hHeld ?r1
      case y1 => (intro W hSW; (try dsimp only at hSW); go_simp; (try with_reducible rfl))
      change wpAnyH _ _ _ _ _ _ _ (Act.put _ (some 32) _) _
      simp only [Act.put, List.setIfInBounds_toArray, List.set_cons_zero, List.set_cons_succ]
      refine wpAnyH_take (i := 2) (v := ?v2) rfl (by kernel_rfl) (by kernel_rfl) (by kernel_rfl) (fun _ _ _ h => h) (Or.inl ⟨by first | kernel_rfl | rfl, ?y2⟩) hHeld ?r2
      case y2 => (intro W hSW; (try dsimp only at hSW); go_simp; (try with_reducible rfl))
      change wpAnyH _ _ _ _ _ _ _ (Act.put _ (some 33) _) _
      simp only [Act.put, List.setIfInBounds_toArray, List.set_cons_zero, List.set_cons_succ]
      refine wpAnyH_take (i := 3) (v := ?v3) rfl (by kernel_rfl) (by kernel_rfl) (by kernel_rfl) (fun _ _ _ h => h) (Or.inl ⟨by first | kernel_rfl | rfl, ?y3⟩) hHeld ?r3
      case y3 => (intro W hSW; (try dsimp only at hSW); go_simp; (try with_reducible rfl))
      change wpAnyH _ _ _ _ _ _ _ (Act.put _ (some 34) _) _
      simp only [Act.put, List.setIfInBounds_toArray, List.set_cons_zero, List.set_cons_succ]
      refine wpAnyH_take (i := 4) (v := ?v4) rfl (by kernel_rfl) (by kernel_rfl) (by kernel_rfl) (fun _ _ _ h => h) (Or.inl ⟨by first | kernel_rfl | rfl, ?y4⟩) hHeld ?r4
      case y4 => (intro W hSW; (try dsimp only at hSW); go_simp; (try with_reducible rfl))
      change wpAnyH _ _ _ _ _ _ _ (Act.put _ (some 35) _) _
      simp only [Act.put, List.setIfInBounds_toArray, List.set_cons_zero, List.set_cons_succ]
      refine wpAnyH_take (i := 5) (v := ?v5) rfl (by kernel_rfl) (by kernel_rfl) (by kernel_rfl) (fun _ _ _ h => h) (Or.inl ⟨by first | kernel_rfl | rfl, ?y5⟩) hHeld ?r5
      case y5 => (intro W hSW; (try dsimp only at hSW); go_simp; (try with_reducible rfl))
      change wpAnyH _ _ _ _ _ _ _ (Act.put _ (some 36) _) _
      simp only [Act.put, List.setIfInBounds_toArray, List.set_cons_zero, List.set_cons_succ]
      refine wpAnyH_take (i := 6) (v := ?v6) rfl (by kernel_rfl) (by kernel_rfl) (by kernel_rfl) (fun _ _ _ h => h) (Or.inl ⟨by first | kernel_rfl | rfl, ?y6⟩) hHeld ?r6
      case y6 => (intro W hSW; (try dsimp only at hSW); go_simp; (try with_reducible rfl))
      change wpAnyH _ _ _ _ _ _ _ (Act.put _ (some 37) _) _
      simp only [Act.put, List.setIfInBounds_toArray, List.set_cons_zero, List.set_cons_succ]
      refine wpAnyH_take (i := 7) (v := ?v7) rfl (by kernel_rfl) (by kernel_rfl) (by kernel_rfl) (fun _ _ _ h => h) (Or.inl ⟨by first | kernel_rfl | rfl, ?y7⟩) hHeld ?r7
      case y7 => (intro W hSW; (try dsimp only at hSW); go_simp; (try with_reducible rfl))
      change wpAnyH _ _ _ _ _ _ _ (Act.put _ (some 38) _) _
      simp only [Act.put, List.setIfInBounds_toArray, List.set_cons_zero, List.set_cons_succ]
      refine wpAnyH_take (i := 8) (v := ?v8) rfl (by kernel_rfl) (by kernel_rfl) (by kernel_rfl) (fun _ _ _ h => h) (Or.inl ⟨by first | kernel_rfl | rfl, ?y8⟩) hHeld ?r8
      case y8 => (intro W hSW; (try dsimp only at hSW); go_simp; (try with_reducible rfl))
      change wpAnyH _ _ _ _ _ _ _ (Act.put _ (some 39) _) _
      simp only [Act.put, List.setIfInBounds_toArray, List.set_cons_zero, List.set_cons_succ]
      refine wpAnyH_take (i := 9) (v := ?v9) rfl (by kernel_rfl) (by kernel_rfl) (by kernel_rfl) (fun _ _ _ h => h) (Or.inl ⟨by first | kernel_rfl | rfl, ?y9⟩) hHeld ?r9
      case y9 => (intro W hSW; (try dsimp only at hSW); go_simp; (try with_reducible rfl))
      change wpAnyH _ _ _ _ _ _ _ (Act.put _ (some 40) _) _
      simp only [Act.put, List.setIfInBounds_toArray, List.set_cons_zero, List.set_cons_succ]
      refine wpAnyH_take (i := 10) (v := ?v10) rfl (by kernel_rfl) (by kernel_rfl) (by kernel_rfl) (fun _ _ _ h => h) (Or.inl ⟨by first | kernel_rfl | rfl, ?y10⟩) hHeld ?r10
      case y10 => (intro W hSW; (try dsimp only at hSW); go_simp; (try with_reducible rfl))
      change wpAnyH _ _ _ _ _ _ _ (Act.put _ (some 6) _) _
      simp only [Act.put, List.setIfInBounds_toArray, List.set_cons_zero, List.set_cons_succ]
      refine wpAnyH_done (by kernel_rfl) ?_ _
      clear hHeld
      try simp only [wp, wq, ws, hor]
      have f0 : W1.drew.frozen? ⟨B, 0, none⟩ = false := f0
      have f1 : W1.drew.frozen? ⟨B, 1, none⟩ = false := f1
      have f2 : W1.drew.frozen? ⟨B, 2, none⟩ = false := f2
      have z0 : W1.drew.cell? ⟨B, 0, none⟩ = some (.int .i64 0) := z0
      have z1 : W1.drew.cell? ⟨B, 1, none⟩ = some (.int .i64 0) := z1
      have z2 : W1.drew.cell? ⟨B, 2, none⟩ = some (.string ⟨#[]⟩) := z2
      have HST2 := HST.out W1.drew (Upd.refl _ _).drew rfl ((D : Int) + 1) ((n : Int) - 125) ⟨#[]⟩
      have HST2 : Hid _ := HST2
      generalize W1.drew = W2 at *
      go_wp2
      obtain ⟨e1, e2⟩ := HST2.out
      refine bodyPost_ret (v := firV bs) ?_ rfl ⟨rfl, by first | exact (HB.out _ e1).1 | exact (HB.out _ e1).2⟩
      refine HS.out _ _ HN.out _ ?_ _ (by rfl) (by rfl)
      rw [HD.out]
      simp only
      rw [show ((n - 125 : Nat) : Int) = (n : Int) - 125 by omega, show ((D + 1 : Nat) : Int) = (D : Int) + 1 by omega]
      exact e2
end Go.Proofs.Ytekbmdpokghmmaa
