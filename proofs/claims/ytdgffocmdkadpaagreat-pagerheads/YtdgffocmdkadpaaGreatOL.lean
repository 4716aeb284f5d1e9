/- A walk over the document's Right. -/
import Derived.Test.YtdgffocmdkadpaaGreatOJ
namespace Go.Proofs.YtdgffocmdkadpaaGreat
open Go.RowKit Go.Shelf Pg
def rtB (b : List UInt8) (k j : Nat) : Nat := if j < k then rootOf b j else 0
theorem rsA_rtB (uv dv : Value) (b : List UInt8) (ser k : Nat) (hk : k < 4) : (rsA uv dv (rtB b k) ser).setIfInBounds (2 + k) (.int .i64 ((rootOf b k : Nat) : Int)) = rsA uv dv (rtB b (k + 1)) ser := by
  match k, hk with
  | 0, _ => rfl
  | 1, _ => rfl
  | 2, _ => rfl
  | 3, _ => rfl
theorem rsA_rtB4 (uv dv : Value) (b : List UInt8) (n : Nat) : rsA uv dv (rtB b 4) (serOf b) = rsH uv dv (hdN n b) := rfl
def usB (b : List UInt8) (k : Nat) : List Bool := (List.range k).map (usedOf b)
theorem usB_succ (b : List UInt8) (k : Nat) : usB b (k + 1) = usB b k ++ [usedOf b k] := by simp [usB, List.range_succ]
set_option maxRecDepth 100000 in
set_option maxHeartbeats 8000000 in
theorem rright_any (s : ByteArray) (n : Nat) (w : World) (hs : s.size = 1024) (hn2 : 2 ≤ n) (hn : n ≤ 128) : Calls Tryz.prog 12 #[.string s, .int .i64 (n : Int)] w fun e w' => e = .returned (.bool (parseH n s.data.toList).isSome) ∧ Below w.heap.size w w' := by
  have HBL := rblank_any w
  by_cases hz : s = zeroS
  · subst hz
    have e : (parseH n zeroS.data.toList).isSome = true := by rw [parse_zero]; rfl
    rw [e]
    clear e
    go_enter Tryz.func12, Tryz.ntmps12
    go_wp2_with fail
    refine HBL.mono ?_
    rintro e V ⟨rfl, hV⟩
    have HB : Hid (Below w.heap.size w V) := hV
    clear HBL hV
    go_wp2
    go_ret
    exact ⟨rfl, HB.out⟩
  have ht := str_nb hz
  have hne := str_ne hz
  obtain ⟨b, hb⟩ : ∃ b, s.data.toList = b := ⟨_, rfl⟩
  have hbz : b ≠ zeroL := fun e => hz (by
    have : strOf b = s := (text_eq s b).2 hb.symm
    rw [← this, e]; rfl)
  have HDP := doc_parse n b (by omega) hn hbz
  have HAT : Hid (∀ k, k < 1024 → ∀ x, byteN b k = x → ∀ W, (Instr.index 9 (.string s) (.int .i64 (k : Int))).run Tryz.prog W = .ok (.int .u8 (x : Int)) W) := fun k hk x hx W => str_at s k x (by omega) (by rw [hb]; exact hx) W
  have HTE : Hid (strOf b = s) := (text_eq s b).2 hb.symm
  rw [hb]
  obtain ⟨ans, hans⟩ : ∃ ans, (parseH n b).isSome = ans := ⟨_, rfl⟩
  rw [hans] at HDP ⊢
  have HDOC : Hid (ans = true ↔ DocR n b) := HDP
  clear hb hbz HDP hans
  obtain ⟨B, hB⟩ : ∃ B, w.heap.size = B := ⟨_, rfl⟩
  go_enter Tryz.func12, Tryz.ntmps12
  go_wp2_with fail
  refine HBL.mono ?_
  rintro e V ⟨rfl, hV⟩
  obtain ⟨C, hC⟩ : ∃ C, V.heap.size = C := ⟨_, rfl⟩
  rw [hB] at hV
  have hBC : B ≤ C := by rw [← hC, ← hB]; exact hV.size
  have HV : Hid (Below B w V) := hV
  clear HBL hV
  go_wp2
  go_loopw [6] (fun v wr => ∃ i : Nat, i ≤ 8 ∧ v = .int .i64 (i : Int) ∧ wr.heap[C]? = some (.cells (rsA (.slice none 0 0) (.slice none 0 0) (rtB b 0) (serK b i)) 42 (0, 0)) ∧ Below B w wr) (fun v _ => 8 - (intOf v).toNat)
  case atStart =>
    refine ⟨0, by omega, rfl, ?_, HV.out.alloc (by omega) _⟩
    rw [← hC]; exact heap_alloc_new V _
  case round =>
    clear HV
    obtain ⟨i, hi, rfl, hc, hbw⟩ := hrel
    by_cases hlt : i < 8
    · have kk : (i : Int) < 8 := by omega
      obtain ⟨at_, hat⟩ : ∃ x : Nat, 10 + i = x := ⟨_, rfl⟩
      have kat : 10 + (i : Int) = (at_ : Int) := by omega
      have hat2 : at_ ≤ 17 := by omega
      obtain ⟨x, hx⟩ : ∃ x, byteN b at_ = x := ⟨_, rfl⟩
      have hx8 : x < 256 := by rw [← hx]; exact byteN_lt b at_
      have hix := HAT.out at_ (by omega) x hx
      have HK : Hid (serK b (i + 1) = serK b i * 256 + x) := by show serK b i * 256 + byteN b (10 + i) = _; rw [hat, hx]
      have hkl : serK b i * 256 < 18446744073709551616 := by
        have h1 := serK_lt b i
        have h2 : 256 ^ i * 256 ≤ 18446744073709551616 := pow_le8 hlt
        omega
      have hkl2 : serK b i * 256 + x < 18446744073709551616 := by rw [← HK.out]; exact Nat.lt_of_lt_of_le (serK_lt b (i + 1)) (by rw [Nat.pow_succ]; exact pow_le8 hlt)
      obtain ⟨q, hq⟩ : ∃ q, serK b i = q := ⟨_, rfl⟩
      rw [hq] at HK hkl hkl2
      have c6 : wr.cell? ⟨C, 6, none⟩ = some (.int .u64 (q : Int)) := by rw [cell_of_row wr C _ _ _ _ hc, ← hq]; rfl
      have f6 := frozen_of_row wr C 6 _ _ hc
      have kw1 : 0 ≤ (q : Int) * 256 := by omega
      have kw2 : (q : Int) * 256 ≤ 18446744073709551615 := by omega
      have kw3 : 0 ≤ (q : Int) * 256 + (x : Int) := by omega
      have kw4 : (q : Int) * 256 + (x : Int) ≤ 18446744073709551615 := by omega
      have HN : Hid ((wr.setCell ⟨C, 6, none⟩ (.int .u64 ((q : Int) * 256 + (x : Int)))).drew.heap[C]? = some (.cells (rsA (.slice none 0 0) (.slice none 0 0) (rtB b 0) (serK b (i + 1))) 42 (0, 0)) ∧ Below B w (wr.setCell ⟨C, 6, none⟩ (.int .u64 ((q : Int) * 256 + (x : Int)))).drew) := by
        refine ⟨?_, below_drew (hbw.setCell hBC _)⟩
        show (wr.setCell ⟨C, 6, none⟩ _).heap[C]? = _
        rw [heap_setCell_same wr C 6 _ _ _ hc, HK.out]
        rfl
      clear hc hbw HK hq hkl hkl2 hx hat
      go_wp2
      go_region
      go_wp2
      exact ⟨⟨i + 1, by omega, by go_num, HN.out⟩, by simp [intOf]; omega⟩
    · obtain rfl : i = 8 := by omega
      have kk : ¬ (8 : Int) < 8 := by omega
      rw [serK_8] at hc
      have HI : Hid (wr.heap[C]? = some (.cells (rsA (.slice none 0 0) (.slice none 0 0) (rtB b 0) (serOf b)) 42 (0, 0)) ∧ Below B w wr) := ⟨hc, hbw⟩
      clear hc hbw
      go_wp2
      go_loopw [7] (fun v wr => ∃ k : Nat, k ≤ 4 ∧ v = .int .i64 (k : Int) ∧ wr.heap[C]? = some (.cells (rsA (.slice none 0 0) (.slice none 0 0) (rtB b k) (serOf b)) 42 (0, 0)) ∧ Below B w wr) (fun v _ => 4 - (intOf v).toNat)
      case atStart => exact ⟨0, by omega, rfl, HI.out⟩
      case round =>
        clear HI
        obtain ⟨k, hk, rfl, hc, hbw⟩ := hrel
        by_cases hlt : k < 4
        · have kk : (k : Int) < 4 := by omega
          obtain ⟨at_, hat⟩ : ∃ x : Nat, 18 + 2 * k = x := ⟨_, rfl⟩
          have kat : 18 + 2 * (k : Int) = (at_ : Int) := by omega
          have kat1 : 19 + 2 * (k : Int) = ((at_ + 1 : Nat) : Int) := by omega
          obtain ⟨at1, hat1⟩ : ∃ x : Nat, at_ + 1 = x := ⟨_, rfl⟩
          rw [hat1] at kat1
          have hat2 : at_ ≤ 24 := by omega
          obtain ⟨x1, hx1⟩ : ∃ x, byteN b at_ = x := ⟨_, rfl⟩
          obtain ⟨x2, hx2⟩ : ∃ x, byteN b at1 = x := ⟨_, rfl⟩
          have hx18 : x1 < 256 := by rw [← hx1]; exact byteN_lt b at_
          have hx28 : x2 < 256 := by rw [← hx2]; exact byteN_lt b at1
          have hix1 := HAT.out at_ (by omega) x1 hx1
          have hix2 := HAT.out at1 (by omega) x2 hx2
          have HRS := rsA_rtB (.slice none 0 0) (.slice none 0 0) b (serOf b) k hlt
          obtain ⟨rk, hrk⟩ : ∃ rk, rootOf b k = rk := ⟨_, rfl⟩
          have hre : x1 * 256 + x2 = rk := by rw [← hrk, ← hx1, ← hx2, ← hat1, ← hat]; unfold rootOf; rw [show 18 + 2 * k + 1 = 19 + 2 * k by omega]
          have kre : (x1 : Int) * 256 + (x2 : Int) = (rk : Int) := by omega
          rw [hrk] at HRS
          have ck : ∃ z : Value, wr.cell? ⟨C, 2 + k, none⟩ = some z := by
            rw [cell_of_row wr C _ _ _ _ hc, Array.getElem?_eq_getElem (by simp [rsA]; omega)]
            exact ⟨_, rfl⟩
          obtain ⟨z, ck⟩ := ck
          have fk := frozen_of_row wr C (2 + k) _ _ hc
          have HN : Hid ((wr.setCell ⟨C, 2 + k, none⟩ (.int .i64 (rk : Int))).drew.heap[C]? = some (.cells (rsA (.slice none 0 0) (.slice none 0 0) (rtB b (k + 1)) (serOf b)) 42 (0, 0)) ∧ Below B w (wr.setCell ⟨C, 2 + k, none⟩ (.int .i64 (rk : Int))).drew) := by
            refine ⟨?_, below_drew (hbw.setCell hBC _)⟩
            show (wr.setCell ⟨C, 2 + k, none⟩ _).heap[C]? = _
            rw [heap_setCell_same wr C (2 + k) _ _ _ hc, HRS]
          clear hc hbw HRS hrk hx1 hx2 hat hat1
          go_wp2
          go_region
          go_wp2
          exact ⟨⟨k + 1, by omega, by go_num, HN.out⟩, by simp [intOf]; omega⟩
        · obtain rfl : k = 4 := by omega
          have kk : ¬ (4 : Int) < 4 := by omega
          have HI : Hid (wr.heap[C]? = some (.cells (rsA (.slice none 0 0) (.slice none 0 0) (rtB b 4) (serOf b)) 42 (0, 0)) ∧ Below B w wr) := ⟨hc, hbw⟩
          clear hc hbw
          go_wp2
          go_loopw [8, 9, 10] (fun v _ _ wr => ∃ (i : Nat) (ua : Option Addr) (uc : Nat), i ≤ n ∧ v = .int .i64 (i : Int) ∧ wr.heap[C]? = some (.cells (rsA (.slice ua i uc) (.slice none 0 0) (rtB b 4) (serOf b)) 42 (0, 0)) ∧ wr.ownsRow (C + 1) 4 1 (.slice ua i uc) i (boolsV (usB b i)) ∧ Below B w wr) (fun v _ _ _ => n - (intOf v).toNat)
          case atStart => exact ⟨0, none, 0, by omega, rfl, HI.out.1, World.ownsRow_nil _ _ _ _, HI.out.2⟩
          case round =>
            clear HI
            obtain ⟨i, ua, uc, hi, rfl, hc, ho, hbw⟩ := hrel
            by_cases hlt : i < n
            · have kk : (i : Int) < (n : Int) := by omega
              obtain ⟨md, hmd⟩ : ∃ md : Nat, i % 8 = md := ⟨_, rfl⟩
              obtain ⟨dv8, hdv⟩ : ∃ d : Nat, i / 8 = d := ⟨_, rfl⟩
              have kmd : (i : Int) % 8 = (md : Int) := by omega
              have kdv : (i : Int) / 8 = (dv8 : Int) := by omega
              have hmd8 : md < 8 := by omega
              have hdv16 : dv8 < 16 := by omega
              obtain ⟨at_, hat⟩ : ∃ x : Nat, 26 + dv8 = x := ⟨_, rfl⟩
              have kat : 26 + (dv8 : Int) = (at_ : Int) := by omega
              obtain ⟨x, hx⟩ : ∃ x, byteN b at_ = x := ⟨_, rfl⟩
              have hx8 : x < 256 := by rw [← hx]; exact byteN_lt b at_
              have hix := HAT.out at_ (by omega) x hx
              have HUS : Hid (usedOf b i = decide (x / 2 ^ md % 2 = 1)) := by show _ = _; unfold usedOf; rw [hmd, hdv, hat, hx]
              have HK : Hid (wr.heap[C]? = some (.cells (rsA (.slice ua i uc) (.slice none 0 0) (rtB b 4) (serOf b)) 42 (0, 0)) ∧ wr.ownsRow (C + 1) 4 1 (.slice ua i uc) i (boolsV (usB b i)) ∧ Below B w wr) := ⟨hc, ho, hbw⟩
              clear hc ho hbw hmd hdv hat hx
              go_wp2
              go_loopw [9, 10] (fun v9 v10 wq => ∃ k : Nat, k ≤ md ∧ v10 = .int .i64 (k : Int) ∧ v9 = .int .u8 ((x / 2 ^ k : Nat) : Int) ∧ wq = wr) (fun _ v _ => md - (intOf v).toNat)
              case atStart => exact ⟨0, by omega, rfl, by rw [Nat.pow_zero, Nat.div_one], rfl⟩
              case round =>
                obtain ⟨k, hk, rfl, rfl, rfl⟩ := hrel
                have hyl : x / 2 ^ k < 256 := Nat.lt_of_le_of_lt (Nat.div_le_self _ _) hx8
                by_cases hlt2 : k < md
                · have kk2 : (k : Int) < (md : Int) := by omega
                  have HPW : Hid (x / 2 ^ (k + 1) = x / 2 ^ k / 2) := by show _ = _; rw [Nat.pow_succ, Nat.div_div_eq_div_mul]
                  obtain ⟨y, hy⟩ : ∃ y, x / 2 ^ k = y := ⟨_, rfl⟩
                  rw [hy] at HPW hyl ⊢
                  obtain ⟨y2, hy2⟩ : ∃ y2, y / 2 = y2 := ⟨_, rfl⟩
                  have ky : (y : Int) / 2 = (y2 : Int) := by omega
                  rw [hy2] at HPW
                  clear hy
                  go_wp2
                  exact ⟨⟨k + 1, by omega, by go_num, by rw [HPW.out], trivial⟩, by simp [intOf]; omega⟩
                · obtain rfl : k = md := by omega
                  have kk2 : ¬ (k : Int) < (k : Int) := by omega
                  obtain ⟨y, hy⟩ : ∃ y, x / 2 ^ k = y := ⟨_, rfl⟩
                  rw [hy] at hyl ⊢
                  have HUS2 : Hid (usedOf b i = decide (y % 2 = 1)) := by show _ = _; rw [HUS.out, hy]
                  obtain ⟨bb, hbb⟩ : ∃ bb, decide (y % 2 = 1) = bb := ⟨_, rfl⟩
                  have ebb : ((y : Int) % 2 == 1) = bb := by
                    rw [← hbb]
                    by_cases h1 : y % 2 = 1
                    · rw [decide_eq_true h1]; simp; omega
                    · rw [decide_eq_false h1]; simp; omega
                  have edd : decide ((y : Int) % 2 = 1) = bb := by rw [← ebb]; rfl
                  have HUN : Hid (usB b (i + 1) = usB b i ++ [bb]) := by show _ = _; rw [usB_succ, HUS2.out, hbb]
                  clear hy hbb HUS HUS2
                  obtain ⟨hc, ho, hbw⟩ := HK.out
                  have hBs : C < wr.heap.size := lt_of_some hc
                  have c0 : wr.cell? ⟨C, 0, none⟩ = some (.slice ua i uc) := by rw [cell_of_row wr C _ _ _ _ hc]; rfl
                  obtain ⟨V3, hV3⟩ : ∃ V3, wr.alloc (.cells #[.bool bb] 4) = V3 := ⟨_, rfl⟩
                  have hs3 : V3.heap.size = wr.heap.size + 1 := by rw [← hV3]; simp
                  have ho3 : V3.ownsRow (C + 1) 4 1 (.slice ua i uc) i (boolsV (usB b i)) := by rw [← hV3]; exact ho.alloc _
                  have hc3 : V3.heap[C]? = some (.cells (rsA (.slice ua i uc) (.slice none 0 0) (rtB b 4) (serOf b)) 42 (0, 0)) := by rw [← hV3, Below.heap_alloc _ _ _ hBs]; exact hc
                  have hb3 : Below B w V3 := by rw [← hV3]; exact hbw.alloc (by omega) _
                  obtain ⟨a1, c1, V4, k1, k2, k3, k4⟩ := addB_own V3 (x := bb) (b := wr.heap.size) ho3 (by rw [← hV3]; exact heap_alloc_new wr _) (by omega) (by omega)
                  have hu3 : ∀ x, ob ua = some x → C + 1 ≤ x ∧ x < V3.heap.size := fun x hx => ho3.lt x (by rw [ob_slice]; exact hx)
                  have hc4 : V4.heap[C]? = some (.cells (rsA (.slice ua i uc) (.slice none 0 0) (rtB b 4) (serOf b)) 42 (0, 0)) := (k3.block _ (by omega) (fun e => by have := (hu3 _ e.symm).1; omega)).trans hc3
                  have c4 : V4.cell? ⟨C, 0, none⟩ = some (.slice ua i uc) := by rw [cell_of_row V4 C _ _ _ _ hc4]; rfl
                  have f4 := frozen_of_row V4 C 0 _ _ hc4
                  have HNX : Hid ((V4.setCell ⟨C, 0, none⟩ (.slice a1 (i + 1) c1)).heap[C]? = some (.cells (rsA (.slice a1 (i + 1) c1) (.slice none 0 0) (rtB b 4) (serOf b)) 42 (0, 0)) ∧ (V4.setCell ⟨C, 0, none⟩ (.slice a1 (i + 1) c1)).ownsRow (C + 1) 4 1 (.slice a1 (i + 1) c1) (i + 1) (boolsV (usB b (i + 1))) ∧ Below B w (V4.setCell ⟨C, 0, none⟩ (.slice a1 (i + 1) c1))) := by
                    refine ⟨?_, ?_, Below.setCell (hb3.grown k3 (by omega) (fun k hk => by have := (hu3 k hk).1; omega)) hBC _⟩
                    · rw [heap_setCell_same V4 C 0 _ _ _ hc4]; rfl
                    · rw [HUN.out]
                      exact own_keep k2 (fun k hk => heap_setCell_other _ _ _ _ (by have := (k2.lt k hk).1; show k ≠ C; omega))
                  clear hc ho hbw HK ho3 hc3 hb3 k2 k3 k4 hu3 hc4
                  go_wp2_with ((at_builtin; refine wpList_app V3 rfl _ _ _ _ rfl rfl rfl (k1 _) ?_))
                  exact ⟨⟨i + 1, a1, c1, by omega, by go_num, HNX.out⟩, by simp [intOf]; omega⟩
            · obtain rfl : i = n := by omega
              have kk : ¬ (i : Int) < (i : Int) := by omega
              obtain ⟨ub, hub, rfl⟩ : ∃ ub, C + 1 ≤ ub ∧ ua = some ⟨ub, 0, none⟩ := by
                rcases ho.2 with ⟨h1, h2⟩ | ⟨g', cap', cur, e1, hb0, _⟩
                · omega
                · cases e1
                  exact ⟨g', hb0, rfl⟩
              have hcap : i ≤ uc ∧ uc ≤ 9223372036854775807 := by
                rcases ho.2 with ⟨h1, h2⟩ | ⟨g', cap', cur, e1, hb0, hr, h3, h4, _⟩
                · omega
                · cases e1
                  unfold maxLen at h4
                  omega
              have hus : (hdN i b).u = usB b i := rfl
              have hhas : ∀ j, j < i → wr.cell? ⟨ub, j, none⟩ = some (.bool ((hdN i b).has j)) := fun j hj => by
                refine own_at ho ?_
                rw [boolsV_at, ← hus, List.getElem?_eq_getElem (by rw [hdN_len]; exact hj)]
                unfold Hd.has
                rw [List.getD_eq_getElem?_getD, List.getElem?_eq_getElem (by rw [hdN_len]; exact hj)]
                rfl
              have c6 : wr.cell? ⟨C, 6, none⟩ = some (.int .u64 ((serOf b : Nat) : Int)) := by rw [cell_of_row wr C _ _ _ _ hc]; rfl
              have c0 : wr.cell? ⟨C, 0, none⟩ = some (.slice (some ⟨ub, 0, none⟩) i uc) := by rw [cell_of_row wr C _ _ _ _ hc]; rfl
              have u0 := hhas 0 (by omega)
              rw [rsA_rtB4 _ _ b i] at hc
              have hlr := load_rs wr C _ _ _ hc
              have HBY := rbytes_any (hdN i b) i ub uc (C + 1) (.slice none 0 0) wr (hdN_len i b) (by omega) hn (fun k hk => by rw [hdN_root i b k hk]; exact rootOf_lt2 b k) (serOf_lt2 b) ho
              have hrsz : (rsH (.slice (some ⟨ub, 0, none⟩) i uc) (.slice none 0 0) (hdN i b)).size = 7 := rfl
              have HRR : Hid (∀ k, k < 4 → (rsH (.slice (some ⟨ub, 0, none⟩) i uc) (.slice none 0 0) (hdN i b))[2 + k]? = some (.int .i64 ((rootOf b k : Nat) : Int))) := fun k hk => by rw [rsH_root _ _ _ k hk, hdN_root i b k hk]
              have HR0 : Hid ((rsH (.slice (some ⟨ub, 0, none⟩) i uc) (.slice none 0 0) (hdN i b))[0]? = some (.slice (some ⟨ub, 0, none⟩) i uc)) := rfl
              obtain ⟨rs, hrs⟩ : ∃ rs, rsH (.slice (some ⟨ub, 0, none⟩) i uc) (.slice none 0 0) (hdN i b) = rs := ⟨_, rfl⟩
              rw [hrs] at hc hlr HBY hrsz HRR HR0
              have HW : Hid (wr.heap[C]? = some (.cells rs 42 (0, 0)) ∧ wr.ownsRow (C + 1) 4 1 (.slice (some ⟨ub, 0, none⟩) i uc) i (boolsV (usB b i)) ∧ Below B w wr ∧ ∀ j, j < i → wr.cell? ⟨ub, j, none⟩ = some (.bool ((hdN i b).has j))) := ⟨hc, ho, hbw, hhas⟩
              clear hc ho hbw hhas hus hrs
              obtain ⟨sr, hsr⟩ : ∃ sr, serOf b = sr := ⟨_, rfl⟩
              rw [hsr] at c6
              have hsl : sr < 18446744073709551616 := by rw [← hsr]; exact serOf_lt2 b
              have HFALSE : Hid (¬ DocR i b → ans = false) := fun h => by
                cases ans with
                | false => rfl
                | true => exact absurd (HDOC.out.1 rfl) h
              by_cases hs1 : 9223372036854775807 < sr
              · have ks1 : (9223372036854775807 : Int) < (sr : Int) := by omega
                have HA : Hid (ans = false) := HFALSE.out (fun h => by have := h.1; omega)
                clear HBY
                go_wp2
                go_ret
                exact ⟨by rw [HA.out]; rfl, HW.out.2.2.1⟩
              have ks1 : ¬ (9223372036854775807 : Int) < (sr : Int) := by omega
              obtain ⟨b0, hb0⟩ : ∃ b0, (hdN i b).has 0 = b0 := ⟨_, rfl⟩
              rw [hb0] at u0
              cases b0 with
              | false =>
                have HA : Hid (ans = false) := HFALSE.out (fun h => by have := h.2.1; rw [hb0] at this; cases this)
                clear HBY
                go_wp2
                go_ret
                exact ⟨by rw [HA.out]; rfl, HW.out.2.2.1⟩
              | true =>
                by_cases hte : (hdN i b).text = b
                · have HBY2 : Calls Tryz.prog 14 #[.agg rs] wr fun e w' => e = .returned (.string s) ∧ Below wr.heap.size wr w' := by rw [hte, HTE.out] at HBY; exact HBY
                  clear HBY
                  have HPRE : Hid ((∀ k, k < 4 → rootOf b k = 0 ∨ (rootOf b k < i ∧ (hdN i b).has (rootOf b k) = true)) → ans = true) := fun h => HDOC.out.2 ⟨by omega, hb0, hte, h⟩
                  have HF2 : Hid (∀ k, k < 4 → ¬ (rootOf b k = 0 ∨ (rootOf b k < i ∧ (hdN i b).has (rootOf b k) = true)) → ans = false) := fun k hk h => HFALSE.out (fun hd => h (hd.2.2.2 k hk))
                  clear hte HFALSE
                  go_wp2_with (refine wpList_load_w (by kernel_rfl) _ _ rfl rfl hlr ?_)
                  refine HBY2.mono ?_
                  rintro e V2 ⟨rfl, hV2⟩
                  have H2 : Hid (V2.heap[C]? = some (.cells rs 42 (0, 0)) ∧ Below B w V2 ∧ ∀ j, j < i → V2.cell? ⟨ub, j, none⟩ = some (.bool ((hdN i b).has j))) := by
                    obtain ⟨q1, q2, q3, q4⟩ := HW.out
                    have hsz : B ≤ wr.heap.size := by rw [← hB]; exact q3.size
                    refine ⟨(hV2.block C (lt_of_some q1)).trans q1, q3.trans (hV2.mono hsz), fun j hj => ?_⟩
                    rw [hV2.cell (q2.lt ub rfl).2]
                    exact q4 j hj
                  clear HBY2 hV2 HW c0 c6 u0 hlr
                  go_wp2
                  go_loopw [11] (fun v wq => ∃ k : Nat, k ≤ 4 ∧ v = .int .i64 (k : Int) ∧ (∀ j, j < k → rootOf b j = 0 ∨ (rootOf b j < i ∧ (hdN i b).has (rootOf b j) = true)) ∧ wq.heap[C]? = some (.cells rs 42 (0, 0)) ∧ Below B w wq ∧ ∀ j, j < i → wq.cell? ⟨ub, j, none⟩ = some (.bool ((hdN i b).has j))) (fun v _ => 4 - (intOf v).toNat)
                  case atStart => exact ⟨0, by omega, rfl, fun j hj => (by omega), H2.out⟩
                  case round =>
                    clear H2
                    obtain ⟨k, hk, rfl, hall, hc, hbw, hcu⟩ := hrel
                    by_cases hlt : k < 4
                    · have kk2 : (k : Int) < 4 := by omega
                      have c0 : wr.cell? ⟨C, 0, none⟩ = some (.slice (some ⟨ub, 0, none⟩) i uc) := by rw [cell_of_row _ C _ _ _ _ hc]; exact HR0.out
                      have ck : wr.cell? ⟨C, 2 + k, none⟩ = some (.int .i64 ((rootOf b k : Nat) : Int)) := by rw [cell_of_row _ C _ _ _ _ hc]; exact HRR.out k hlt
                      have hf2 := HF2.out k hlt
                      obtain ⟨rk, hrk⟩ : ∃ rk, rootOf b k = rk := ⟨_, rfl⟩
                      have hrl : rk < 65536 := by rw [← hrk]; exact rootOf_lt2 b k
                      rw [hrk] at ck hf2
                      have HNX : Hid ((rk = 0 ∨ (rk < i ∧ (hdN i b).has rk = true)) → (∀ j, j < k + 1 → rootOf b j = 0 ∨ (rootOf b j < i ∧ (hdN i b).has (rootOf b j) = true)) ∧ wr.heap[C]? = some (.cells rs 42 (0, 0)) ∧ Below B w wr ∧ ∀ j, j < i → wr.cell? ⟨ub, j, none⟩ = some (.bool ((hdN i b).has j))) := fun h => ⟨fun j hj => by
                        rcases Nat.lt_or_ge j k with h1 | h1
                        · exact hall j h1
                        · obtain rfl : j = k := by omega
                          rw [hrk]; exact h, hc, hbw, hcu⟩
                      have HCU : Hid (∀ j, j < i → wr.cell? ⟨ub, j, none⟩ = some (.bool ((hdN i b).has j))) := hcu
                      have HBW : Hid (Below B w wr) := hbw
                      have HF3 : Hid (¬ (rk = 0 ∨ (rk < i ∧ (hdN i b).has rk = true)) → ans = false) := hf2
                      clear hall hc hbw hcu hf2 hrk
                      by_cases h0 : rk = 0
                      · subst h0
                        have HN := HNX.out (.inl rfl)
                        have HN : Hid ((∀ j, j < k + 1 → rootOf b j = 0 ∨ (rootOf b j < i ∧ (hdN i b).has (rootOf b j) = true)) ∧ wr.heap[C]? = some (.cells rs 42 (0, 0)) ∧ Below B w wr ∧ ∀ j, j < i → wr.cell? ⟨ub, j, none⟩ = some (.bool ((hdN i b).has j))) := HN
                        clear HNX
                        go_wp2
                        refine wp_region_held_drew (S := fun W => W.cell? ⟨C, 2 + k, none⟩ = some (.int .i64 (0)) ∧ W.cell? ⟨C, 0, none⟩ = some (.slice (some ⟨ub, 0, none⟩) i uc)) (by kernel_rfl) (⟨ck, c0⟩) (fun hHeld => ?_)
                        refine wpAnyH_take (i := 0) (v := ?vZ0) rfl (by kernel_rfl) (by kernel_rfl) (by kernel_rfl) (fun _ _ _ h => h) (Or.inl ⟨by first | kernel_rfl | rfl, ?yZ0⟩) hHeld ?rZ0
                        case yZ0 => (intro W hSW; (try dsimp only at hSW); go_simp; (try with_reducible rfl))
                        change wpAnyH _ _ _ _ _ _ _ (Act.put _ (some 97) _) _
                        simp only [Act.put, List.setIfInBounds_toArray, List.set_cons_zero, List.set_cons_succ]
                        refine wpAnyH_take (i := 1) (v := ?vZ1) rfl (by kernel_rfl) (by kernel_rfl) (by kernel_rfl) (fun _ _ _ h => h) (Or.inl ⟨by first | kernel_rfl | rfl, ?yZ1⟩) hHeld ?rZ1
                        case yZ1 => (intro W hSW; (try dsimp only at hSW); go_simp; (try with_reducible rfl))
                        change wpAnyH _ _ _ _ _ _ _ (Act.put _ (some 98) _) _
                        simp only [Act.put, List.setIfInBounds_toArray, List.set_cons_zero, List.set_cons_succ]
                        refine wpAnyH_take (i := 2) (v := ?vZ2) rfl (by kernel_rfl) (by kernel_rfl) (by kernel_rfl) (fun _ _ _ h => h) (Or.inl ⟨by first | kernel_rfl | rfl, ?yZ2⟩) hHeld ?rZ2
                        case yZ2 => (intro W hSW; (try dsimp only at hSW); go_simp; (try with_reducible rfl))
                        change wpAnyH _ _ _ _ _ _ _ (Act.put _ (some 99) _) _
                        simp only [Act.put, List.setIfInBounds_toArray, List.set_cons_zero, List.set_cons_succ]
                        refine wpAnyH_take (i := 3) (v := ?vZ3) rfl (by kernel_rfl) (by kernel_rfl) (by kernel_rfl) (fun _ _ _ h => h) (Or.inl ⟨by first | kernel_rfl | rfl, ?yZ3⟩) hHeld ?rZ3
                        case yZ3 => (intro W hSW; (try dsimp only at hSW); go_simp; (try with_reducible rfl))
                        change wpAnyH _ _ _ _ _ _ _ (Act.put _ (some 100) _) _
                        simp only [Act.put, List.setIfInBounds_toArray, List.set_cons_zero, List.set_cons_succ]
                        refine wpAnyH_take (i := 4) (v := ?vZ4) rfl (by kernel_rfl) (by kernel_rfl) (by kernel_rfl) (fun _ _ _ h => h) (Or.inl ⟨by first | kernel_rfl | rfl, ?yZ4⟩) hHeld ?rZ4
                        case yZ4 => (intro W hSW; (try dsimp only at hSW); go_simp; (try with_reducible rfl))
                        change wpAnyH _ _ _ _ _ _ _ (Act.put _ (some 101) _) _
                        simp only [Act.put, List.setIfInBounds_toArray, List.set_cons_zero, List.set_cons_succ]
                        refine wpAnyH_take (i := 5) (v := ?vZ5) rfl (by kernel_rfl) (by kernel_rfl) (by kernel_rfl) (fun _ _ _ h => h) (Or.inl ⟨by first | kernel_rfl | rfl, ?yZ5⟩) hHeld ?rZ5
                        case yZ5 => (intro W hSW; (try dsimp only at hSW); go_simp; (try with_reducible rfl))
                        change wpAnyH _ _ _ _ _ _ _ (Act.put _ (some 102) _) _
                        simp only [Act.put, List.setIfInBounds_toArray, List.set_cons_zero, List.set_cons_succ]
                        refine wpAnyH_take (i := 6) (v := undef) rfl (by kernel_rfl) (by kernel_rfl) (by kernel_rfl) (fun _ _ _ h => h) (Or.inr ⟨by first | kernel_rfl | rfl, rfl⟩) hHeld ?_
                        change wpAnyH _ _ _ _ _ _ _ (Act.put _ (some 103) _) _
                        simp only [Act.put, List.setIfInBounds_toArray, List.set_cons_zero, List.set_cons_succ]
                        refine wpAnyH_take (i := 7) (v := undef) rfl (by kernel_rfl) (by kernel_rfl) (by kernel_rfl) (fun _ _ _ h => h) (Or.inr ⟨by first | kernel_rfl | rfl, rfl⟩) hHeld ?_
                        change wpAnyH _ _ _ _ _ _ _ (Act.put _ (some 104) _) _
                        simp only [Act.put, List.setIfInBounds_toArray, List.set_cons_zero, List.set_cons_succ]
                        refine wpAnyH_take (i := 8) (v := undef) rfl (by kernel_rfl) (by kernel_rfl) (by kernel_rfl) (fun _ _ _ h => h) (Or.inr ⟨by first | kernel_rfl | rfl, rfl⟩) hHeld ?_
                        change wpAnyH _ _ _ _ _ _ _ (Act.put _ (some 105) _) _
                        simp only [Act.put, List.setIfInBounds_toArray, List.set_cons_zero, List.set_cons_succ]
                        refine wpAnyH_take (i := 9) (v := undef) rfl (by kernel_rfl) (by kernel_rfl) (by kernel_rfl) (fun _ _ _ h => h) (Or.inr ⟨by first | kernel_rfl | rfl, rfl⟩) hHeld ?_
                        change wpAnyH _ _ _ _ _ _ _ (Act.put _ (some 106) _) _
                        simp only [Act.put, List.setIfInBounds_toArray, List.set_cons_zero, List.set_cons_succ]
                        refine wpAnyH_take (i := 10) (v := undef) rfl (by kernel_rfl) (by kernel_rfl) (by kernel_rfl) (fun _ _ _ h => h) (Or.inr ⟨by first | kernel_rfl | rfl, rfl⟩) hHeld ?_
                        change wpAnyH _ _ _ _ _ _ _ (Act.put _ (some 107) _) _
                        simp only [Act.put, List.setIfInBounds_toArray, List.set_cons_zero, List.set_cons_succ]
                        refine wpAnyH_take (i := 11) (v := undef) rfl (by kernel_rfl) (by kernel_rfl) (by kernel_rfl) (fun _ _ _ h => h) (Or.inr ⟨by first | kernel_rfl | rfl, rfl⟩) hHeld ?_
                        change wpAnyH _ _ _ _ _ _ _ (Act.put _ (some 108) _) _
                        simp only [Act.put, List.setIfInBounds_toArray, List.set_cons_zero, List.set_cons_succ]
                        refine wpAnyH_take (i := 12) (v := undef) rfl (by kernel_rfl) (by kernel_rfl) (by kernel_rfl) (fun _ _ _ h => h) (Or.inr ⟨by first | kernel_rfl | rfl, rfl⟩) hHeld ?_
                        change wpAnyH _ _ _ _ _ _ _ (Act.put _ (some 109) _) _
                        simp only [Act.put, List.setIfInBounds_toArray, List.set_cons_zero, List.set_cons_succ]
                        refine wpAnyH_take (i := 13) (v := undef) rfl (by kernel_rfl) (by kernel_rfl) (by kernel_rfl) (fun _ _ _ h => h) (Or.inr ⟨by first | kernel_rfl | rfl, rfl⟩) hHeld ?_
                        change wpAnyH _ _ _ _ _ _ _ (Act.put _ (some 110) _) _
                        simp only [Act.put, List.setIfInBounds_toArray, List.set_cons_zero, List.set_cons_succ]
                        refine wpAnyH_take (i := 14) (v := undef) rfl (by kernel_rfl) (by kernel_rfl) (by kernel_rfl) (fun _ _ _ h => h) (Or.inr ⟨by first | kernel_rfl | rfl, rfl⟩) hHeld ?_
                        change wpAnyH _ _ _ _ _ _ _ (Act.put _ (some 111) _) _
                        simp only [Act.put, List.setIfInBounds_toArray, List.set_cons_zero, List.set_cons_succ]
                        refine wpAnyH_take (i := 15) (v := undef) rfl (by kernel_rfl) (by kernel_rfl) (by kernel_rfl) (fun _ _ _ h => h) (Or.inr ⟨by first | kernel_rfl | rfl, rfl⟩) hHeld ?_
                        change wpAnyH _ _ _ _ _ _ _ (Act.put _ (some 112) _) _
                        simp only [Act.put, List.setIfInBounds_toArray, List.set_cons_zero, List.set_cons_succ]
                        refine wpAnyH_take (i := 16) (v := undef) rfl (by kernel_rfl) (by kernel_rfl) (by kernel_rfl) (fun _ _ _ h => h) (Or.inr ⟨by first | kernel_rfl | rfl, rfl⟩) hHeld ?_
                        change wpAnyH _ _ _ _ _ _ _ (Act.put _ (some 113) _) _
                        simp only [Act.put, List.setIfInBounds_toArray, List.set_cons_zero, List.set_cons_succ]
                        refine wpAnyH_take (i := 17) (v := undef) rfl (by kernel_rfl) (by kernel_rfl) (by kernel_rfl) (fun _ _ _ h => h) (Or.inr ⟨by first | kernel_rfl | rfl, rfl⟩) hHeld ?_
                        change wpAnyH _ _ _ _ _ _ _ (Act.put _ (some 114) _) _
                        simp only [Act.put, List.setIfInBounds_toArray, List.set_cons_zero, List.set_cons_succ]
                        refine wpAnyH_take (i := 18) (v := undef) rfl (by kernel_rfl) (by kernel_rfl) (by kernel_rfl) (fun _ _ _ h => h) (Or.inr ⟨by first | kernel_rfl | rfl, rfl⟩) hHeld ?_
                        change wpAnyH _ _ _ _ _ _ _ (Act.put _ (some 115) _) _
                        simp only [Act.put, List.setIfInBounds_toArray, List.set_cons_zero, List.set_cons_succ]
                        refine wpAnyH_take (i := 19) (v := undef) rfl (by kernel_rfl) (by kernel_rfl) (by kernel_rfl) (fun _ _ _ h => h) (Or.inr ⟨by first | kernel_rfl | rfl, rfl⟩) hHeld ?_
                        change wpAnyH _ _ _ _ _ _ _ (Act.put _ (some 116) _) _
                        simp only [Act.put, List.setIfInBounds_toArray, List.set_cons_zero, List.set_cons_succ]
                        refine wpAnyH_take (i := 20) (v := undef) rfl (by kernel_rfl) (by kernel_rfl) (by kernel_rfl) (fun _ _ _ h => h) (Or.inr ⟨by first | kernel_rfl | rfl, rfl⟩) hHeld ?_
                        change wpAnyH _ _ _ _ _ _ _ (Act.put _ (some 117) _) _
                        simp only [Act.put, List.setIfInBounds_toArray, List.set_cons_zero, List.set_cons_succ]
                        refine wpAnyH_take (i := 21) (v := undef) rfl (by kernel_rfl) (by kernel_rfl) (by kernel_rfl) (fun _ _ _ h => h) (Or.inr ⟨by first | kernel_rfl | rfl, rfl⟩) hHeld ?_
                        change wpAnyH _ _ _ _ _ _ _ (Act.put _ (some 118) _) _
                        simp only [Act.put, List.setIfInBounds_toArray, List.set_cons_zero, List.set_cons_succ]
                        refine wpAnyH_take (i := 22) (v := undef) rfl (by kernel_rfl) (by kernel_rfl) (by kernel_rfl) (fun _ _ _ h => h) (Or.inr ⟨by first | kernel_rfl | rfl, rfl⟩) hHeld ?_
                        change wpAnyH _ _ _ _ _ _ _ (Act.put _ (some 119) _) _
                        simp only [Act.put, List.setIfInBounds_toArray, List.set_cons_zero, List.set_cons_succ]
                        refine wpAnyH_take (i := 23) (v := ?vZ23) rfl (by kernel_rfl) (by kernel_rfl) (by kernel_rfl) (fun _ _ _ h => h) (Or.inl ⟨by first | kernel_rfl | rfl, ?yZ23⟩) hHeld ?rZ23
                        case yZ23 => (intro W hSW; (try dsimp only at hSW); go_simp; (try with_reducible rfl))
                        change wpAnyH _ _ _ _ _ _ _ (Act.put _ (some 120) _) _
                        simp only [Act.put, List.setIfInBounds_toArray, List.set_cons_zero, List.set_cons_succ]
                        refine wpAnyH_done (by kernel_rfl) ?_ _
                        go_wp2
                        exact ⟨⟨k + 1, by omega, by go_num, HN.out.1, HN.out.2.1, below_drew HN.out.2.2.1, HN.out.2.2.2⟩, by simp [intOf]; omega⟩
                      · have k0 : ¬ (rk : Int) = 0 := by omega
                        have k0b : ((rk : Int) == 0) = false := by simpa using h0
                        by_cases hge : i ≤ rk
                        · have kge : (i : Int) ≤ (rk : Int) := by omega
                          have HA : Hid (ans = false) := HF3.out (fun h => by rcases h with h | h <;> omega)
                          clear HNX HF3
                          go_wp2
                          refine wp_region_held_drew (S := fun W => W.cell? ⟨C, 2 + k, none⟩ = some (.int .i64 ((rk : Int))) ∧ W.cell? ⟨C, 0, none⟩ = some (.slice (some ⟨ub, 0, none⟩) i uc)) (by kernel_rfl) (⟨ck, c0⟩) (fun hHeld => ?_)
                          refine wpAnyH_take (i := 0) (v := ?vG0) rfl (by kernel_rfl) (by kernel_rfl) (by kernel_rfl) (fun _ _ _ h => h) (Or.inl ⟨by first | kernel_rfl | rfl, ?yG0⟩) hHeld ?rG0
                          case yG0 => (intro W hSW; (try dsimp only at hSW); go_simp; (try with_reducible rfl))
                          change wpAnyH _ _ _ _ _ _ _ (Act.put _ (some 97) _) _
                          simp only [Act.put, List.setIfInBounds_toArray, List.set_cons_zero, List.set_cons_succ]
                          refine wpAnyH_take (i := 1) (v := ?vG1) rfl (by kernel_rfl) (by kernel_rfl) (by kernel_rfl) (fun _ _ _ h => h) (Or.inl ⟨by first | kernel_rfl | rfl, ?yG1⟩) hHeld ?rG1
                          case yG1 => (intro W hSW; (try dsimp only at hSW); go_simp; (try with_reducible rfl))
                          change wpAnyH _ _ _ _ _ _ _ (Act.put _ (some 98) _) _
                          simp only [Act.put, List.setIfInBounds_toArray, List.set_cons_zero, List.set_cons_succ]
                          refine wpAnyH_take (i := 2) (v := ?vG2) rfl (by kernel_rfl) (by kernel_rfl) (by kernel_rfl) (fun _ _ _ h => h) (Or.inl ⟨by first | kernel_rfl | rfl, ?yG2⟩) hHeld ?rG2
                          case yG2 => (intro W hSW; (try dsimp only at hSW); go_simp; (try with_reducible rfl))
                          change wpAnyH _ _ _ _ _ _ _ (Act.put _ (some 99) _) _
                          simp only [Act.put, List.setIfInBounds_toArray, List.set_cons_zero, List.set_cons_succ]
                          refine wpAnyH_take (i := 3) (v := ?vG3) rfl (by kernel_rfl) (by kernel_rfl) (by kernel_rfl) (fun _ _ _ h => h) (Or.inl ⟨by first | kernel_rfl | rfl, ?yG3⟩) hHeld ?rG3
                          case yG3 => (intro W hSW; (try dsimp only at hSW); go_simp; (try with_reducible rfl))
                          change wpAnyH _ _ _ _ _ _ _ (Act.put _ (some 100) _) _
                          simp only [Act.put, List.setIfInBounds_toArray, List.set_cons_zero, List.set_cons_succ]
                          refine wpAnyH_take (i := 4) (v := .bool true) rfl (by kernel_rfl) (by kernel_rfl) (by kernel_rfl) (fun _ _ _ h => h) (Or.inl ⟨by first | kernel_rfl | rfl, ?yG4⟩) hHeld ?rG4
                          case yG4 => (intro W hSW; (try dsimp only at hSW); go_simp; (try with_reducible rfl))
                          change wpAnyH _ _ _ _ _ _ _ (Act.put _ (some 101) _) _
                          simp only [Act.put, List.setIfInBounds_toArray, List.set_cons_zero, List.set_cons_succ]
                          refine wpAnyH_take (i := 5) (v := .bool true) rfl (by kernel_rfl) (by kernel_rfl) (by kernel_rfl) (fun _ _ _ h => h) (Or.inl ⟨by first | kernel_rfl | rfl, ?yG5⟩) hHeld ?rG5
                          case yG5 => (intro W hSW; (try dsimp only at hSW); go_simp; (try with_reducible rfl))
                          change wpAnyH _ _ _ _ _ _ _ (Act.put _ (some 102) _) _
                          simp only [Act.put, List.setIfInBounds_toArray, List.set_cons_zero, List.set_cons_succ]
                          refine wpAnyH_take (i := 6) (v := ?vG6) rfl (by kernel_rfl) (by kernel_rfl) (by kernel_rfl) (fun _ _ _ h => h) (Or.inl ⟨by first | kernel_rfl | rfl, ?yG6⟩) hHeld ?rG6
                          case yG6 => (intro W hSW; (try dsimp only at hSW); go_simp; (try with_reducible rfl))
                          change wpAnyH _ _ _ _ _ _ _ (Act.put _ (some 103) _) _
                          simp only [Act.put, List.setIfInBounds_toArray, List.set_cons_zero, List.set_cons_succ]
                          refine wpAnyH_take (i := 7) (v := ?vG7) rfl (by kernel_rfl) (by kernel_rfl) (by kernel_rfl) (fun _ _ _ h => h) (Or.inl ⟨by first | kernel_rfl | rfl, ?yG7⟩) hHeld ?rG7
                          case yG7 => (intro W hSW; (try dsimp only at hSW); go_simp; (try with_reducible rfl))
                          change wpAnyH _ _ _ _ _ _ _ (Act.put _ (some 104) _) _
                          simp only [Act.put, List.setIfInBounds_toArray, List.set_cons_zero, List.set_cons_succ]
                          refine wpAnyH_take (i := 8) (v := ?vG8) rfl (by kernel_rfl) (by kernel_rfl) (by kernel_rfl) (fun _ _ _ h => h) (Or.inl ⟨by first | kernel_rfl | rfl, ?yG8⟩) hHeld ?rG8
                          case yG8 => (intro W hSW; (try dsimp only at hSW); go_simp; (try with_reducible rfl))
                          change wpAnyH _ _ _ _ _ _ _ (Act.put _ (some 105) _) _
                          simp only [Act.put, List.setIfInBounds_toArray, List.set_cons_zero, List.set_cons_succ]
                          refine wpAnyH_take (i := 9) (v := ?vG9) rfl (by kernel_rfl) (by kernel_rfl) (by kernel_rfl) (fun _ _ _ h => h) (Or.inl ⟨by first | kernel_rfl | rfl, ?yG9⟩) hHeld ?rG9
                          case yG9 => (intro W hSW; (try dsimp only at hSW); go_simp; (try with_reducible rfl))
                          change wpAnyH _ _ _ _ _ _ _ (Act.put _ (some 106) _) _
                          simp only [Act.put, List.setIfInBounds_toArray, List.set_cons_zero, List.set_cons_succ]
                          refine wpAnyH_take (i := 10) (v := ?vG10) rfl (by kernel_rfl) (by kernel_rfl) (by kernel_rfl) (fun _ _ _ h => h) (Or.inl ⟨by first | kernel_rfl | rfl, ?yG10⟩) hHeld ?rG10
                          case yG10 => (intro W hSW; (try dsimp only at hSW); go_simp; (try with_reducible rfl))
                          change wpAnyH _ _ _ _ _ _ _ (Act.put _ (some 107) _) _
                          simp only [Act.put, List.setIfInBounds_toArray, List.set_cons_zero, List.set_cons_succ]
                          refine wpAnyH_take (i := 11) (v := .bool true) rfl (by kernel_rfl) (by kernel_rfl) (by kernel_rfl) (fun _ _ _ h => h) (Or.inl ⟨by first | kernel_rfl | rfl, ?yG11⟩) hHeld ?rG11
                          case yG11 => (intro W hSW; (try dsimp only at hSW); go_simp; (try with_reducible rfl))
                          change wpAnyH _ _ _ _ _ _ _ (Act.put _ (some 108) _) _
                          simp only [Act.put, List.setIfInBounds_toArray, List.set_cons_zero, List.set_cons_succ]
                          refine wpAnyH_take (i := 12) (v := .bool true) rfl (by kernel_rfl) (by kernel_rfl) (by kernel_rfl) (fun _ _ _ h => h) (Or.inl ⟨by first | kernel_rfl | rfl, ?yG12⟩) hHeld ?rG12
                          case yG12 => (intro W hSW; (try dsimp only at hSW); go_simp; (try with_reducible rfl))
                          change wpAnyH _ _ _ _ _ _ _ (Act.put _ (some 109) _) _
                          simp only [Act.put, List.setIfInBounds_toArray, List.set_cons_zero, List.set_cons_succ]
                          refine wpAnyH_take (i := 13) (v := undef) rfl (by kernel_rfl) (by kernel_rfl) (by kernel_rfl) (fun _ _ _ h => h) (Or.inr ⟨by first | kernel_rfl | rfl, rfl⟩) hHeld ?_
                          change wpAnyH _ _ _ _ _ _ _ (Act.put _ (some 110) _) _
                          simp only [Act.put, List.setIfInBounds_toArray, List.set_cons_zero, List.set_cons_succ]
                          refine wpAnyH_take (i := 14) (v := undef) rfl (by kernel_rfl) (by kernel_rfl) (by kernel_rfl) (fun _ _ _ h => h) (Or.inr ⟨by first | kernel_rfl | rfl, rfl⟩) hHeld ?_
                          change wpAnyH _ _ _ _ _ _ _ (Act.put _ (some 111) _) _
                          simp only [Act.put, List.setIfInBounds_toArray, List.set_cons_zero, List.set_cons_succ]
                          refine wpAnyH_take (i := 15) (v := undef) rfl (by kernel_rfl) (by kernel_rfl) (by kernel_rfl) (fun _ _ _ h => h) (Or.inr ⟨by first | kernel_rfl | rfl, rfl⟩) hHeld ?_
                          change wpAnyH _ _ _ _ _ _ _ (Act.put _ (some 112) _) _
                          simp only [Act.put, List.setIfInBounds_toArray, List.set_cons_zero, List.set_cons_succ]
                          refine wpAnyH_take (i := 16) (v := undef) rfl (by kernel_rfl) (by kernel_rfl) (by kernel_rfl) (fun _ _ _ h => h) (Or.inr ⟨by first | kernel_rfl | rfl, rfl⟩) hHeld ?_
                          change wpAnyH _ _ _ _ _ _ _ (Act.put _ (some 113) _) _
                          simp only [Act.put, List.setIfInBounds_toArray, List.set_cons_zero, List.set_cons_succ]
                          refine wpAnyH_take (i := 17) (v := undef) rfl (by kernel_rfl) (by kernel_rfl) (by kernel_rfl) (fun _ _ _ h => h) (Or.inr ⟨by first | kernel_rfl | rfl, rfl⟩) hHeld ?_
                          change wpAnyH _ _ _ _ _ _ _ (Act.put _ (some 114) _) _
                          simp only [Act.put, List.setIfInBounds_toArray, List.set_cons_zero, List.set_cons_succ]
                          refine wpAnyH_take (i := 18) (v := undef) rfl (by kernel_rfl) (by kernel_rfl) (by kernel_rfl) (fun _ _ _ h => h) (Or.inr ⟨by first | kernel_rfl | rfl, rfl⟩) hHeld ?_
                          change wpAnyH _ _ _ _ _ _ _ (Act.put _ (some 115) _) _
                          simp only [Act.put, List.setIfInBounds_toArray, List.set_cons_zero, List.set_cons_succ]
                          refine wpAnyH_take (i := 19) (v := undef) rfl (by kernel_rfl) (by kernel_rfl) (by kernel_rfl) (fun _ _ _ h => h) (Or.inr ⟨by first | kernel_rfl | rfl, rfl⟩) hHeld ?_
                          change wpAnyH _ _ _ _ _ _ _ (Act.put _ (some 116) _) _
                          simp only [Act.put, List.setIfInBounds_toArray, List.set_cons_zero, List.set_cons_succ]
                          refine wpAnyH_take (i := 20) (v := undef) rfl (by kernel_rfl) (by kernel_rfl) (by kernel_rfl) (fun _ _ _ h => h) (Or.inr ⟨by first | kernel_rfl | rfl, rfl⟩) hHeld ?_
                          change wpAnyH _ _ _ _ _ _ _ (Act.put _ (some 117) _) _
                          simp only [Act.put, List.setIfInBounds_toArray, List.set_cons_zero, List.set_cons_succ]
                          refine wpAnyH_take (i := 21) (v := undef) rfl (by kernel_rfl) (by kernel_rfl) (by kernel_rfl) (fun _ _ _ h => h) (Or.inr ⟨by first | kernel_rfl | rfl, rfl⟩) hHeld ?_
                          change wpAnyH _ _ _ _ _ _ _ (Act.put _ (some 118) _) _
                          simp only [Act.put, List.setIfInBounds_toArray, List.set_cons_zero, List.set_cons_succ]
                          refine wpAnyH_take (i := 22) (v := ?vG22) rfl (by kernel_rfl) (by kernel_rfl) (by kernel_rfl) (fun _ _ _ h => h) (Or.inl ⟨by first | kernel_rfl | rfl, ?yG22⟩) hHeld ?rG22
                          case yG22 => (intro W hSW; (try dsimp only at hSW); go_simp; (try with_reducible rfl))
                          change wpAnyH _ _ _ _ _ _ _ (Act.put _ (some 119) _) _
                          simp only [Act.put, List.setIfInBounds_toArray, List.set_cons_zero, List.set_cons_succ]
                          refine wpAnyH_take (i := 23) (v := ?vG23) rfl (by kernel_rfl) (by kernel_rfl) (by kernel_rfl) (fun _ _ _ h => h) (Or.inl ⟨by first | kernel_rfl | rfl, ?yG23⟩) hHeld ?rG23
                          case yG23 => (intro W hSW; (try dsimp only at hSW); go_simp; (try with_reducible rfl))
                          change wpAnyH _ _ _ _ _ _ _ (Act.put _ (some 120) _) _
                          simp only [Act.put, List.setIfInBounds_toArray, List.set_cons_zero, List.set_cons_succ]
                          refine wpAnyH_done (by kernel_rfl) ?_ _
                          go_wp2
                          go_ret
                          exact ⟨by rw [HA.out]; rfl, by first | exact below_drew HBW.out | (rw [hB]; exact below_drew HBW.out)⟩
                        · have kge : ¬ (i : Int) ≤ (rk : Int) := by omega
                          have hrki : rk < i := by omega
                          have cu := HCU.out rk hrki
                          obtain ⟨bu, hbu⟩ : ∃ bu, (hdN i b).has rk = bu := ⟨_, rfl⟩
                          rw [hbu] at cu
                          cases bu with
                          | false =>
                            have HA : Hid (ans = false) := HF3.out (fun h => by rcases h with h | h; exact h0 h; rw [hbu] at h; exact absurd h.2 (by decide))
                            clear HNX HF3 hbu
                            go_wp2
                            refine wp_region_held_drew (S := fun W => W.cell? ⟨C, 2 + k, none⟩ = some (.int .i64 ((rk : Int))) ∧ W.cell? ⟨C, 0, none⟩ = some (.slice (some ⟨ub, 0, none⟩) i uc) ∧ W.cell? ⟨ub, rk, none⟩ = some (.bool false)) (by kernel_rfl) (⟨ck, c0, cu⟩) (fun hHeld => ?_)
                            refine wpAnyH_take (i := 0) (v := ?vU0) rfl (by kernel_rfl) (by kernel_rfl) (by kernel_rfl) (fun _ _ _ h => h) (Or.inl ⟨by first | kernel_rfl | rfl, ?yU0⟩) hHeld ?rU0
                            case yU0 => (intro W hSW; (try dsimp only at hSW); go_simp; (try with_reducible rfl))
                            change wpAnyH _ _ _ _ _ _ _ (Act.put _ (some 97) _) _
                            simp only [Act.put, List.setIfInBounds_toArray, List.set_cons_zero, List.set_cons_succ]
                            refine wpAnyH_take (i := 1) (v := ?vU1) rfl (by kernel_rfl) (by kernel_rfl) (by kernel_rfl) (fun _ _ _ h => h) (Or.inl ⟨by first | kernel_rfl | rfl, ?yU1⟩) hHeld ?rU1
                            case yU1 => (intro W hSW; (try dsimp only at hSW); go_simp; (try with_reducible rfl))
                            change wpAnyH _ _ _ _ _ _ _ (Act.put _ (some 98) _) _
                            simp only [Act.put, List.setIfInBounds_toArray, List.set_cons_zero, List.set_cons_succ]
                            refine wpAnyH_take (i := 2) (v := ?vU2) rfl (by kernel_rfl) (by kernel_rfl) (by kernel_rfl) (fun _ _ _ h => h) (Or.inl ⟨by first | kernel_rfl | rfl, ?yU2⟩) hHeld ?rU2
                            case yU2 => (intro W hSW; (try dsimp only at hSW); go_simp; (try with_reducible rfl))
                            change wpAnyH _ _ _ _ _ _ _ (Act.put _ (some 99) _) _
                            simp only [Act.put, List.setIfInBounds_toArray, List.set_cons_zero, List.set_cons_succ]
                            refine wpAnyH_take (i := 3) (v := ?vU3) rfl (by kernel_rfl) (by kernel_rfl) (by kernel_rfl) (fun _ _ _ h => h) (Or.inl ⟨by first | kernel_rfl | rfl, ?yU3⟩) hHeld ?rU3
                            case yU3 => (intro W hSW; (try dsimp only at hSW); go_simp; (try with_reducible rfl))
                            change wpAnyH _ _ _ _ _ _ _ (Act.put _ (some 100) _) _
                            simp only [Act.put, List.setIfInBounds_toArray, List.set_cons_zero, List.set_cons_succ]
                            refine wpAnyH_take (i := 4) (v := .bool true) rfl (by kernel_rfl) (by kernel_rfl) (by kernel_rfl) (fun _ _ _ h => h) (Or.inl ⟨by first | kernel_rfl | rfl, ?yU4⟩) hHeld ?rU4
                            case yU4 => (intro W hSW; (try dsimp only at hSW); go_simp; (try with_reducible rfl))
                            change wpAnyH _ _ _ _ _ _ _ (Act.put _ (some 101) _) _
                            simp only [Act.put, List.setIfInBounds_toArray, List.set_cons_zero, List.set_cons_succ]
                            refine wpAnyH_take (i := 5) (v := .bool true) rfl (by kernel_rfl) (by kernel_rfl) (by kernel_rfl) (fun _ _ _ h => h) (Or.inl ⟨by first | kernel_rfl | rfl, ?yU5⟩) hHeld ?rU5
                            case yU5 => (intro W hSW; (try dsimp only at hSW); go_simp; (try with_reducible rfl))
                            change wpAnyH _ _ _ _ _ _ _ (Act.put _ (some 102) _) _
                            simp only [Act.put, List.setIfInBounds_toArray, List.set_cons_zero, List.set_cons_succ]
                            refine wpAnyH_take (i := 6) (v := ?vU6) rfl (by kernel_rfl) (by kernel_rfl) (by kernel_rfl) (fun _ _ _ h => h) (Or.inl ⟨by first | kernel_rfl | rfl, ?yU6⟩) hHeld ?rU6
                            case yU6 => (intro W hSW; (try dsimp only at hSW); go_simp; (try with_reducible rfl))
                            change wpAnyH _ _ _ _ _ _ _ (Act.put _ (some 103) _) _
                            simp only [Act.put, List.setIfInBounds_toArray, List.set_cons_zero, List.set_cons_succ]
                            refine wpAnyH_take (i := 7) (v := ?vU7) rfl (by kernel_rfl) (by kernel_rfl) (by kernel_rfl) (fun _ _ _ h => h) (Or.inl ⟨by first | kernel_rfl | rfl, ?yU7⟩) hHeld ?rU7
                            case yU7 => (intro W hSW; (try dsimp only at hSW); go_simp; (try with_reducible rfl))
                            change wpAnyH _ _ _ _ _ _ _ (Act.put _ (some 104) _) _
                            simp only [Act.put, List.setIfInBounds_toArray, List.set_cons_zero, List.set_cons_succ]
                            refine wpAnyH_take (i := 8) (v := ?vU8) rfl (by kernel_rfl) (by kernel_rfl) (by kernel_rfl) (fun _ _ _ h => h) (Or.inl ⟨by first | kernel_rfl | rfl, ?yU8⟩) hHeld ?rU8
                            case yU8 => (intro W hSW; (try dsimp only at hSW); go_simp; (try with_reducible rfl))
                            change wpAnyH _ _ _ _ _ _ _ (Act.put _ (some 105) _) _
                            simp only [Act.put, List.setIfInBounds_toArray, List.set_cons_zero, List.set_cons_succ]
                            refine wpAnyH_take (i := 9) (v := ?vU9) rfl (by kernel_rfl) (by kernel_rfl) (by kernel_rfl) (fun _ _ _ h => h) (Or.inl ⟨by first | kernel_rfl | rfl, ?yU9⟩) hHeld ?rU9
                            case yU9 => (intro W hSW; (try dsimp only at hSW); go_simp; (try with_reducible rfl))
                            change wpAnyH _ _ _ _ _ _ _ (Act.put _ (some 106) _) _
                            simp only [Act.put, List.setIfInBounds_toArray, List.set_cons_zero, List.set_cons_succ]
                            refine wpAnyH_take (i := 10) (v := ?vU10) rfl (by kernel_rfl) (by kernel_rfl) (by kernel_rfl) (fun _ _ _ h => h) (Or.inl ⟨by first | kernel_rfl | rfl, ?yU10⟩) hHeld ?rU10
                            case yU10 => (intro W hSW; (try dsimp only at hSW); go_simp; (try with_reducible rfl))
                            change wpAnyH _ _ _ _ _ _ _ (Act.put _ (some 107) _) _
                            simp only [Act.put, List.setIfInBounds_toArray, List.set_cons_zero, List.set_cons_succ]
                            refine wpAnyH_take (i := 11) (v := .bool false) rfl (by kernel_rfl) (by kernel_rfl) (by kernel_rfl) (fun _ _ _ h => h) (Or.inl ⟨by first | kernel_rfl | rfl, ?yU11⟩) hHeld ?rU11
                            case yU11 => (intro W hSW; (try dsimp only at hSW); go_simp; (try with_reducible rfl))
                            change wpAnyH _ _ _ _ _ _ _ (Act.put _ (some 108) _) _
                            simp only [Act.put, List.setIfInBounds_toArray, List.set_cons_zero, List.set_cons_succ]
                            refine wpAnyH_take (i := 12) (v := .bool false) rfl (by kernel_rfl) (by kernel_rfl) (by kernel_rfl) (fun _ _ _ h => h) (Or.inl ⟨by first | kernel_rfl | rfl, ?yU12⟩) hHeld ?rU12
                            case yU12 => (intro W hSW; (try dsimp only at hSW); go_simp; (try with_reducible rfl))
                            change wpAnyH _ _ _ _ _ _ _ (Act.put _ (some 109) _) _
                            simp only [Act.put, List.setIfInBounds_toArray, List.set_cons_zero, List.set_cons_succ]
                            refine wpAnyH_take (i := 13) (v := ?vU13) rfl (by kernel_rfl) (by kernel_rfl) (by kernel_rfl) (fun _ _ _ h => h) (Or.inl ⟨by first | kernel_rfl | rfl, ?yU13⟩) hHeld ?rU13
                            case yU13 => (intro W hSW; (try dsimp only at hSW); go_simp; (try with_reducible rfl))
                            change wpAnyH _ _ _ _ _ _ _ (Act.put _ (some 110) _) _
                            simp only [Act.put, List.setIfInBounds_toArray, List.set_cons_zero, List.set_cons_succ]
                            refine wpAnyH_take (i := 14) (v := ?vU14) rfl (by kernel_rfl) (by kernel_rfl) (by kernel_rfl) (fun _ _ _ h => h) (Or.inl ⟨by first | kernel_rfl | rfl, ?yU14⟩) hHeld ?rU14
                            case yU14 => (intro W hSW; (try dsimp only at hSW); go_simp; (try with_reducible rfl))
                            change wpAnyH _ _ _ _ _ _ _ (Act.put _ (some 111) _) _
                            simp only [Act.put, List.setIfInBounds_toArray, List.set_cons_zero, List.set_cons_succ]
                            refine wpAnyH_take (i := 15) (v := ?vU15) rfl (by kernel_rfl) (by kernel_rfl) (by kernel_rfl) (fun _ _ _ h => h) (Or.inl ⟨by first | kernel_rfl | rfl, ?yU15⟩) hHeld ?rU15
                            case yU15 => (intro W hSW; (try dsimp only at hSW); go_simp; (try with_reducible rfl))
                            change wpAnyH _ _ _ _ _ _ _ (Act.put _ (some 112) _) _
                            simp only [Act.put, List.setIfInBounds_toArray, List.set_cons_zero, List.set_cons_succ]
                            refine wpAnyH_take (i := 16) (v := ?vU16) rfl (by kernel_rfl) (by kernel_rfl) (by kernel_rfl) (fun _ _ _ h => h) (Or.inl ⟨by first | kernel_rfl | rfl, ?yU16⟩) hHeld ?rU16
                            case yU16 => (intro W hSW; (try dsimp only at hSW); go_simp; (try with_reducible rfl))
                            change wpAnyH _ _ _ _ _ _ _ (Act.put _ (some 113) _) _
                            simp only [Act.put, List.setIfInBounds_toArray, List.set_cons_zero, List.set_cons_succ]
                            refine wpAnyH_take (i := 17) (v := ?vU17) rfl (by kernel_rfl) (by kernel_rfl) (by kernel_rfl) (fun _ _ _ h => h) (Or.inl ⟨by first | kernel_rfl | rfl, ?yU17⟩) hHeld ?rU17
                            case yU17 => (intro W hSW; (try dsimp only at hSW); go_simp; (try with_reducible rfl))
                            change wpAnyH _ _ _ _ _ _ _ (Act.put _ (some 114) _) _
                            simp only [Act.put, List.setIfInBounds_toArray, List.set_cons_zero, List.set_cons_succ]
                            refine wpAnyH_take (i := 18) (v := ?vU18) rfl (by kernel_rfl) (by kernel_rfl) (by kernel_rfl) (fun _ _ _ h => h) (Or.inl ⟨by first | kernel_rfl | rfl, ?yU18⟩) hHeld ?rU18
                            case yU18 => (intro W hSW; (try dsimp only at hSW); go_simp; (try with_reducible rfl))
                            change wpAnyH _ _ _ _ _ _ _ (Act.put _ (some 115) _) _
                            simp only [Act.put, List.setIfInBounds_toArray, List.set_cons_zero, List.set_cons_succ]
                            refine wpAnyH_take (i := 19) (v := ?vU19) rfl (by kernel_rfl) (by kernel_rfl) (by kernel_rfl) (fun _ _ _ h => h) (Or.inl ⟨by first | kernel_rfl | rfl, ?yU19⟩) hHeld ?rU19
                            case yU19 => (intro W hSW; (try dsimp only at hSW); go_simp; (try with_reducible rfl))
                            change wpAnyH _ _ _ _ _ _ _ (Act.put _ (some 116) _) _
                            simp only [Act.put, List.setIfInBounds_toArray, List.set_cons_zero, List.set_cons_succ]
                            refine wpAnyH_take (i := 20) (v := ?vU20) rfl (by kernel_rfl) (by kernel_rfl) (by kernel_rfl) (fun _ _ _ h => h) (Or.inl ⟨by first | kernel_rfl | rfl, ?yU20⟩) hHeld ?rU20
                            case yU20 => (intro W hSW; (try dsimp only at hSW); go_simp; (try with_reducible rfl))
                            change wpAnyH _ _ _ _ _ _ _ (Act.put _ (some 117) _) _
                            simp only [Act.put, List.setIfInBounds_toArray, List.set_cons_zero, List.set_cons_succ]
                            refine wpAnyH_take (i := 21) (v := ?vU21) rfl (by kernel_rfl) (by kernel_rfl) (by kernel_rfl) (fun _ _ _ h => h) (Or.inl ⟨by first | kernel_rfl | rfl, ?yU21⟩) hHeld ?rU21
                            case yU21 => (intro W hSW; (try dsimp only at hSW); go_simp; (try with_reducible rfl))
                            change wpAnyH _ _ _ _ _ _ _ (Act.put _ (some 118) _) _
                            simp only [Act.put, List.setIfInBounds_toArray, List.set_cons_zero, List.set_cons_succ]
                            refine wpAnyH_take (i := 22) (v := ?vU22) rfl (by kernel_rfl) (by kernel_rfl) (by kernel_rfl) (fun _ _ _ h => h) (Or.inl ⟨by first | kernel_rfl | rfl, ?yU22⟩) hHeld ?rU22
                            case yU22 => (intro W hSW; (try dsimp only at hSW); go_simp; (try with_reducible rfl))
                            change wpAnyH _ _ _ _ _ _ _ (Act.put _ (some 119) _) _
                            simp only [Act.put, List.setIfInBounds_toArray, List.set_cons_zero, List.set_cons_succ]
                            refine wpAnyH_take (i := 23) (v := ?vU23) rfl (by kernel_rfl) (by kernel_rfl) (by kernel_rfl) (fun _ _ _ h => h) (Or.inl ⟨by first | kernel_rfl | rfl, ?yU23⟩) hHeld ?rU23
                            case yU23 => (intro W hSW; (try dsimp only at hSW); go_simp; (try with_reducible rfl))
                            change wpAnyH _ _ _ _ _ _ _ (Act.put _ (some 120) _) _
                            simp only [Act.put, List.setIfInBounds_toArray, List.set_cons_zero, List.set_cons_succ]
                            refine wpAnyH_done (by kernel_rfl) ?_ _
                            go_wp2
                            go_ret
                            exact ⟨by rw [HA.out]; rfl, by first | exact below_drew HBW.out | (rw [hB]; exact below_drew HBW.out)⟩
                          | true =>
                            have HN := HNX.out (.inr ⟨hrki, hbu⟩)
                            have HN : Hid ((∀ j, j < k + 1 → rootOf b j = 0 ∨ (rootOf b j < i ∧ (hdN i b).has (rootOf b j) = true)) ∧ wr.heap[C]? = some (.cells rs 42 (0, 0)) ∧ Below B w wr ∧ ∀ j, j < i → wr.cell? ⟨ub, j, none⟩ = some (.bool ((hdN i b).has j))) := HN
                            clear HNX HF3 hbu
                            go_wp2
                            refine wp_region_held_drew (S := fun W => W.cell? ⟨C, 2 + k, none⟩ = some (.int .i64 ((rk : Int))) ∧ W.cell? ⟨C, 0, none⟩ = some (.slice (some ⟨ub, 0, none⟩) i uc) ∧ W.cell? ⟨ub, rk, none⟩ = some (.bool true)) (by kernel_rfl) (⟨ck, c0, cu⟩) (fun hHeld => ?_)
                            refine wpAnyH_take (i := 0) (v := ?vV0) rfl (by kernel_rfl) (by kernel_rfl) (by kernel_rfl) (fun _ _ _ h => h) (Or.inl ⟨by first | kernel_rfl | rfl, ?yV0⟩) hHeld ?rV0
                            case yV0 => (intro W hSW; (try dsimp only at hSW); go_simp; (try with_reducible rfl))
                            change wpAnyH _ _ _ _ _ _ _ (Act.put _ (some 97) _) _
                            simp only [Act.put, List.setIfInBounds_toArray, List.set_cons_zero, List.set_cons_succ]
                            refine wpAnyH_take (i := 1) (v := ?vV1) rfl (by kernel_rfl) (by kernel_rfl) (by kernel_rfl) (fun _ _ _ h => h) (Or.inl ⟨by first | kernel_rfl | rfl, ?yV1⟩) hHeld ?rV1
                            case yV1 => (intro W hSW; (try dsimp only at hSW); go_simp; (try with_reducible rfl))
                            change wpAnyH _ _ _ _ _ _ _ (Act.put _ (some 98) _) _
                            simp only [Act.put, List.setIfInBounds_toArray, List.set_cons_zero, List.set_cons_succ]
                            refine wpAnyH_take (i := 2) (v := ?vV2) rfl (by kernel_rfl) (by kernel_rfl) (by kernel_rfl) (fun _ _ _ h => h) (Or.inl ⟨by first | kernel_rfl | rfl, ?yV2⟩) hHeld ?rV2
                            case yV2 => (intro W hSW; (try dsimp only at hSW); go_simp; (try with_reducible rfl))
                            change wpAnyH _ _ _ _ _ _ _ (Act.put _ (some 99) _) _
                            simp only [Act.put, List.setIfInBounds_toArray, List.set_cons_zero, List.set_cons_succ]
                            refine wpAnyH_take (i := 3) (v := ?vV3) rfl (by kernel_rfl) (by kernel_rfl) (by kernel_rfl) (fun _ _ _ h => h) (Or.inl ⟨by first | kernel_rfl | rfl, ?yV3⟩) hHeld ?rV3
                            case yV3 => (intro W hSW; (try dsimp only at hSW); go_simp; (try with_reducible rfl))
                            change wpAnyH _ _ _ _ _ _ _ (Act.put _ (some 100) _) _
                            simp only [Act.put, List.setIfInBounds_toArray, List.set_cons_zero, List.set_cons_succ]
                            refine wpAnyH_take (i := 4) (v := .bool true) rfl (by kernel_rfl) (by kernel_rfl) (by kernel_rfl) (fun _ _ _ h => h) (Or.inl ⟨by first | kernel_rfl | rfl, ?yV4⟩) hHeld ?rV4
                            case yV4 => (intro W hSW; (try dsimp only at hSW); go_simp; (try with_reducible rfl))
                            change wpAnyH _ _ _ _ _ _ _ (Act.put _ (some 101) _) _
                            simp only [Act.put, List.setIfInBounds_toArray, List.set_cons_zero, List.set_cons_succ]
                            refine wpAnyH_take (i := 5) (v := .bool true) rfl (by kernel_rfl) (by kernel_rfl) (by kernel_rfl) (fun _ _ _ h => h) (Or.inl ⟨by first | kernel_rfl | rfl, ?yV5⟩) hHeld ?rV5
                            case yV5 => (intro W hSW; (try dsimp only at hSW); go_simp; (try with_reducible rfl))
                            change wpAnyH _ _ _ _ _ _ _ (Act.put _ (some 102) _) _
                            simp only [Act.put, List.setIfInBounds_toArray, List.set_cons_zero, List.set_cons_succ]
                            refine wpAnyH_take (i := 6) (v := ?vV6) rfl (by kernel_rfl) (by kernel_rfl) (by kernel_rfl) (fun _ _ _ h => h) (Or.inl ⟨by first | kernel_rfl | rfl, ?yV6⟩) hHeld ?rV6
                            case yV6 => (intro W hSW; (try dsimp only at hSW); go_simp; (try with_reducible rfl))
                            change wpAnyH _ _ _ _ _ _ _ (Act.put _ (some 103) _) _
                            simp only [Act.put, List.setIfInBounds_toArray, List.set_cons_zero, List.set_cons_succ]
                            refine wpAnyH_take (i := 7) (v := ?vV7) rfl (by kernel_rfl) (by kernel_rfl) (by kernel_rfl) (fun _ _ _ h => h) (Or.inl ⟨by first | kernel_rfl | rfl, ?yV7⟩) hHeld ?rV7
                            case yV7 => (intro W hSW; (try dsimp only at hSW); go_simp; (try with_reducible rfl))
                            change wpAnyH _ _ _ _ _ _ _ (Act.put _ (some 104) _) _
                            simp only [Act.put, List.setIfInBounds_toArray, List.set_cons_zero, List.set_cons_succ]
                            refine wpAnyH_take (i := 8) (v := ?vV8) rfl (by kernel_rfl) (by kernel_rfl) (by kernel_rfl) (fun _ _ _ h => h) (Or.inl ⟨by first | kernel_rfl | rfl, ?yV8⟩) hHeld ?rV8
                            case yV8 => (intro W hSW; (try dsimp only at hSW); go_simp; (try with_reducible rfl))
                            change wpAnyH _ _ _ _ _ _ _ (Act.put _ (some 105) _) _
                            simp only [Act.put, List.setIfInBounds_toArray, List.set_cons_zero, List.set_cons_succ]
                            refine wpAnyH_take (i := 9) (v := ?vV9) rfl (by kernel_rfl) (by kernel_rfl) (by kernel_rfl) (fun _ _ _ h => h) (Or.inl ⟨by first | kernel_rfl | rfl, ?yV9⟩) hHeld ?rV9
                            case yV9 => (intro W hSW; (try dsimp only at hSW); go_simp; (try with_reducible rfl))
                            change wpAnyH _ _ _ _ _ _ _ (Act.put _ (some 106) _) _
                            simp only [Act.put, List.setIfInBounds_toArray, List.set_cons_zero, List.set_cons_succ]
                            refine wpAnyH_take (i := 10) (v := ?vV10) rfl (by kernel_rfl) (by kernel_rfl) (by kernel_rfl) (fun _ _ _ h => h) (Or.inl ⟨by first | kernel_rfl | rfl, ?yV10⟩) hHeld ?rV10
                            case yV10 => (intro W hSW; (try dsimp only at hSW); go_simp; (try with_reducible rfl))
                            change wpAnyH _ _ _ _ _ _ _ (Act.put _ (some 107) _) _
                            simp only [Act.put, List.setIfInBounds_toArray, List.set_cons_zero, List.set_cons_succ]
                            refine wpAnyH_take (i := 11) (v := .bool false) rfl (by kernel_rfl) (by kernel_rfl) (by kernel_rfl) (fun _ _ _ h => h) (Or.inl ⟨by first | kernel_rfl | rfl, ?yV11⟩) hHeld ?rV11
                            case yV11 => (intro W hSW; (try dsimp only at hSW); go_simp; (try with_reducible rfl))
                            change wpAnyH _ _ _ _ _ _ _ (Act.put _ (some 108) _) _
                            simp only [Act.put, List.setIfInBounds_toArray, List.set_cons_zero, List.set_cons_succ]
                            refine wpAnyH_take (i := 12) (v := .bool false) rfl (by kernel_rfl) (by kernel_rfl) (by kernel_rfl) (fun _ _ _ h => h) (Or.inl ⟨by first | kernel_rfl | rfl, ?yV12⟩) hHeld ?rV12
                            case yV12 => (intro W hSW; (try dsimp only at hSW); go_simp; (try with_reducible rfl))
                            change wpAnyH _ _ _ _ _ _ _ (Act.put _ (some 109) _) _
                            simp only [Act.put, List.setIfInBounds_toArray, List.set_cons_zero, List.set_cons_succ]
                            refine wpAnyH_take (i := 13) (v := ?vV13) rfl (by kernel_rfl) (by kernel_rfl) (by kernel_rfl) (fun _ _ _ h => h) (Or.inl ⟨by first | kernel_rfl | rfl, ?yV13⟩) hHeld ?rV13
                            case yV13 => (intro W hSW; (try dsimp only at hSW); go_simp; (try with_reducible rfl))
                            change wpAnyH _ _ _ _ _ _ _ (Act.put _ (some 110) _) _
                            simp only [Act.put, List.setIfInBounds_toArray, List.set_cons_zero, List.set_cons_succ]
                            refine wpAnyH_take (i := 14) (v := ?vV14) rfl (by kernel_rfl) (by kernel_rfl) (by kernel_rfl) (fun _ _ _ h => h) (Or.inl ⟨by first | kernel_rfl | rfl, ?yV14⟩) hHeld ?rV14
                            case yV14 => (intro W hSW; (try dsimp only at hSW); go_simp; (try with_reducible rfl))
                            change wpAnyH _ _ _ _ _ _ _ (Act.put _ (some 111) _) _
                            simp only [Act.put, List.setIfInBounds_toArray, List.set_cons_zero, List.set_cons_succ]
                            refine wpAnyH_take (i := 15) (v := ?vV15) rfl (by kernel_rfl) (by kernel_rfl) (by kernel_rfl) (fun _ _ _ h => h) (Or.inl ⟨by first | kernel_rfl | rfl, ?yV15⟩) hHeld ?rV15
                            case yV15 => (intro W hSW; (try dsimp only at hSW); go_simp; (try with_reducible rfl))
                            change wpAnyH _ _ _ _ _ _ _ (Act.put _ (some 112) _) _
                            simp only [Act.put, List.setIfInBounds_toArray, List.set_cons_zero, List.set_cons_succ]
                            refine wpAnyH_take (i := 16) (v := ?vV16) rfl (by kernel_rfl) (by kernel_rfl) (by kernel_rfl) (fun _ _ _ h => h) (Or.inl ⟨by first | kernel_rfl | rfl, ?yV16⟩) hHeld ?rV16
                            case yV16 => (intro W hSW; (try dsimp only at hSW); go_simp; (try with_reducible rfl))
                            change wpAnyH _ _ _ _ _ _ _ (Act.put _ (some 113) _) _
                            simp only [Act.put, List.setIfInBounds_toArray, List.set_cons_zero, List.set_cons_succ]
                            refine wpAnyH_take (i := 17) (v := ?vV17) rfl (by kernel_rfl) (by kernel_rfl) (by kernel_rfl) (fun _ _ _ h => h) (Or.inl ⟨by first | kernel_rfl | rfl, ?yV17⟩) hHeld ?rV17
                            case yV17 => (intro W hSW; (try dsimp only at hSW); go_simp; (try with_reducible rfl))
                            change wpAnyH _ _ _ _ _ _ _ (Act.put _ (some 114) _) _
                            simp only [Act.put, List.setIfInBounds_toArray, List.set_cons_zero, List.set_cons_succ]
                            refine wpAnyH_take (i := 18) (v := ?vV18) rfl (by kernel_rfl) (by kernel_rfl) (by kernel_rfl) (fun _ _ _ h => h) (Or.inl ⟨by first | kernel_rfl | rfl, ?yV18⟩) hHeld ?rV18
                            case yV18 => (intro W hSW; (try dsimp only at hSW); go_simp; (try with_reducible rfl))
                            change wpAnyH _ _ _ _ _ _ _ (Act.put _ (some 115) _) _
                            simp only [Act.put, List.setIfInBounds_toArray, List.set_cons_zero, List.set_cons_succ]
                            refine wpAnyH_take (i := 19) (v := ?vV19) rfl (by kernel_rfl) (by kernel_rfl) (by kernel_rfl) (fun _ _ _ h => h) (Or.inl ⟨by first | kernel_rfl | rfl, ?yV19⟩) hHeld ?rV19
                            case yV19 => (intro W hSW; (try dsimp only at hSW); go_simp; (try with_reducible rfl))
                            change wpAnyH _ _ _ _ _ _ _ (Act.put _ (some 116) _) _
                            simp only [Act.put, List.setIfInBounds_toArray, List.set_cons_zero, List.set_cons_succ]
                            refine wpAnyH_take (i := 20) (v := ?vV20) rfl (by kernel_rfl) (by kernel_rfl) (by kernel_rfl) (fun _ _ _ h => h) (Or.inl ⟨by first | kernel_rfl | rfl, ?yV20⟩) hHeld ?rV20
                            case yV20 => (intro W hSW; (try dsimp only at hSW); go_simp; (try with_reducible rfl))
                            change wpAnyH _ _ _ _ _ _ _ (Act.put _ (some 117) _) _
                            simp only [Act.put, List.setIfInBounds_toArray, List.set_cons_zero, List.set_cons_succ]
                            refine wpAnyH_take (i := 21) (v := ?vV21) rfl (by kernel_rfl) (by kernel_rfl) (by kernel_rfl) (fun _ _ _ h => h) (Or.inl ⟨by first | kernel_rfl | rfl, ?yV21⟩) hHeld ?rV21
                            case yV21 => (intro W hSW; (try dsimp only at hSW); go_simp; (try with_reducible rfl))
                            change wpAnyH _ _ _ _ _ _ _ (Act.put _ (some 118) _) _
                            simp only [Act.put, List.setIfInBounds_toArray, List.set_cons_zero, List.set_cons_succ]
                            refine wpAnyH_take (i := 22) (v := ?vV22) rfl (by kernel_rfl) (by kernel_rfl) (by kernel_rfl) (fun _ _ _ h => h) (Or.inl ⟨by first | kernel_rfl | rfl, ?yV22⟩) hHeld ?rV22
                            case yV22 => (intro W hSW; (try dsimp only at hSW); go_simp; (try with_reducible rfl))
                            change wpAnyH _ _ _ _ _ _ _ (Act.put _ (some 119) _) _
                            simp only [Act.put, List.setIfInBounds_toArray, List.set_cons_zero, List.set_cons_succ]
                            refine wpAnyH_take (i := 23) (v := ?vV23) rfl (by kernel_rfl) (by kernel_rfl) (by kernel_rfl) (fun _ _ _ h => h) (Or.inl ⟨by first | kernel_rfl | rfl, ?yV23⟩) hHeld ?rV23
                            case yV23 => (intro W hSW; (try dsimp only at hSW); go_simp; (try with_reducible rfl))
                            change wpAnyH _ _ _ _ _ _ _ (Act.put _ (some 120) _) _
                            simp only [Act.put, List.setIfInBounds_toArray, List.set_cons_zero, List.set_cons_succ]
                            refine wpAnyH_done (by kernel_rfl) ?_ _
                            go_wp2
                            exact ⟨⟨k + 1, by omega, by go_num, HN.out.1, HN.out.2.1, below_drew HN.out.2.2.1, HN.out.2.2.2⟩, by simp [intOf]; omega⟩
                    · obtain rfl : k = 4 := by omega
                      have kk2 : ¬ (4 : Int) < 4 := by omega
                      have HA : Hid (ans = true) := HPRE.out hall
                      have HBW : Hid (Below B w wr) := hbw
                      clear hall hc hbw hcu
                      go_wp2
                      go_ret
                      exact ⟨by rw [HA.out]; rfl, by first | exact HBW.out | (rw [hB]; exact HBW.out)⟩
                · have HA : Hid (ans = false) := HFALSE.out (fun h => hte h.2.2.1)
                  have hne2 : ¬ strOf (hdN i b).text = s := fun e => hte (by rw [← HTE.out] at e; exact (text_eq (strOf b) _).1 e)
                  have ht2 := str_nb hne2
                  have hne3 := str_ne hne2
                  obtain ⟨tx, htx⟩ : ∃ tx, strOf (hdN i b).text = tx := ⟨_, rfl⟩
                  rw [htx] at HBY ht2 hne3
                  clear hte htx hne2
                  go_wp2_with (refine wpList_load_w (by kernel_rfl) _ _ rfl rfl hlr ?_)
                  refine HBY.mono ?_
                  rintro e V2 ⟨rfl, hV2⟩
                  have HB2 : Hid (Below B w V2) := HW.out.2.2.1.trans (hV2.mono (by rw [← hB]; exact HW.out.2.2.1.size))
                  clear HBY hV2 HW c0 c6 u0 hlr
                  go_wp2
                  go_ret
                  exact ⟨by rw [HA.out]; rfl, by first | exact HB2.out | (rw [hB]; exact HB2.out)⟩
end Go.Proofs.YtdgffocmdkadpaaGreat
