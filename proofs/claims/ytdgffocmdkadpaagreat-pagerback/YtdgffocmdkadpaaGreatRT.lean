/- Savepoints of the document; a walk over the statements' step: saves. -/
import Derived.Test.YtdgffocmdkadpaaGreatRQ
namespace Go.Proofs.YtdgffocmdkadpaaGreat
open Go.RowKit Go.Shelf Pg
theorem infoRS : (Tryz.prog.info? 42).map (fun i => (i.zero, i.size, i.bytes)) = some (some (.agg z7), 7, 88) := by kernel_rfl
theorem app_pts (W : World) {F : Nat → Prop} {pa : Option Addr} {pl pc : Nat} {rows : List (Array Value)} (h : Rw F W 42 7 pa pl pc (rows.flatMap Array.toList)) (ho : ∀ r ∈ rows, ∀ u ∈ r.toList, u.oneCell' = true) (hl : pl ≤ 16) : ∃ a' c' w', (∀ ty, (Builtin.append_ #[51, 51] ty #[.slice none 0 0, .slice pa pl pc]).run Tryz.prog W = .ok (.slice a' pl c') w') ∧ w'.ownsRow W.heap.size 42 7 (.slice a' pl c') pl (rows.flatMap Array.toList) ∧ W.grownBy w' none := by
  obtain ⟨i, hi, hz, hs, hbb⟩ := info_of infoRS
  obtain ⟨a', c', w', k1, k2, k3, _⟩ := app_own W 51 42 i _ 7 88 Tryz.underlying51 hi hz hs hbb rfl (by omega) (World.ownsRow_nil W W.heap.size 42 7) h (fun u hu => by
    obtain ⟨r, hr, hu⟩ := List.mem_flatMap.1 hu
    exact ho r hr u hu) (by omega) (by omega) (Nat.le_refl _)
  rw [Nat.zero_add] at k1 k2
  exact ⟨a', c', w', k1, k2, k3⟩
theorem addP_own (w : World) {base n c : Nat} {a : Option Addr} {rows : List (Array Value)} {r : Array Value} {b : Nat} (h : w.ownsRow base 42 7 (.slice a n c) n (rows.flatMap Array.toList)) (hr : w.heap[b]? = some (.cells r 42 (0, 0))) (hz7 : r.size = 7) (ho : ∀ u ∈ r.toList, u.oneCell' = true) (hn : n + 1 ≤ 1000) (hb : base ≤ w.heap.size) :
    ∃ a' c' w', (∀ ty, (Builtin.append_ #[51, 51] ty #[.slice a n c, .slice (some ⟨b, 0, none⟩) 1 1]).run Tryz.prog w = .ok (.slice a' (n + 1) c') w') ∧ w'.ownsRow base 42 7 (.slice a' (n + 1) c') (n + 1) ((rows ++ [r]).flatMap Array.toList) ∧ w.grownBy w' (ob a) ∧ (ob a' = ob a ∨ ob a' = some w.heap.size) := by
  obtain ⟨i, hi, hz, hs, hbb⟩ := info_of infoRS
  have h2 : Rw (fun _ => True) w 42 7 (some ⟨b, 0, none⟩) 1 1 r.toList := by
    refine ⟨by rw [Array.length_toList, hz7], Nat.le_refl _, by unfold maxLen; omega, fun _ => ⟨b, 0, rfl, lt_of_some hr, trivial, fun j u hu => ?_⟩⟩
    rw [Nat.zero_add, cell_of_row _ b _ _ _ _ hr, ← hu, Array.getElem?_toList]
  obtain ⟨a', c', w', k1, k2, k3, k4⟩ := app_own w 51 42 i _ 7 88 Tryz.underlying51 hi hz hs hbb rfl (by omega) h h2 ho (by omega) (by omega) hb
  refine ⟨a', c', w', k1, ?_, k3, k4⟩
  have e : (rows ++ [r]).flatMap Array.toList = rows.flatMap Array.toList ++ r.toList := by simp
  rw [e]
  exact k2
theorem fill_rs (a b c d e f g : Value) : Instr.fill (fun i => some (i * 7, 7)) ((Array.range (1 * 7)).map ((Value.agg z7).cells[· % (Value.agg z7).cells.size]!)) [(0, .agg #[a, b, c, d, e, f, g])] = some #[a, b, c, d, e, f, g] := by kernel_rfl
theorem row_rs {F : Nat → Prop} {w : World} {n : Nat} {r : Array Value} (h : DSt F w n (.agg r)) (W : World) : (Instr.buildSlice 51 1 #[(0, .agg r)]).run Tryz.prog W = .ok (.slice (some ⟨W.heap.size, 0, none⟩) 1 1) (W.alloc (.cells r 42)) := by
  obtain ⟨i, hi, hz, hs, _⟩ := info_of infoRS
  refine run_buildSlice W 51 42 1 _ _ i _ Tryz.underlying51 hi hz (by rw [hs]; omega) (by rw [hs]; omega) ?_
  rw [hs]
  obtain ⟨ua, uc, da, dc, us, ds, r0, r1, r2, r3, ser, e, h1, h2⟩ := h
  cases e
  exact fill_rs _ _ _ _ _ _ _
theorem wpList_rowR {ops : Array Oper} {rest : List Oper} {o : Oper} {a : Act} {w w2 : World} {c : Nat} {Q : Exit → Act → World → Prop} (hgd : o.guard = none) (x : Operand) (ho : o.op = .buildSlice 51 1 #[(0, x)]) (r : Array Value) (hb : ∀ W : World, (Instr.buildSlice 51 1 #[(0, .agg r)]).run Tryz.prog W = .ok (.slice (some ⟨W.heap.size, 0, none⟩) 1 1) (W.alloc (.cells r 42))) (hc : w.heap.size = c) (hw : w.alloc (.cells r 42) = w2) (hx : a.eval x = .agg r) (hK : wpList Tryz.prog ops Q rest (a.put o.dst (.slice (some ⟨c, 0, none⟩) 1 1)) w2) : wpList Tryz.prog ops Q (o :: rest) a w :=
  wpList_plain hgd fun K hk => by
    have e : (#[(0, x)] : Array (Nat × Operand)).map (fun (i, x) => (i, a.eval x)) = #[(0, .agg r)] := by
      simp only [List.map_toArray, List.map_cons, List.map_nil, hx]
    subst hc hw
    unfold Oper.wp execOp
    simp only [ho, Sem.run_bind, e, hb, Result.andThen_ok, Sem.run_pure]
    exact hk _ _ hK
section
variable {h0 : Nat} {F : Nat → Prop} {w : World} {S : Nat → Prop} {g : Nat} {D : Dk} {pb jb n : Nat} {X : Px} {zb jz k : Nat} {gs ns : Array Value} {pv ov : Value}
theorem sav_inv (hi : Inv n k D X) : Inv n (k + 1) D X.sav := ⟨hi.g, by have := hi.w; omega, hi.h, by have := hi.s1; show X.good.ser ≤ _; omega, by have := hi.s2; show X.now.h.ser ≤ _; omega, fun s hs => by
  rcases List.mem_append.1 hs with hs | hs
  · have := hi.s3 s hs; omega
  · obtain rfl := List.mem_singleton.1 hs
    have := hi.s2; omega⟩
set_option maxRecDepth 100000 in
set_option maxHeartbeats 16000000 in
theorem step4 (h : Ps h0 F w S g D pb jb n X zb jz gs ns pv ov) (hi : Inv n k D X) (id kx lg : Int) (fl : Nat) : Calls Tryz.prog 16 #[.pointer (some ⟨zb, 0, none⟩), .agg #[.int .i64 4, .int .i64 id, .int .i64 kx, .int .i64 lg, .int .u8 (fl : Int)]] w fun e w' => StepTo h0 F w g D pb jb n X zb jz k 4 e w' := by
  obtain ⟨hok, hn2, hn12⟩ := h.nn
  have q0 := Sq.start h (opA 4 id kx lg fl)
  have HI : Hid (Inv n k D X ∧ X.Ok n) := ⟨hi, hok⟩
  obtain ⟨B, hB⟩ : ∃ B, w.heap.size = B := ⟨_, rfl⟩
  obtain ⟨W0, hW0⟩ : ∃ W0, w.alloc (.cells (opA 4 id kx lg fl) 57) = W0 := ⟨_, rfl⟩
  obtain ⟨F0, hF0⟩ : ∃ F0, mor F w W0 = F0 := ⟨_, rfl⟩
  rw [hW0, hF0, hB] at q0
  clear hF0 hi hok
  have hW0 : w.alloc (.cells #[.int .i64 4, .int .i64 id, .int .i64 kx, .int .i64 lg, .int .u8 (fl : Int)] 57) = W0 := hW0
  have ck : W0.cell? ⟨B, 0, none⟩ = some (.int .i64 4) := q0.at 0 _ rfl
  have HSV := psave_any q0.s.p
  have c1 := q0.pp
  have Q0 : Hid (Sq h0 F w F0 W0 S g D pb jb n X zb jz gs ns pv ov B (opA 4 id kx lg fl)) := q0
  clear q0 h
  go_enter Tryz.func16, Tryz.ntmps16
  go_wp2_with fail
  refine HSV.mono ?_
  rintro e V1 hA
  obtain ⟨nn, gg, X', F1, S1, rfl, q1, hX⟩ : ∃ (nn gg : Nat) (X' : Px) (F1 S1 : Nat → Prop), e = .returned (.tuple #[.int .i64 (nn : Int), .int .i64 (gg : Int)]) ∧ Sq h0 F w F1 V1 S1 g D pb jb n X' zb jz gs ns pv ov B (opA 4 id kx lg fl) ∧ (Inv n (k + 1) D X' ∧ X'.good = X.good ∧ X'.kept = X.kept) := by
    rcases hA with ⟨_, rfl, hT⟩ | ⟨_, rfl, hT⟩
    · obtain ⟨F1, S1, q1⟩ := Q0.out.pto hT
      exact ⟨X.saves.length, 0, X.sav, F1, S1, rfl, q1, sav_inv HI.out.1, rfl, rfl⟩
    · obtain ⟨F1, S1, q1⟩ := Q0.out.pto hT
      exact ⟨0, 5, X, F1, S1, rfl, q1, HI.out.1.mono (by omega), rfl, rfl⟩
  have HE : Hid (∀ V b, SpTo h0 F w g D pb jb n X' zb jz V → StepTo h0 F w g D pb jb n X zb jz k 4 (.returned (.bool b)) V) := fun V b ht => ⟨b, D, X', pb, rfl, ht, hX.1, fun _ => ⟨rfl, hX.2⟩, fun h => by omega, fun _ => rfl⟩
  obtain ⟨pa, pl, pc, rows, rfl, hrl, hp16, hrw, hrr⟩ := q1.s.z.p
  have c16 := q1.s.z.cells.2.2.1
  have hpcap := rw_cap hrw
  by_cases hpl : pl = 16
  · subst hpl
    have HE2 : Hid (∀ b, StepTo h0 F w g D pb jb n X zb jz k 4 (.returned (.bool b)) V1) := fun b => HE.out V1 b q1.done
    clear HSV hA hX HE q1 hrw hrr hrl Q0 HI
    by_cases ha : (nn : Int) = (0 : Int)
    · have hab : ((nn : Int) == (0 : Int)) = true := by rw [ha]; exact beq_self_eq_true _
      by_cases hc : (gg : Int) = (5 : Int)
      · have hcd : ((gg : Int) == (5 : Int)) = true := by rw [hc]; exact beq_self_eq_true _
        go_wp2
        go_ret
        exact HE2.out _
      · have hcd : ((gg : Int) == (5 : Int)) = false := by simpa using hc
        go_wp2
        go_ret
        exact HE2.out _
    · have hab : ((nn : Int) == (0 : Int)) = false := by simpa using ha
      go_wp2
      go_ret
      exact HE2.out _
  · have kpl : ¬ (pl : Int) = 16 := by omega
    have kpb : ((pl : Int) == 16) = false := by simpa using kpl
    obtain ⟨a1, cc1, V2, k1, k2, k3⟩ := app_pts V1 hrw (fun r hr => by
      obtain ⟨rs, e, _, ho⟩ := (hrr r hr).2.agg
      cases e
      exact ho) hp16
    have hb12 : Below V1.heap.size V1 V2 := (Below.refl _ V1).grown k3 (Nat.le_refl _) (fun k hk => by cases hk)
    have q2 := q1.below hb12
    have hl2 := q2.s.z.lnow
    have hrow := row_rs q2.s.z.s
    obtain ⟨rs9, e9, hnz, hno⟩ := q2.s.z.s.agg
    cases e9
    obtain ⟨C, hC⟩ : ∃ C, V2.heap.size = C := ⟨_, rfl⟩
    obtain ⟨V3, hV3⟩ : ∃ V3, V2.alloc (.cells ns 42) = V3 := ⟨_, rfl⟩
    have s3 : V3.heap.size = C + 1 := by rw [← hV3, ← hC]; simp
    have hzV : V1.heap.size ≤ C := by rw [← hC]; exact hb12.size
    obtain ⟨a2, cc2, V4, m1, m2, m3, m4⟩ := addP_own V3 (b := C) (r := ns) (own_keep k2 (fun k hk => by rw [← hV3]; exact Below.heap_alloc _ _ _ (k2.lt k hk).2)) (by rw [← hV3, ← hC]; exact heap_alloc_new V2 _) hnz hno (by omega) (by omega)
    have hb14 : Below V1.heap.size V1 V4 := (by rw [← hV3]; exact hb12.alloc (by omega) _ : Below V1.heap.size V1 V3).grown m3 (by omega) (fun k hk => (k2.lt k (by rw [ob_slice]; exact hk)).1)
    have q4 := q1.below hb14
    have hzl := q1.s.z.lt
    have hPt : Pts (but zb (mor F1 V1 V4)) V4 n (.slice a2 (pl + 1) cc2) := by
      refine ⟨a2, pl + 1, cc2, rows ++ [ns], rfl, by rw [List.length_append, hrl]; rfl, by omega, (Rw.own (G := fun x => V1.heap.size ≤ x) m2 (fun x hx => hx)).mono (fun x hx hl => ⟨.inr ⟨hx, hl⟩, by omega⟩), fun r hr => ?_⟩
      rcases List.mem_append.1 hr with hr | hr
      · exact ⟨(hrr r hr).1, (hrr r hr).2.fr ((Fr.below hb14).but zb)⟩
      · obtain rfl := List.mem_singleton.1 hr
        exact ⟨hnz, q4.s.z.s⟩
    have c164 := q4.s.z.cells.2.2.1
    have f164 := q4.s.z.fro 16
    have q5 := q4.with (q4.s.pts hPt)
    obtain ⟨V5, hV5⟩ : ∃ V5, V4.setCell ⟨zb, 16, none⟩ (.slice a2 (pl + 1) cc2) = V5 := ⟨_, rfl⟩
    rw [hV5] at q5
    have HE2 : Hid (∀ b, StepTo h0 F w g D pb jb n X zb jz k 4 (.returned (.bool b)) V5) := fun b => HE.out V5 b q5.done
    have hcap1 := rw_cap (Rw.own (G := fun _ => True) k2 (fun _ _ => trivial))
    clear HSV hA hX HE q1 hrw hrr hrl Q0 HI q2 q4 q5 hb12 hb14 k2 k3 m2 m3 m4 hPt hno
    by_cases ha : (nn : Int) = (pl : Int)
    · have hab : ((nn : Int) == (pl : Int)) = true := by rw [ha]; exact beq_self_eq_true _
      by_cases hc : (gg : Int) = 0
      · have hcd : ((gg : Int) == 0) = true := by rw [hc]; rfl
        go_wp2_with (first | (refine wpList_load_w (by kernel_rfl) _ _ rfl rfl hl2 ?_) | (refine wpList_rowR rfl _ rfl _ hrow hC hV3 rfl ?_) | (at_builtin; refine wpList_app V1 rfl _ _ _ _ rfl rfl rfl (k1 _) ?_) | (at_builtin; refine wpList_app V3 rfl _ _ _ _ rfl rfl rfl (m1 _) ?_))
        go_ret
        exact HE2.out _
      · have hcd : ((gg : Int) == 0) = false := by simpa using hc
        go_wp2_with (first | (refine wpList_load_w (by kernel_rfl) _ _ rfl rfl hl2 ?_) | (refine wpList_rowR rfl _ rfl _ hrow hC hV3 rfl ?_) | (at_builtin; refine wpList_app V1 rfl _ _ _ _ rfl rfl rfl (k1 _) ?_) | (at_builtin; refine wpList_app V3 rfl _ _ _ _ rfl rfl rfl (m1 _) ?_))
        go_ret
        exact HE2.out _
    · have hab : ((nn : Int) == (pl : Int)) = false := by simpa using ha
      go_wp2_with (first | (refine wpList_load_w (by kernel_rfl) _ _ rfl rfl hl2 ?_) | (refine wpList_rowR rfl _ rfl _ hrow hC hV3 rfl ?_) | (at_builtin; refine wpList_app V1 rfl _ _ _ _ rfl rfl rfl (k1 _) ?_) | (at_builtin; refine wpList_app V3 rfl _ _ _ _ rfl rfl rfl (m1 _) ?_))
      go_ret
      exact HE2.out _
end
end Go.Proofs.YtdgffocmdkadpaaGreat
