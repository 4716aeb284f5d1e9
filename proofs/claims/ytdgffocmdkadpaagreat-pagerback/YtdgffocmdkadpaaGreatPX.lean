/- States as cells; a walk over slices.Delete. A walk over Back. -/
import Derived.Test.YtdgffocmdkadpaaGreatPV
import Derived.Great.BuildSlice
import Derived.Lib.SliceRun
namespace Go.Proofs.YtdgffocmdkadpaaGreat
open Go.RowKit Go.Shelf Pg
def stA (h : Hd) (m : Nat) : Array Value := (hdL h ++ [Value.map (some m)]).toArray
theorem stA_list (p : Sn × Nat) : (stA p.1.h p.2).toList = stV p := rfl
theorem stA_size (h : Hd) (m : Nat) : (stA h m).size = 22 := by simp [stA, hdL_len]
theorem built_state (h : Hd) (m : Nat) : Tryz.prog.built 105 [(0, .agg (hdA h)), (1, .map (some m))] = some (stA h m) := by kernel_rfl
theorem build_state (h : Hd) (m : Nat) (W : World) : (Instr.build 105 #[(0, .agg (hdA h)), (1, .map (some m))]).run Tryz.prog W = .ok (.agg (stA h m)) W := run_build W 105 #[(0, .agg (hdA h)), (1, .map (some m))] _ (built_state h m)
def st0 : Array Value := #[.int .u64 0, .int .i64 0, .int .i64 0, .int .i64 0, .int .i64 0, .int .u8 0, .int .u8 0, .int .u8 0, .int .u8 0, .int .u8 0, .int .u8 0, .int .u8 0, .int .u8 0, .int .u8 0, .int .u8 0, .int .u8 0, .int .u8 0, .int .u8 0, .int .u8 0, .int .u8 0, .int .u8 0, .map none]
theorem info_state : (Tryz.prog.info? 105).map (fun i => (i.zero, i.size, i.bytes)) = some (some (.agg st0), 22, 64) := by kernel_rfl
theorem fill_state (h : Hd) (m : Nat) : Instr.fill (fun i => some (i * 22, 22)) ((Array.range (1 * 22)).map ((Value.agg st0).cells[· % (Value.agg st0).cells.size]!)) [(0, .agg (stA h m))] = some (stA h m) := by kernel_rfl
theorem row_state (h : Hd) (m : Nat) (W : World) : (Instr.buildSlice 107 1 #[(0, .agg (stA h m))]).run Tryz.prog W = .ok (.slice (some ⟨W.heap.size, 0, none⟩) 1 1) (W.alloc (.cells (stA h m) 105)) := by
  obtain ⟨i, hi, hz, hs, _⟩ := info_of info_state
  refine run_buildSlice W 107 105 1 _ _ i _ Tryz.underlying107 hi hz (by rw [hs]; omega) (by rw [hs]; omega) ?_
  rw [hs]
  exact fill_state h m
theorem addS_own (w : World) {base n c : Nat} {a : Option Addr} {ss : List (Sn × Nat)} {p : Sn × Nat} {b : Nat} (h : w.ownsRow base 105 22 (.slice a n c) n (svV ss)) (hr : w.heap[b]? = some (.cells (stA p.1.h p.2) 105 (0, 0))) (hn : n + 1 ≤ 1000) (hb : base ≤ w.heap.size) :
    ∃ a' c' w', (∀ ty, (Builtin.append_ #[107, 107] ty #[.slice a n c, .slice (some ⟨b, 0, none⟩) 1 1]).run Tryz.prog w = .ok (.slice a' (n + 1) c') w') ∧ w'.ownsRow base 105 22 (.slice a' (n + 1) c') (n + 1) (svV (ss ++ [p])) ∧ w.grownBy w' (ob a) ∧ (ob a' = ob a ∨ ob a' = some w.heap.size) := by
  obtain ⟨i, hi, hz, hs, hbb⟩ := info_of info_state
  have h2 : Rw (fun _ => True) w 105 22 (some ⟨b, 0, none⟩) 1 1 (stV p) := by
    refine ⟨stV_len p, Nat.le_refl _, by unfold maxLen; omega, fun _ => ⟨b, 0, rfl, lt_of_some hr, trivial, fun j u hu => ?_⟩⟩
    rw [Nat.zero_add, cell_of_row _ b _ _ _ _ hr, stA, List.getElem?_toArray]
    exact hu
  obtain ⟨a', c', w', k1, k2, k3, k4⟩ := app_own w 107 105 i _ 22 64 Tryz.underlying107 hi hz hs hbb rfl (by omega) h h2 (stV_one p) (by omega) (by omega) hb
  refine ⟨a', c', w', k1, ?_, k3, k4⟩
  have e : svV (ss ++ [p]) = svV ss ++ stV p := by simp [svV]
  rw [e]
  exact k2
theorem clear_row (w : World) (g o nn c : Nat) (cur : Array Value) (ty : TypeId) (hg : w.heap[g]? = some (.cells cur 105 (0, 0))) (hn : 0 < nn) (ho : o + nn * 22 ≤ cur.size) :
    ∃ Z : List Value, Z.length = nn * 22 ∧ (Builtin.clear_ #[107] ty #[.slice (some ⟨g, o, none⟩) nn c]).run Tryz.prog w = .ok (.tuple #[]) (w.setRow g (cur.toList.take o ++ Z ++ cur.toList.drop (o + nn * 22)).toArray) := by
  have hzv : (zeroValue 105).run Tryz.prog w = .ok (.agg st0) w := by kernel_rfl
  have hzl : (Builtin.zeroCells (Value.agg st0).cells nn).toList.length = nn * 22 := by
    simp [Builtin.zeroCells, Value.cells, st0]
  have h1 : ∀ v ∈ (Builtin.zeroCells (Value.agg st0).cells nn).toList, v.oneCell' = true := by
    intro v hv
    have hall : ∀ k : Fin 22, (st0[k.val]!).oneCell' = true := by decide +kernel
    simp only [Builtin.zeroCells, Array.toList_map, List.mem_map] at hv
    obtain ⟨j, _, rfl⟩ := hv
    exact hall ⟨j % 22, Nat.mod_lt _ (by omega)⟩
  refine ⟨_, hzl, ?_⟩
  have hst := run_storeCells_at Tryz.prog g o 105 (Builtin.zeroCells (Value.agg st0).cells nn).toList 0 cur w hg (by rw [hzl]; omega) h1
  rw [hzl] at hst
  simp only [Nat.add_zero] at hst
  obtain ⟨k, rfl⟩ : ∃ k, nn = k + 1 := ⟨nn - 1, by omega⟩
  simp [Builtin.clear_, run_underlying Tryz.underlying107, hzv, hst]
set_option maxRecDepth 100000 in
set_option maxHeartbeats 2000000 in
theorem delete_any {w : World} {sb sc i : Nat} {ss : List (Sn × Nat)} (h : w.ownsRow 0 105 22 (.slice (some ⟨sb, 0, none⟩) ss.length sc) ss.length (svV ss)) (hi : i < ss.length) (hl : ss.length ≤ 1000) :
    Calls Tryz.prog 74 #[.slice (some ⟨sb, 0, none⟩) ss.length sc, .int .i64 (i : Int), .int .i64 (ss.length : Int)] w fun e w' => e = .returned (.slice (some ⟨sb, 0, none⟩) i sc) ∧ w'.ownsRow 0 105 22 (.slice (some ⟨sb, 0, none⟩) i sc) i (svV (ss.take i)) ∧ Upd (fun x => x = sb) w w' ∧ w'.heap.size = w.heap.size := by
  have hlen := h.1
  rcases h.2 with ⟨h2, _⟩ | ⟨g', cap', cur, e, hb0, hr, h3, h4, h5, h6⟩
  · cases h2
  · cases e
    obtain ⟨m, hm⟩ : ∃ m, ss.length = m := ⟨_, rfl⟩
    have hcl : ∃ Z : List Value, Z.length = (m - i) * 22 ∧ ∀ ty, (Builtin.clear_ #[107] ty #[.slice (some ⟨sb, i * 22, none⟩) (m - i) (sc - i)]).run Tryz.prog w.drew = .ok (.tuple #[]) (w.drew.setRow sb (cur.toList.take (i * 22) ++ Z ++ cur.toList.drop (i * 22 + (m - i) * 22)).toArray) := by
      obtain ⟨Z, hZ, hrun⟩ := clear_row w.drew sb (i * 22) (m - i) (sc - i) cur 0 hr (by omega) (by rw [← Nat.add_mul]; rw [h5]; exact Nat.mul_le_mul_right _ (by omega))
      exact ⟨Z, hZ, fun ty => hrun⟩
    obtain ⟨Z, hZ, hcl⟩ := hcl
    obtain ⟨W5, hW5⟩ : ∃ W5, w.drew.setRow sb (cur.toList.take (i * 22) ++ Z ++ cur.toList.drop (i * 22 + (m - i) * 22)).toArray = W5 := ⟨_, rfl⟩
    rw [hW5] at hcl
    have HE : Hid (W5.ownsRow 0 105 22 (.slice (some ⟨sb, 0, none⟩) i sc) i (svV (ss.take i)) ∧ Upd (fun x => x = sb) w W5 ∧ W5.heap.size = w.heap.size) := by
      rw [← hW5]
      refine ⟨⟨by rw [svV_len, List.length_take]; omega, .inr ⟨sb, sc, _, rfl, Nat.zero_le _, setRow_heap w.drew sb cur _ _ _ hr, by omega, h4, ?_, ?_⟩⟩, ⟨rfl, rfl, rfl, by rw [size_setRow]; exact Nat.le_refl _, fun k hk hs => by rw [setRow_other _ _ _ _ hs]; rfl⟩, by rw [size_setRow]; rfl⟩
      · have hcz : cur.toList.length = sc * 22 := by rw [Array.length_toList, h5]
        have hle : i * 22 + (m - i) * 22 ≤ sc * 22 := by rw [← Nat.add_mul]; exact Nat.mul_le_mul_right _ (by omega)
        simp only [List.size_toArray, List.length_append, List.length_take, List.length_drop, hZ, hcz]
        omega
      · have hcz : cur.toList.length = sc * 22 := by rw [Array.length_toList, h5]
        have hle : i * 22 ≤ sc * 22 := Nat.mul_le_mul_right _ (by omega)
        have hle2 : i * 22 ≤ ss.length * 22 := Nat.mul_le_mul_right _ (by omega)
        rw [List.append_assoc, List.take_append_of_le_length (by rw [List.length_take, hcz]; omega), List.take_take, Nat.min_self]
        have e : svV (ss.take i) = (svV ss).take (i * 22) := (fm_take stV_len ss i).symm
        rw [e, ← h6, List.take_take, Nat.min_eq_left hle2]
    have k1 : (i : Int) < (m : Int) := by omega
    have k2 : ¬ (i : Int) = (m : Int) := by omega
    have k3 : ((i : Int) == (m : Int)) = false := by simpa using k2
    have k4 : m ≤ sc := by omega
    have k5 : i ≤ sc := by omega
    have k6 : ¬ sc = i := by omega
    have k7 : i ≤ m := by omega
    have k8 : sc ≤ 9223372036854775807 := by unfold maxLen at h4; omega
    rw [hm]
    clear h hlen hr h3 h4 h5 h6 hZ hb0
    rw [hm] at hi hl
    by_cases hcm : sc = m
    · subst hcm
      go_enter Tryz.func74, Tryz.ntmps74
      go_wp2
      go_region
      go_wp2
      go_ret
      exact ⟨rfl, HE.out⟩
    · go_enter Tryz.func74, Tryz.ntmps74
      go_wp2
      go_region
      go_wp2
      go_ret
      exact ⟨rfl, HE.out⟩
end Go.Proofs.YtdgffocmdkadpaaGreat
namespace Go.Proofs.YtdgffocmdkadpaaGreat
open Go.RowKit Go.Shelf Pg
section
variable {jb : Nat} {good : Hd} {kv : Value} {tn : List Bool} {now : Hd} {mb : Nat} {sv : Value}
theorem pgL_state (now' : Hd) (mb' : Nat) : (pgL jb good kv tn now mb sv).take 39 ++ (hdL now' ++ [Value.map (some mb')]) ++ (pgL jb good kv tn now mb sv).drop (39 + 22) = pgL jb good kv tn now' mb' sv := by
  have e : ∀ (h : Hd) (m : Nat), pgL jb good kv tn h m sv = ([.pointer (some ⟨jb, 0, none⟩)] ++ (hdL good ++ ([kv] ++ setL tn))) ++ ((hdL h ++ [Value.map (some m)]) ++ [sv]) := fun h m => by simp [pgL]
  have hl : ([Value.pointer (some ⟨jb, 0, none⟩)] ++ (hdL good ++ ([kv] ++ setL tn))).length = 39 := by simp [hdL_len, setL_len]
  have hs : (hdL now ++ [Value.map (some mb)]).length = 22 := by simp [hdL_len]
  rw [e now mb, e now' mb']
  rw [← hl, List.take_left, List.drop_append, List.drop_eq_nil_of_le (by omega), List.nil_append, show ∀ a : Nat, a + 22 - a = 22 by omega, ← hs, List.drop_left, List.append_assoc]
theorem pgL_sv (sv' : Value) : (pgL jb good kv tn now mb sv).set 61 sv' = pgL jb good kv tn now mb sv' := by
  unfold pgL
  rw [List.set_append_right _ _ (by simp), List.set_append_right _ _ (by simp [hdL_len]), List.set_append_right _ _ (by simp [hdL_len]), List.set_append_right _ _ (by simp [hdL_len, setL_len]), List.set_append_right _ _ (by simp [hdL_len, setL_len])]
  have e : 61 - [Value.pointer (some ⟨jb, 0, none⟩)].length - (hdL good).length - [kv].length - (setL tn).length - (hdL now).length = 1 := by simp [hdL_len, setL_len]
  rw [e]
  rfl
theorem pgA_sv (sv' : Value) : (pgA jb good kv tn now mb sv).setIfInBounds 61 sv' = pgA jb good kv tn now mb sv' := by
  unfold pgA
  simp only [List.setIfInBounds_toArray]
  rw [pgL_sv]
end
theorem stA_one (h : Hd) (m : Nat) : ∀ v ∈ hdL h ++ [Value.map (some m)], v.oneCell' = true := stV_one (⟨h, Pm.none⟩, m)
theorem load_state (W : World) (g o : Nat) (h : Hd) (m : Nat) (cs : Array Value) (t : TypeId) (fr : Nat × Nat) (hg : W.heap[g]? = some (.cells cs t fr)) (hc : ∀ j v, (hdL h ++ [Value.map (some m)])[j]? = some v → cs[o + j]? = some v) : (loadVar 105 ⟨g, o, none⟩).run Tryz.prog W = .ok (.agg (stA h m)) W :=
  load_part W g o 105 _ cs t fr (hdL h ++ [Value.map (some m)]) hg Tryz.underlying105 rfl (by rw [show (hdL h ++ [Value.map (some m)]).length = 22 by simp [hdL_len]]; kernel_rfl) hc
section
variable {h0 : Nat} {F : Nat → Prop} {w : World} {S : Nat → Prop} {g : Nat} {D : Dk} {pb jb n kb kc mb : Nat} {sa : Option Addr} {sc : Nat} {ss : List (Sn × Nat)} {X : Px}
theorem Pl.store_now (h : Pl h0 F w S g D pb jb n kb kc mb sa sc ss X) (hd : Hd) (m : Nat) : (storeCells ⟨pb, 39, none⟩ (stA hd m).toList).run Tryz.prog w = .ok () (w.setRow pb (pgA jb X.good (.slice (some ⟨kb, 0, none⟩) n kc) (noT n) hd m (.slice sa ss.length sc))) := by
  have e : (stA hd m).toList = hdL hd ++ [Value.map (some m)] := rfl
  have hl : (hdL hd ++ [Value.map (some m)]).length = 22 := by simp [hdL_len]
  rw [e, run_storeCells_at Tryz.prog pb 39 109 (hdL hd ++ [Value.map (some m)]) 0 _ w h.c (by rw [hl, pgA_size]; omega) (stA_one hd m), hl]
  have e2 : (pgA jb X.good (.slice (some ⟨kb, 0, none⟩) n kc) (noT n) X.now.h mb (.slice sa ss.length sc)).toList = pgL jb X.good (.slice (some ⟨kb, 0, none⟩) n kc) (noT n) X.now.h mb (.slice sa ss.length sc) := rfl
  simp only [Nat.add_zero]
  rw [e2, pgL_state]
  rfl
/-- What Back does. -/
def Px.bck (X : Px) (k : Nat) (s : Sn) : Px := { X with now := s, saves := X.saves.take k }
theorem bck_ok (hok : X.Ok n) (k : Nat) (s : Sn) (hs : X.saves[k]? = some s) : (X.bck k s).Ok n :=
  { hok with now := hok.saves s (List.mem_of_getElem? hs), saves := fun t ht => hok.saves t (List.mem_of_mem_take ht), many := by show (X.saves.take k).length ≤ 16; rw [List.length_take]; have := hok.many; omega }
theorem Pl.turnB (h : Pl h0 F w S g D pb jb n kb kc mb sa sc ss X) {w' : World} {sb k : Nat} {p : Sn × Nat} (hsa : sa = some ⟨sb, 0, none⟩) (hk : ss[k]? = some p) (hc : w'.heap[pb]? = some (.cells (pgA jb X.good (.slice (some ⟨kb, 0, none⟩) n kc) (noT n) p.1.h p.2 (.slice sa k sc)) 109 (0, 0))) (ho : w'.ownsRow 0 105 22 (.slice sa k sc) k (svV (ss.take k))) (hu : Upd (fun x => x = pb ∨ x = sb) w w') (hs : w'.heap.size = w.heap.size) :
    Pl h0 F w' S g D pb jb n kb kc p.2 sa sc (ss.take k) (X.bck k p.1) ∧ Fr F w F w' ∧ Below h0 w w' := by
  have ap := h.apart
  have hl := h.lt
  have hkl := (List.getElem?_eq_some_iff.1 hk).1
  have hpm : p ∈ ss := List.mem_of_getElem? hk
  have hsb : Own pb kb mb sa ss sb := .inr (.inr (.inr (.inl (by rw [hsa]; rfl))))
  have hob : ob sa = some sb := by rw [hsa]; rfl
  have htl : (ss.take k).length = k := by rw [List.length_take]; omega
  have oth : ∀ x, x ≠ pb → x ≠ sb → x < w.heap.size → w'.heap[x]? = w.heap[x]? := fun x h1 h2 h3 => hu.block x h3 (fun e => e.elim h1 h2)
  have hsub : ∀ x, Own pb kb p.2 sa (ss.take k) x → Own pb kb mb sa ss x := by
    rintro x (e | e | e | e | e)
    · exact .inl e
    · exact .inr (.inl e)
    · exact .inr (.inr (.inr (.inr (by rw [e]; exact List.mem_map.2 ⟨p, hpm, rfl⟩))))
    · exact .inr (.inr (.inr (.inl e)))
    · obtain ⟨q, hq, rfl⟩ := List.mem_map.1 e
      exact .inr (.inr (.inr (.inr (List.mem_map.2 ⟨q, List.mem_of_mem_take hq, rfl⟩))))
  have hms : ∀ q ∈ ss, MapIs w' q.2 q.1.m := fun q hq => (h.sm q hq).keep (oth _ (ap.mp q hq) (fun e => ap.ms q hq (by rw [e]; exact hob)) (h.sm q hq).lt)
  obtain ⟨b1, b2, b3⟩ := h.ap pb (.inl rfl)
  obtain ⟨d1, d2, d3⟩ := h.ap sb hsb
  refine ⟨{ disk := h.disk.keep fun x hx => oth x (fun e => b1 (by rw [← e]; exact hx)) (fun e => d1 (by rw [← e]; exact hx)) (h.disk.bd x hx), jat := (oth jb (fun e => b2 e.symm) (fun e => d2 e.symm) h.jat.lt).trans h.jat, c := by rw [htl]; exact hc, k := own_keep h.k (fun x hx => by cases hx; exact oth kb ap.pk.symm (fun e => ap.sk (by rw [e]; exact hob)) (hl _ (.inr (.inl rfl)))), m := hms p hpm, s := by rw [htl]; exact ho, sx := ?_, sm := fun q hq => hms q (List.mem_of_mem_take hq), nd := ?_, ap := fun x hx => h.ap x (hsub x hx), fF := fun x hx => ?_, sj := h.sj, h0S := h.h0S, h0w := by rw [hs]; exact h.h0w, n2 := h.n2, n12 := h.n12 }, ⟨by omega, fun _ hx => hx, fun x hx hlx => oth x (fun e => (h.fF x hx).2.1 (by rw [e]; exact .inl rfl)) (fun e => (h.fF x hx).2.1 (by rw [e]; exact hsb)) hlx⟩, hu.below h.h0w (fun x hx => ?_)⟩
  · show X.saves.take k = (ss.take k).map Prod.fst
    rw [h.sx, List.map_take]
  · have hnd := (List.nodup_cons.1 h.nd).2
    rw [list_at hk] at hnd
    simp only [List.map_append, List.map_cons] at hnd
    rw [List.nodup_append] at hnd
    refine List.nodup_cons.2 ⟨fun hm => ?_, hnd.1⟩
    exact hnd.2.2 _ hm _ (List.mem_cons_self ..) rfl
  · have := h.fF x hx
    exact ⟨this.1, fun ho' => this.2.1 (hsub x ho'), this.2.2.1, by omega⟩
  · rcases hx with rfl | rfl
    · exact b3
    · exact d3
end
section
variable {h0 : Nat} {F : Nat → Prop} {w : World} {S : Nat → Prop} {g : Nat} {D : Dk} {pb jb n : Nat} {X : Px}
def BkTo (h0 : Nat) (F : Nat → Prop) (w : World) (g : Nat) (D : Dk) (pb jb n : Nat) (X : Px) (id : Int) (e : Ending) (w' : World) : Prop :=
  (∃ k s, id = ((k : Nat) : Int) ∧ X.saves[k]? = some s ∧ e = .returned (.int .i64 0) ∧ PTo h0 F w g D pb jb n (X.bck k s) w') ∨ ((id < 0 ∨ (X.saves.length : Int) ≤ id) ∧ e = .returned (.int .i64 6) ∧ PTo h0 F w g D pb jb n X w')
set_option maxRecDepth 100000 in
set_option maxHeartbeats 4000000 in
theorem pback_any (h : Pgr h0 F w S g D pb jb n X) (id : Int) : Calls Tryz.prog 25 #[.pointer (some ⟨pb, 0, none⟩), .int .i64 id] w fun e w' => BkTo h0 F w g D pb jb n X id e w' := by
  have HN : Hid (PTo h0 F w g D pb jb n X w) := PTo.below h (Below.refl _ _)
  obtain ⟨hok, kb, kc, mb, sa, sc, ss, hP⟩ := h
  obtain ⟨c0, c22, c39, c60, c61⟩ := hP.cells
  have hsl := hP.len
  have hmany := hok.many
  obtain ⟨m, hm⟩ : ∃ m, ss.length = m := ⟨_, rfl⟩
  rw [hm] at c61 hsl
  have HL : Hid (X.saves.length = m) := hsl.symm
  rw [← hsl] at hmany
  by_cases h1 : id < 0
  · clear hP hok hm hsl
    go_enter Tryz.func25, Tryz.ntmps25
    go_wp2
    go_ret
    exact .inr ⟨.inl h1, rfl, HN.out⟩
  · obtain ⟨k, rfl⟩ := Int.eq_ofNat_of_zero_le (show 0 ≤ id by omega)
    by_cases h2 : k < m
    · have kk : ¬ (m : Int) ≤ (k : Int) := by omega
      obtain ⟨p, hp⟩ : ∃ p, ss[k]? = some p := ⟨ss[k], List.getElem?_eq_getElem (by omega)⟩
      have hps : X.saves[k]? = some p.1 := by rw [hP.sx, List.getElem?_map, hp]; rfl
      obtain ⟨sb, cur, hsa, hsr, _⟩ : ∃ sb cur, sa = some ⟨sb, 0, none⟩ ∧ w.heap[sb]? = some (.cells cur 105 (0, 0)) ∧ True := by
        rcases hP.s.2 with ⟨h5, h6⟩ | ⟨g', cap', cur, e, hb0, hr, _⟩
        · omega
        · cases e
          exact ⟨g', cur, rfl, hr, trivial⟩
      subst hsa
      have hls : (loadVar 105 ⟨sb, k * 22, none⟩).run Tryz.prog w = .ok (.agg (stA p.1.h p.2)) w := load_state w sb (k * 22) p.1.h p.2 cur _ _ hsr (fun j v hv => by
        have hj : j < 22 := by have := (List.getElem?_eq_some_iff.1 hv).1; simp [hdL_len] at this; omega
        have := own_at hP.s (j := k * 22 + j) (u := v) (by unfold svV; rw [fm_at stV_len hp j hj]; exact hv)
        rwa [cell_of_row w sb _ _ _ _ hsr] at this)
      have hst := hP.store_now p.1.h p.2
      obtain ⟨W1, hW1⟩ : ∃ W1, w.setRow pb (pgA jb X.good (.slice (some ⟨kb, 0, none⟩) n kc) (noT n) p.1.h p.2 (.slice (some ⟨sb, 0, none⟩) ss.length sc)) = W1 := ⟨_, rfl⟩
      rw [hW1] at hst
      have hap := hP.apart
      have hsp : sb ≠ pb := fun e => hap.sp (by rw [e]; rfl)
      have hc1 : W1.heap[pb]? = some (.cells (pgA jb X.good (.slice (some ⟨kb, 0, none⟩) n kc) (noT n) p.1.h p.2 (.slice (some ⟨sb, 0, none⟩) ss.length sc)) 109 (0, 0)) := by rw [← hW1]; exact setRow_heap w pb _ _ _ _ hP.c
      have hs1 : W1.heap.size = w.heap.size := by rw [← hW1, size_setRow]
      have ho1 : ∀ x, x ≠ pb → W1.heap[x]? = w.heap[x]? := fun x hx => by rw [← hW1]; exact setRow_other w pb x _ hx
      have hrow1 : W1.drew.ownsRow 0 105 22 (.slice (some ⟨sb, 0, none⟩) ss.length sc) ss.length (svV ss) := own_keep hP.s (fun x hx => ho1 x (fun e => by rw [ob_slice] at hx; exact hap.sp (by rw [← e]; exact hx)))
      have HDE := delete_any hrow1 (i := k) (by omega) (by omega)
      have d61 : W1.cell? ⟨pb, 61, none⟩ = some (.slice (some ⟨sb, 0, none⟩) m sc) := by rw [cell_of_row W1 pb _ _ _ _ hc1, ← hm]; exact pgA_61
      have HP : Hid (Pl h0 F w S g D pb jb n kb kc mb (some ⟨sb, 0, none⟩) sc ss X ∧ ss[k]? = some p ∧ X.saves[k]? = some p.1 ∧ (X.bck k p.1).Ok n) := ⟨hP, hp, hps, bck_ok hok k p.1 hps⟩
      have HW1 : Hid (W1.heap[pb]? = some (.cells (pgA jb X.good (.slice (some ⟨kb, 0, none⟩) n kc) (noT n) p.1.h p.2 (.slice (some ⟨sb, 0, none⟩) ss.length sc)) 109 (0, 0)) ∧ W1.heap.size = w.heap.size ∧ sb ≠ pb ∧ Upd (fun x => x = pb) w W1) := ⟨hc1, hs1, hsp, by
        rw [← hW1]
        exact ⟨rfl, rfl, rfl, by rw [size_setRow]; exact Nat.le_refl _, fun x _ hx => setRow_other w pb x _ hx⟩⟩
      have hsz := stA_size p.1.h p.2
      have hcap : m ≤ sc ∧ sc ≤ 9223372036854775807 := by have := own_cap hP.s; unfold maxLen at this; omega
      rw [hm] at HDE
      have HD : Hid (Calls Tryz.prog 74 #[.slice (some ⟨sb, 0, none⟩) m sc, .int .i64 (k : Int), .int .i64 (m : Int)] W1.drew fun e w' => e = .returned (.slice (some ⟨sb, 0, none⟩) k sc) ∧ w'.ownsRow 0 105 22 (.slice (some ⟨sb, 0, none⟩) k sc) k (svV (ss.take k)) ∧ Upd (fun x => x = sb) W1.drew w' ∧ w'.heap.size = W1.drew.heap.size) := HDE
      have HF : Hid (∀ V, Upd (fun x => x = sb) W1.drew V → V.cell? ⟨pb, 61, none⟩ = some (.slice (some ⟨sb, 0, none⟩) m sc) ∧ V.frozen? ⟨pb, 61, none⟩ = false) := fun V hV => by
        have e := hV.block pb (by show pb < W1.heap.size; exact lt_of_some hc1) (fun e => hsp e.symm)
        have e2 : V.heap[pb]? = some _ := e.trans hc1
        refine ⟨?_, frozen_of_row V pb 61 _ _ e2⟩
        rw [cell_of_row V pb _ _ _ _ e2, ← hm]
        exact pgA_61
      clear hP hok hm hsl hp hps hsr hap hsp hc1 hs1 ho1 hrow1 HDE hW1 c0 c22 c39 c60
      go_enter Tryz.func25, Tryz.ntmps25
      go_wp2_with (refine wpList_load_w (by kernel_rfl) _ _ rfl rfl hls ?_)
      go_region_with (go_at_call 74; refine HD.out.mono ?_; rintro e V ⟨rfl, hV1, hV2, hV3⟩; obtain ⟨v61, f61⟩ := HF.out V hV2)
      all_goals
        have HE : Hid (PTo h0 F w g D pb jb n (X.bck k p.1) (V.setCell ⟨pb, 61, none⟩ (.slice (some ⟨sb, 0, none⟩) k sc))) := by
          obtain ⟨hP, hp, hps, hok2⟩ := HP.out
          obtain ⟨hc1, hs1, hsp, hu1⟩ := HW1.out
          have hVc : V.heap[pb]? = some _ := (hV2.block pb (by show pb < W1.heap.size; exact lt_of_some hc1) (fun e => hsp e.symm)).trans hc1
          have hc2 := heap_setCell_same V pb 61 _ _ (.slice (some ⟨sb, 0, none⟩) k sc) hVc
          rw [pgA_sv] at hc2
          have hrow2 : (V.setCell ⟨pb, 61, none⟩ (.slice (some ⟨sb, 0, none⟩) k sc)).ownsRow 0 105 22 (.slice (some ⟨sb, 0, none⟩) k sc) k (svV (ss.take k)) := own_keep hV1 (fun x hx => by cases hx; exact heap_setCell_other _ _ _ _ hsp)
          have hu2 : Upd (fun x => x = pb ∨ x = sb) w (V.setCell ⟨pb, 61, none⟩ (.slice (some ⟨sb, 0, none⟩) k sc)) := by
            refine Upd.setCell (p := ⟨pb, 61, none⟩) (Upd.trans (S := fun x => x = pb ∨ x = sb) ⟨hu1.os, hu1.tape, hu1.output, hu1.size, fun x hx hn => hu1.block x hx (fun e => hn (.inl e))⟩ (T := fun x => x = sb) ⟨hV2.os, hV2.tape, hV2.output, hV2.size, hV2.block⟩ (fun x hx _ => .inr hx)) (fun _ => .inl rfl) _
          have hT := hP.turnB rfl hp hc2 hrow2 hu2 (by rw [World.size_setCell, hV3]; exact hs1)
          exact ⟨F, S, ⟨hok2, kb, kc, p.2, _, sc, _, hT.1⟩, hT.2.1, hT.2.2⟩
        have HS : Hid (X.saves[k]? = some p.1) := HP.out.2.2.1
        clear HP HW1 HD HF hV1 hV2 hV3 v61 f61 hst hls d61 c61
        go_wp2
        go_ret
        exact .inl ⟨k, p.1, rfl, HS.out, rfl, HE.out⟩
    · have kk : (m : Int) ≤ (k : Int) := by omega
      clear hP hok hm hsl
      go_enter Tryz.func25, Tryz.ntmps25
      go_wp2
      go_ret
      exact .inr ⟨.inr (by rw [HL.out]; exact kk), rfl, HN.out⟩
end
end Go.Proofs.YtdgffocmdkadpaaGreat
