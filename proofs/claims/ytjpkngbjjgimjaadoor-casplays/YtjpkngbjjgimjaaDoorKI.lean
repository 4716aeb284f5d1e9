/- Walks over New and Put. -/
import Derived.Test.YtjpkngbjjgimjaaDoorKH
namespace Go.Proofs.YtjpkngbjjgimjaaDoor
open Go.RowKit
theorem new_no (v : Value) (n : Int) (w : World) (hv : v = .nilIface ∨ ∃ tb, v = .iface 27 (.pointer (some ⟨tb, 0, none⟩))) (hn : v = .nilIface ∨ n < 1 ∨ 32 < n) : Calls Tryd.prog 9 #[v, .int .i64 n] w fun e w' => e = .returned (.tuple #[.pointer none, .int .i64 1]) ∧ w' = w := by
  rcases hv with rfl | ⟨tb, rfl⟩
  · clear hn
    go_enter Tryd.func9, Tryd.ntmps9
    go_wp2
    refine bodyPost_ret (v := .tuple #[.pointer none, .int .i64 1]) ?_ rfl ⟨rfl, rfl⟩
    simp [results, go_sem]
  · by_cases h1 : n < 1
    · clear hn
      go_enter Tryd.func9, Tryd.ntmps9
      go_wp2
      refine bodyPost_ret (v := .tuple #[.pointer none, .int .i64 1]) ?_ rfl ⟨rfl, rfl⟩
      simp [results, go_sem]
    · have h2 : 32 < n := by rcases hn with e | e | e; (· cases e); (· exact absurd e h1); (· exact e)
      clear hn
      go_enter Tryd.func9, Tryd.ntmps9
      go_wp2
      refine bodyPost_ret (v := .tuple #[.pointer none, .int .i64 1]) ?_ rfl ⟨rfl, rfl⟩
      simp [results, go_sem]
theorem new_yes (tb W : Nat) (w : World) (h1 : 1 ≤ W) (h2 : W ≤ 32) : Calls Tryd.prog 9 #[.iface 27 (.pointer (some ⟨tb, 0, none⟩)), .int .i64 (W : Int)] w fun e w' => e = .returned (.tuple #[.pointer (some ⟨w.heap.size, 0, none⟩), .int .i64 0]) ∧ w' = w.alloc (.cells #[.iface 27 (.pointer (some ⟨tb, 0, none⟩)), .int .i64 (W : Int)] 71) := by
  have k1 : ¬ (W : Int) < 1 := by omega
  have k2 : ¬ (32 : Int) < (W : Int) := by omega
  go_enter Tryd.func9, Tryd.ntmps9
  go_wp2
  refine bodyPost_ret (v := .tuple #[.pointer (some ⟨w.heap.size, 0, none⟩), .int .i64 0]) ?_ rfl ⟨rfl, rfl⟩
  simp [results, go_sem]
theorem res_id {fn : Func} {p s : Tmp} (h : fn.results = #[.cell p 35, .tmp s]) (tmps : Array Value) (w : World) (g : Nat) (cs : Array Value) (hp : tmps.getD p undef = .pointer (some ⟨g, 0, none⟩)) (hg : w.heap[g]? = some (.cells cs 35 (0, 0))) (hi : (Tryd.prog.info? 35).map (·.size) = some cs.size) :
    (results fn tmps).run Tryd.prog w = .ok (.tuple #[.agg cs, tmps.getD s undef]) w := by
  have hp' : tmps[p]?.getD undef = .pointer (some ⟨g, 0, none⟩) := by simpa using hp
  have hl := run_loadVar_row (P := Tryd.prog) w g 35 35 cs (0, 0) _ hg Tryd.underlying35 rfl hi
  simp [results, h, hp', asAddr, hl]
theorem infoI : (Tryd.prog.info? 35).map (·.size) = some 2 := by kernel_rfl
theorem set2 {U : World} {g : Nat} {a b : Value} {t : TypeId} (h : U.heap[g]? = some (.cells #[a, b] t (0, 0))) (x0 x1 : Value) : ((U.setCell ⟨g, 0, none⟩ x0).setCell ⟨g, 1, none⟩ x1).heap[g]? = some (.cells #[x0, x1] t (0, 0)) := by
  have h1 : (U.setCell ⟨g, 0, none⟩ x0).heap[g]? = some (.cells #[x0, b] t (0, 0)) := by rw [heap_setCell_same _ _ _ _ _ _ h]; rfl
  rw [heap_setCell_same _ _ _ _ _ _ h1]
  rfl
theorem put_id_nil (data : ByteArray) (w : World) : Calls Tryd.prog 14 #[.pointer none, .string data] w fun e w' => e = .returned (.tuple #[.agg #[.string ⟨#[]⟩, .int .i64 0], .int .i64 1]) ∧ Below w.heap.size w w' := by
  obtain ⟨W1, hW1⟩ : ∃ W1, w.alloc (.cells #[.string ⟨#[]⟩, .int .i64 0] 35) = W1 := ⟨_, rfl⟩
  obtain ⟨rb, hrb⟩ : ∃ rb, w.heap.size = rb := ⟨_, rfl⟩
  have r1 : W1.heap[rb]? = some (.cells #[.string ⟨#[]⟩, .int .i64 0] 35 (0, 0)) := by rw [← hW1, ← hrb]; exact heap_alloc_new w _
  have hb1 : Below w.heap.size w W1 := by rw [← hW1]; exact (Below.refl _ w).alloc (Nat.le_refl _) _
  have z0 : W1.cell? ⟨rb, 0, none⟩ = some (.string ⟨#[]⟩) := by rw [cell_of_row _ _ _ _ _ _ r1]; rfl
  have z1 : W1.cell? ⟨rb, 1, none⟩ = some (.int .i64 0) := by rw [cell_of_row _ _ _ _ _ _ r1]; rfl
  have e0 := frozen_of_row W1 rb 0 _ _ r1
  have e1 := frozen_of_row W1 rb 1 _ _ r1
  have HX : Hid (W1.heap[rb]? = some (.cells #[.string ⟨#[]⟩, .int .i64 0] 35 (0, 0)) ∧ Below w.heap.size w W1) := ⟨r1, hb1⟩
  clear r1 hb1
  go_enter Tryd.func14, Tryd.ntmps14
  go_wp2
  refine bodyPost_ret (v := .tuple #[.agg #[.string ⟨#[]⟩, .int .i64 0], .int .i64 1]) ?_ rfl ⟨rfl, (HX.out.2.setCell (by show _ ≤ rb; omega) _).setCell (by show _ ≤ rb; omega) _⟩
  exact res_id (fn := Tryd.f14) (p := 4) (s := 5) (by rfl) _ _ rb _ (by rfl) (set2 HX.out.1 _ _) infoI
theorem parse_ok {W : Nat} {p : Pr} {c : Cn} (h : parseF W p = some c) : c.sum.size ≤ W ∧ c.refs < 4294967296 ∧ c.data.size ≤ 128 ∧ c.n < 256 ∧ 1 ≤ c.refs := by
  unfold parseF at h
  split at h
  · rename_i hh
    cases h
    have h5 := beU_lt p.2 4
    refine ⟨?_, by simpa using h5, ?_, UInt8.toNat_lt _, by have := hh.2.2.2; show 1 ≤ beU p.2 4; omega⟩
    · show (p.1.extract 1 (W + 1)).size ≤ W
      rw [ByteArray.size_extract]
      omega
    · show (p.2.extract 4 p.2.size).size ≤ 128
      rw [ByteArray.size_extract]
      omega
  · cases h
theorem alike_ok {W : Nat} {T : List Pr} {sum : ByteArray} {c : Cn} (h : c ∈ alikeL W T sum) : ∃ p, p ∈ T ∧ parseF W p = some c := by
  unfold alikeL betw at h
  split at h
  · obtain ⟨p, hp, hc⟩ := List.mem_filterMap.1 h
    rw [range_mid] at hp
    exact ⟨p, (mid_mem (List.mem_of_mem_take hp)).1, hc⟩
  · simp at h
theorem namedL_ok {data : ByteArray} : ∀ (l : List Cn) (f : Cn), (namedL data l f ∈ l ∧ (namedL data l f).data = data) ∨ ((namedL data l f).sum = f.sum ∧ (namedL data l f).refs = f.refs ∧ (namedL data l f).data = f.data)
  | [], f => .inr ⟨rfl, rfl, rfl⟩
  | c :: l, f => by
    unfold namedL
    split
    · rename_i h
      exact .inl ⟨List.mem_cons_self .., h⟩
    · rcases namedL_ok (data := data) l (if c.n = f.n then { f with n := f.n + 1 } else f) with h | h
      · exact .inl ⟨List.mem_cons_of_mem _ h.1, h.2⟩
      · right
        by_cases hcn : c.n = f.n
        · rw [if_pos hcn] at h ⊢
          exact h
        · rw [if_neg hcn] at h ⊢
          exact h
theorem named_ok (W : Nat) (hW : W ≤ 32) (T : List Pr) (data : ByteArray) (hd : data.size ≤ 128) : (namedF W T data).sum.size ≤ 1000000 ∧ (namedF W T data).refs < 4294967296 ∧ (namedF W T data).data.size ≤ 1000000 := by
  unfold namedF
  rcases namedL_ok (data := data) (alikeL W T (digW W data)) ⟨digW W data, 0, 0, data⟩ with h | ⟨h1, h2, h3⟩
  · obtain ⟨p, _, hp⟩ := alike_ok h.1
    have := parse_ok hp
    omega
  · rw [h1, h2, h3]
    have := digW_size W hW data
    simp only
    omega
/-- What Put tells and leaves. -/
def PuTo (h0 : Nat) (F : Nat → Prop) (w : World) (st tb W : Nat) (full : Int) (T : List Pr) (data : ByteArray) (e : Ending) (w' : World) : Prop :=
  ∃ F', Fr F w F' w' ∧ Below h0 w w' ∧ (if data.size ≤ 128 ∧ (namedF W T data).n < 256 ∧ (namedF W T data).refs ≠ 4294967295 ∧ roomT T full (keyB (namedF W T data).sum (namedF W T data).n) = true then e = .returned (.tuple #[.agg #[.string (namedF W T data).sum, .int .i64 ((namedF W T data).n : Int)], .int .i64 0]) ∧ Cs h0 F' w' st tb W full (putT T (keyB (namedF W T data).sum (namedF W T data).n) (valB ((namedF W T data).refs + 1) (namedF W T data).data)) else e = .returned (.tuple #[.agg #[.string ⟨#[]⟩, .int .i64 0], .int .i64 (if data.size ≤ 128 then 5 else 2)]) ∧ Cs h0 F' w' st tb W full T)
theorem Cs.other {h0 : Nat} {F : Nat → Prop} {w w' : World} {st tb W : Nat} {full : Int} {T : List Pr} (h : Cs h0 F w st tb W full T) (hs : w'.heap.size = w.heap.size) (h1 : w'.heap[st]? = w.heap[st]?) (h2 : w'.heap[tb]? = w.heap[tb]?) (hk : ∀ (b : Nat) (cur : Array Value) (fr : Nat × Nat), w.heap[b]? = some (Obj.cells cur 63 fr) → w'.heap[b]? = w.heap[b]?) : Cs h0 F w' st tb W full T := by
  obtain ⟨a, n, c, k1, k2⟩ := h.tat
  exact { h with stat := h1.trans h.stat, tat := ⟨a, n, c, h2.trans k1, k2.other hk⟩, fF := fun x hx => by have := h.fF x hx; exact ⟨this.1, by omega⟩, h0w := by rw [hs]; exact h.h0w }
theorem put_fin {h0 : Nat} {F F3 : Nat → Prop} {w V3 : World} {st tb W rb : Nat} {full : Int} {T' : List Pr} {cs : Array Value} (hF : Fr F w F3 V3) (hB : Below h0 w V3) (hc : Cs h0 F3 V3 st tb W full T') (hr : V3.heap[rb]? = some (.cells cs 35 (0, 0))) (hrb : w.heap.size ≤ rb) (h0w : h0 ≤ w.heap.size) (x0 x1 : Value) :
    Fr F w F3 ((V3.setCell ⟨rb, 0, none⟩ x0).setCell ⟨rb, 1, none⟩ x1) ∧ Below h0 w ((V3.setCell ⟨rb, 0, none⟩ x0).setCell ⟨rb, 1, none⟩ x1) ∧ Cs h0 F3 ((V3.setCell ⟨rb, 0, none⟩ x0).setCell ⟨rb, 1, none⟩ x1) st tb W full T' := by
  have hof : ∀ k, k ≠ rb → ((V3.setCell ⟨rb, 0, none⟩ x0).setCell ⟨rb, 1, none⟩ x1).heap[k]? = V3.heap[k]? := fun k hk => (Below.heap_setCell _ _ _ _ hk).trans (Below.heap_setCell _ _ _ _ hk)
  have hsz : ((V3.setCell ⟨rb, 0, none⟩ x0).setCell ⟨rb, 1, none⟩ x1).heap.size = V3.heap.size := by simp
  have hst : st ≠ rb := fun e => by
    have h5 := hc.stat
    rw [e, hr] at h5
    cases h5
  have htb : tb ≠ rb := fun e => by
    obtain ⟨a, n, c, h5, _⟩ := hc.tat
    rw [e, hr] at h5
    cases h5
  refine ⟨⟨by rw [hsz]; exact hF.sz, hF.sub, fun x hx hl => ?_⟩, ?_, hc.other hsz (hof st hst) (hof tb htb) (fun b cur fr hb => hof b (fun e => ?_))⟩
  · rw [hof x (by omega)]
    exact hF.blk x hx hl
  · exact (hB.setCell (by show _ ≤ rb; omega) _).setCell (by show _ ≤ rb; omega) _
  · rw [e, hr] at hb
    cases hb
section
variable {h0 : Nat} {F : Nat → Prop} {w : World} {st tb W : Nat} {full : Int} {T : List Pr}
set_option maxRecDepth 100000 in
set_option maxHeartbeats 4000000 in
theorem putc_any (h : Cs h0 F w st tb W full T) (hW : W ≤ 32) (hL : Laid w) (hlt : T.length < 90000) (data : ByteArray) : Calls Tryd.prog 14 #[.pointer (some ⟨st, 0, none⟩), .string data] w fun e w' => PuTo h0 F w st tb W full T data e w' := by
  obtain ⟨W1, hW1⟩ : ∃ W1, w.alloc (.cells #[.string ⟨#[]⟩, .int .i64 0] 35) = W1 := ⟨_, rfl⟩
  obtain ⟨rb, hrb⟩ : ∃ rb, w.heap.size = rb := ⟨_, rfl⟩
  have r1 : W1.heap[rb]? = some (.cells #[.string ⟨#[]⟩, .int .i64 0] 35 (0, 0)) := by rw [← hW1, ← hrb]; exact heap_alloc_new w _
  have hb1 : Below w.heap.size w W1 := by rw [← hW1]; exact (Below.refl _ w).alloc (Nat.le_refl _) _
  have h1 := h.below hb1
  have hrst : rb ≠ st ∧ rb ≠ tb := by
    obtain ⟨a, n, c, h5, _⟩ := h.tat
    have := lt_of_some h.stat
    have := lt_of_some h5
    omega
  have HCS : Hid (Cs h0 F w st tb W full T ∧ Laid w) := ⟨h, hL⟩
  by_cases hd : data.size ≤ 128
  · have kd : ¬ (128 : Int) < (data.size : Int) := by omega
    have HNM := named_any h1 hW (hL.below hb1) data (by omega)
    unfold NmTo at HNM
    have hok := named_ok W hW T data hd
    obtain ⟨⟨s1, n1, f1, t1⟩, hc⟩ : ∃ c, namedF W T data = c := ⟨_, rfl⟩
    have HPT : Hid (∀ e w', (∃ F', Fr F w F' w' ∧ Below h0 w w' ∧ (if n1 < 256 ∧ f1 ≠ 4294967295 ∧ roomT T full (keyB s1 n1) = true then e = .returned (.tuple #[.agg #[.string s1, .int .i64 (n1 : Int)], .int .i64 0]) ∧ Cs h0 F' w' st tb W full (putT T (keyB s1 n1) (valB (f1 + 1) t1)) else e = .returned (.tuple #[.agg #[.string ⟨#[]⟩, .int .i64 0], .int .i64 5]) ∧ Cs h0 F' w' st tb W full T)) → PuTo h0 F w st tb W full T data e w') := fun e w' ⟨F', k1, k2, k3⟩ => by
      refine ⟨F', k1, k2, ?_⟩
      rw [hc]
      by_cases hcc : n1 < 256 ∧ f1 ≠ 4294967295 ∧ roomT T full (keyB s1 n1) = true
      · rw [if_pos hcc] at k3
        rw [if_pos ⟨hd, hcc⟩]
        exact k3
      · rw [if_neg hcc] at k3
        rw [if_neg (fun hh => hcc hh.2), if_pos hd]
        exact k3
    rw [hc] at HNM hok
    simp only at hok
    have HNM : Calls Tryd.prog 29 #[.pointer (some ⟨st, 0, none⟩), .string data] W1 fun e w' => e = .returned (.agg #[.string s1, .int .i64 (n1 : Int), .int .u32 (f1 : Int), .string t1]) ∧ Below W1.heap.size W1 w' := HNM
    have HB1 : Hid (Below w.heap.size w W1 ∧ W1.heap[rb]? = some (.cells #[.string ⟨#[]⟩, .int .i64 0] 35 (0, 0)) ∧ Cs h0 (mor F w W1) W1 st tb W full T) := ⟨hb1, r1, h1⟩
    clear h hL r1 hb1 h1 hc hd
    go_enter Tryd.func14, Tryd.ntmps14
    go_wp2_with fail
    refine HNM.mono ?_
    rintro e V1 ⟨rfl, hb⟩
    obtain ⟨V2, hV2⟩ : ∃ V2, V1.alloc (.cells #[.string s1, .int .i64 (n1 : Int), .int .u32 (f1 : Int), .string t1] 78) = V2 := ⟨_, rfl⟩
    obtain ⟨cb, hcb⟩ : ∃ cb, V1.heap.size = cb := ⟨_, rfl⟩
    have r2 : V2.heap[cb]? = some (.cells #[.string s1, .int .i64 (n1 : Int), .int .u32 (f1 : Int), .string t1] 78 (0, 0)) := by rw [← hV2, ← hcb]; exact heap_alloc_new V1 _
    have hb2 : Below W1.heap.size W1 V2 := by rw [← hV2]; exact hb.alloc hb.size _
    have d0 : V2.cell? ⟨cb, 0, none⟩ = some (.string s1) := by rw [cell_of_row _ _ _ _ _ _ r2]; rfl
    have d1 : V2.cell? ⟨cb, 1, none⟩ = some (.int .i64 (n1 : Int)) := by rw [cell_of_row _ _ _ _ _ _ r2]; rfl
    have d2 : V2.cell? ⟨cb, 2, none⟩ = some (.int .u32 (f1 : Int)) := by rw [cell_of_row _ _ _ _ _ _ r2]; rfl
    have d3 : V2.cell? ⟨cb, 3, none⟩ = some (.string t1) := by rw [cell_of_row _ _ _ _ _ _ r2]; rfl
    have hr2 := (hb2.block rb (lt_of_some HB1.out.2.1)).trans HB1.out.2.1
    have hcs2 := HB1.out.2.2.below hb2
    have hrb2 : rb < cb := by have := lt_of_some HB1.out.2.1; have := hb.size; omega
    have hcw : W1.heap.size ≤ cb := by have := hb.size; omega
    have HR2 : Hid (V2.heap[rb]? = some (.cells #[.string ⟨#[]⟩, .int .i64 0] 35 (0, 0)) ∧ V2.heap[cb]? = some (.cells #[.string s1, .int .i64 (n1 : Int), .int .u32 (f1 : Int), .string t1] 78 (0, 0)) ∧ Cs h0 (mor (mor F w W1) W1 V2) V2 st tb W full T ∧ Below W1.heap.size W1 V2) := ⟨hr2, r2, hcs2, hb2⟩
    by_cases hn : n1 < 256
    · have kn : ¬ (256 : Int) ≤ (n1 : Int) := by omega
      have HMO := more_any hcs2 hlt s1 n1 f1 t1 hok.1 hn hok.2.1 hok.2.2
      clear HNM hb r2 hb2 hr2 hcs2 hW1
      go_wp2_with fail
      refine HMO.mono ?_
      intro e V3 hmo
      clear hV2
      have hmo2 : ∃ (ee : Int) (F3 : Nat → Prop), e = .returned (.int .i64 ee) ∧ Fr (mor (mor F w W1) W1 V2) V2 F3 V3 ∧ Below h0 V2 V3 ∧ (if f1 ≠ 4294967295 ∧ roomT T full (keyB s1 n1) = true then ee = 0 ∧ Cs h0 F3 V3 st tb W full (putT T (keyB s1 n1) (valB (f1 + 1) t1)) else ee = 5 ∧ Cs h0 F3 V3 st tb W full T) := by
        unfold MoTo at hmo
        by_cases hm : f1 = 4294967295
        · rw [if_pos hm] at hmo
          obtain ⟨F3, k1, k2, k3, k4⟩ := hmo
          exact ⟨5, F3, k1, k3, k4, by rw [if_neg (fun hh => hh.1 hm)]; exact ⟨rfl, k2⟩⟩
        · rw [if_neg hm] at hmo
          obtain ⟨F3, k1, k3, k4⟩ := hmo
          simp only at k1
          by_cases hr : roomT T full (keyB s1 n1) = true
          · rw [if_pos hr] at k1
            exact ⟨0, F3, k1.1, k3, k4, by rw [if_pos ⟨hm, hr⟩]; exact ⟨rfl, k1.2⟩⟩
          · rw [if_neg hr] at k1
            exact ⟨5, F3, k1.1, k3, k4, by rw [if_neg (fun hh => hr hh.2)]; exact ⟨rfl, k1.2⟩⟩
      obtain ⟨ee, F3, rfl, hf3, hb3, hif⟩ := hmo2
      have hFr : mor (mor F w W1) W1 V2 rb := .inl (.inr ⟨by omega, lt_of_some HB1.out.2.1⟩)
      have hFc : mor (mor F w W1) W1 V2 cb := .inr ⟨hcw, lt_of_some HR2.out.2.1⟩
      have hr3 := (hf3.blk rb hFr (lt_of_some HR2.out.1)).trans HR2.out.1
      have hc3 := (hf3.blk cb hFc (lt_of_some HR2.out.2.1)).trans HR2.out.2.1
      have g0 : V3.cell? ⟨cb, 0, none⟩ = some (.string s1) := by rw [cell_of_row _ _ _ _ _ _ hc3]; rfl
      have g1 : V3.cell? ⟨cb, 1, none⟩ = some (.int .i64 (n1 : Int)) := by rw [cell_of_row _ _ _ _ _ _ hc3]; rfl
      have z0 : V3.cell? ⟨rb, 0, none⟩ = some (.string ⟨#[]⟩) := by rw [cell_of_row _ _ _ _ _ _ hr3]; rfl
      have z1 : V3.cell? ⟨rb, 1, none⟩ = some (.int .i64 0) := by rw [cell_of_row _ _ _ _ _ _ hr3]; rfl
      have e0 := frozen_of_row V3 rb 0 _ _ hr3
      have e1 := frozen_of_row V3 rb 1 _ _ hr3
      have HR3 : Hid (V3.heap[rb]? = some (.cells #[.string ⟨#[]⟩, .int .i64 0] 35 (0, 0))) := hr3
      have hF3 : Fr F w F3 V3 := ((Fr.below HB1.out.1).trans (Fr.below HR2.out.2.2.2)).trans hf3
      have hB3 : Below h0 w V3 := ((HB1.out.1.mono HCS.out.1.h0w).trans (HR2.out.2.2.2.mono HB1.out.2.2.h0w)).trans hb3
      by_cases hcc : f1 ≠ 4294967295 ∧ roomT T full (keyB s1 n1) = true
      · rw [if_pos hcc] at hif
        obtain ⟨rfl, hcs3⟩ := hif
        have HFB : Hid (Fr F w F3 V3 ∧ Below h0 w V3 ∧ Cs h0 F3 V3 st tb W full (putT T (keyB s1 n1) (valB (f1 + 1) t1))) := ⟨hF3, hB3, hcs3⟩
        have HCC : Hid (f1 ≠ 4294967295 ∧ roomT T full (keyB s1 n1) = true) := hcc
        clear hcc hmo hf3 hb3 hr3 hc3 hF3 hB3 hcs3 d0 d1 d2 d3
        go_wp2
        refine bodyPost_ret (v := .tuple #[.agg #[.string s1, .int .i64 (n1 : Int)], .int .i64 0]) ?_ rfl ?_
        · exact res_id (fn := Tryd.f14) (p := 4) (s := 5) (by rfl) _ _ rb _ (by rfl) (set2 HR3.out _ _) infoI
        · have hfin := put_fin HFB.out.1 HFB.out.2.1 HFB.out.2.2 HR3.out (by omega) HCS.out.1.h0w (.string s1) (.int .i64 (n1 : Int))
          refine HPT.out _ _ ⟨F3, hfin.1, hfin.2.1, ?_⟩
          rw [if_pos ⟨hn, HCC.out⟩]
          exact ⟨rfl, hfin.2.2⟩
      · rw [if_neg hcc] at hif
        obtain ⟨rfl, hcs3⟩ := hif
        have HFB : Hid (Fr F w F3 V3 ∧ Below h0 w V3 ∧ Cs h0 F3 V3 st tb W full T) := ⟨hF3, hB3, hcs3⟩
        have HCC : Hid (¬ (f1 ≠ 4294967295 ∧ roomT T full (keyB s1 n1) = true)) := hcc
        clear hcc hmo hf3 hb3 hr3 hc3 hF3 hB3 hcs3 d0 d1 d2 d3
        go_wp2
        refine bodyPost_ret (v := .tuple #[.agg #[.string ⟨#[]⟩, .int .i64 0], .int .i64 5]) ?_ rfl ?_
        · exact res_id (fn := Tryd.f14) (p := 4) (s := 5) (by rfl) _ _ rb _ (by rfl) (set2 HR3.out _ _) infoI
        · have hfin := put_fin HFB.out.1 HFB.out.2.1 HFB.out.2.2 HR3.out (by omega) HCS.out.1.h0w (.string ⟨#[]⟩) (.int .i64 0)
          refine HPT.out _ _ ⟨F3, hfin.1, hfin.2.1, ?_⟩
          rw [if_neg (fun hh => HCC.out hh.2)]
          exact ⟨rfl, hfin.2.2⟩
    · have kn : (256 : Int) ≤ (n1 : Int) := by omega
      have z0 : V2.cell? ⟨rb, 0, none⟩ = some (.string ⟨#[]⟩) := by rw [cell_of_row _ _ _ _ _ _ hr2]; rfl
      have z1 : V2.cell? ⟨rb, 1, none⟩ = some (.int .i64 0) := by rw [cell_of_row _ _ _ _ _ _ hr2]; rfl
      have e0 := frozen_of_row V2 rb 0 _ _ hr2
      have e1 := frozen_of_row V2 rb 1 _ _ hr2
      have HR3 : Hid (V2.heap[rb]? = some (.cells #[.string ⟨#[]⟩, .int .i64 0] 35 (0, 0))) := hr2
      have HFB : Hid (Fr F w (mor (mor F w W1) W1 V2) V2 ∧ Below h0 w V2 ∧ Cs h0 (mor (mor F w W1) W1 V2) V2 st tb W full T) := ⟨(Fr.below HB1.out.1).trans (Fr.below hb2), (HB1.out.1.mono HCS.out.1.h0w).trans (hb2.mono HB1.out.2.2.h0w), hcs2⟩
      clear HNM hb r2 hb2 hr2 hcs2 hW1
      go_wp2
      refine bodyPost_ret (v := .tuple #[.agg #[.string ⟨#[]⟩, .int .i64 0], .int .i64 5]) ?_ rfl ?_
      · exact res_id (fn := Tryd.f14) (p := 4) (s := 5) (by rfl) _ _ rb _ (by rfl) (set2 HR3.out _ _) infoI
      · have hfin := put_fin HFB.out.1 HFB.out.2.1 HFB.out.2.2 HR3.out (by omega) HCS.out.1.h0w (.string ⟨#[]⟩) (.int .i64 0)
        refine HPT.out _ _ ⟨_, hfin.1, hfin.2.1, ?_⟩
        rw [if_neg (fun hh => hn hh.1)]
        exact ⟨rfl, hfin.2.2⟩
  · have kd : (128 : Int) < (data.size : Int) := by omega
    have z0 : W1.cell? ⟨rb, 0, none⟩ = some (.string ⟨#[]⟩) := by rw [cell_of_row _ _ _ _ _ _ r1]; rfl
    have z1 : W1.cell? ⟨rb, 1, none⟩ = some (.int .i64 0) := by rw [cell_of_row _ _ _ _ _ _ r1]; rfl
    have e0 := frozen_of_row W1 rb 0 _ _ r1
    have e1 := frozen_of_row W1 rb 1 _ _ r1
    have HR3 : Hid (W1.heap[rb]? = some (.cells #[.string ⟨#[]⟩, .int .i64 0] 35 (0, 0))) := r1
    have HFB : Hid (Fr F w (mor F w W1) W1 ∧ Below h0 w W1 ∧ Cs h0 (mor F w W1) W1 st tb W full T) := ⟨Fr.below hb1, hb1.mono h.h0w, h1⟩
    clear h hL r1 hb1 h1
    go_enter Tryd.func14, Tryd.ntmps14
    go_wp2
    refine bodyPost_ret (v := .tuple #[.agg #[.string ⟨#[]⟩, .int .i64 0], .int .i64 2]) ?_ rfl ?_
    · exact res_id (fn := Tryd.f14) (p := 4) (s := 5) (by rfl) _ _ rb _ (by rfl) (set2 HR3.out _ _) infoI
    · have hfin := put_fin HFB.out.1 HFB.out.2.1 HFB.out.2.2 HR3.out (by omega) HCS.out.1.h0w (.string ⟨#[]⟩) (.int .i64 0)
      refine ⟨_, hfin.1, hfin.2.1, ?_⟩
      rw [if_neg (fun hh => hd hh.1), if_neg hd]
      exact ⟨rfl, hfin.2.2⟩
end
end Go.Proofs.YtjpkngbjjgimjaaDoor
