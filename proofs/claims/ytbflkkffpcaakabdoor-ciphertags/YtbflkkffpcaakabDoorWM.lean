/- Walks over the program's New and Next. -/
import Derived.Test.YtbflkkffpcaakabDoorWL
import Derived.Laws.MakeOwn
namespace Go.Proofs.YtbflkkffpcaakabDoor
open Go.RowKit
theorem numbered_0 (key nonce : List UInt8) (hk : key.length = 32) : numbered (firstL key nonce) 0 = firstL key nonce := by
  have h := words_num key nonce 0 hk (by omega)
  unfold numbered
  rw [Nat.zero_mod, ← h]
  rfl
theorem list16 (l : List Nat) (h : l.length = 16) : ∃ a0 a1 a2 a3 a4 a5 a6 a7 a8 a9 a10 a11 a12 a13 a14 a15, l = [a0, a1, a2, a3, a4, a5, a6, a7, a8, a9, a10, a11, a12, a13, a14, a15] := by
  match l, h with
  | [a0, a1, a2, a3, a4, a5, a6, a7, a8, a9, a10, a11, a12, a13, a14, a15], _ => exact ⟨_, _, _, _, _, _, _, _, _, _, _, _, _, _, _, _, rfl⟩
theorem built_st0 (a0 a1 a2 a3 a4 a5 a6 a7 a8 a9 a10 a11 a12 a13 a14 a15 : Nat) : Tryd.prog.built 49 [(0, .agg (u32v [a0, a1, a2, a3, a4, a5, a6, a7, a8, a9, a10, a11, a12, a13, a14, a15])), (2, .int .i64 64)] = some (hcells [a0, a1, a2, a3, a4, a5, a6, a7, a8, a9, a10, a11, a12, a13, a14, a15] zeros64 64) := by kernel_rfl
theorem built_st (f : List Nat) (hf : f.length = 16) : Tryd.prog.built 49 [(0, .agg (u32v f)), (2, .int .i64 64)] = some (hcells f zeros64 64) := by
  obtain ⟨a0, a1, a2, a3, a4, a5, a6, a7, a8, a9, a10, a11, a12, a13, a14, a15, rfl⟩ := list16 f hf
  exact built_st0 _ _ _ _ _ _ _ _ _ _ _ _ _ _ _ _
theorem wpList_build_st {ops : Array Oper} {rs : List Oper} {o : Oper} {a : Act} {w : World} {Q : Exit → Act → World → Prop} (f : List Nat) (hf : f.length = 16) (hg : o.guard = none) (x : Operand) (ho : o.op = .build 49 #[(0, x), (2, .const (.int .i64 64))]) (hx : a.eval x = .agg (u32v f))
    (h : wpList Tryd.prog ops Q rs (a.put o.dst (.agg (hcells f zeros64 64))) w) : wpList Tryd.prog ops Q (o :: rs) a w := by
  have e : Tryd.prog.built 49 ((#[(0, x), (2, .const (.int .i64 64))] : Array (Nat × Operand)).map fun (i, x) => (i, a.eval x)).toList = some (hcells f zeros64 64) := by
    simp only [List.map_toArray, List.map_cons, List.map_nil, hx]
    exact built_st f hf
  refine wpList_build hg 49 _ ho (by rw [e]; rfl) ?_
  rw [e]
  exact h
set_option maxRecDepth 100000 in
theorem new_no (key nonce : ByteArray) (w : World) (h : ¬ (key.size = 32 ∧ nonce.size = 12)) (hk : key.size ≤ 140737488351232) :
    Calls Tryd.prog 13 #[.string key, .string nonce] w fun e w' => e = .returned (.tuple #[.pointer none, .int .i64 1]) ∧ w' = w := by
  have HF := fits_no key nonce w h hk
  clear h hk
  go_enter Tryd.func13, Tryd.ntmps13
  go_wp2_with fail
  refine HF.mono ?_
  rintro e w' ⟨rfl, hw'⟩
  subst w'
  clear HF
  go_wp2
  refine bodyPost_ret (v := .tuple #[.pointer none, .int .i64 1]) ?_ rfl ⟨rfl, rfl⟩
  simp [results, go_sem]
set_option maxRecDepth 100000 in
set_option maxHeartbeats 2000000 in
theorem snew_any (key nonce : ByteArray) (w : World) (hk : key.size = 32) (hn : nonce.size = 12) :
    Calls Tryd.prog 13 #[.string key, .string nonce] w fun e w' => ∃ g, e = .returned (.tuple #[.pointer (some ⟨g, 0, none⟩), .int .i64 0]) ∧ w.heap.size ≤ g ∧ StAt w' g (firstL key.data.toList nonce.data.toList) 0 ∧ Below w.heap.size w w' := by
  have HF := fits_yes key nonce w hk hn
  have HW := first_any key nonce w hk hn
  have h0 := numbered_0 key.data.toList nonce.data.toList (by show key.size = 32; exact hk)
  obtain ⟨f, hf⟩ : ∃ f, firstL key.data.toList nonce.data.toList = f := ⟨_, rfl⟩
  rw [hf] at HW h0
  have hfl : f.length = 16 := by rw [← hf, firstL_len]
  have HX : Hid (f.length = 16 ∧ numbered f 0 = f) := ⟨hfl, h0⟩
  rw [hf]
  clear hf hfl hk hn h0
  go_enter Tryd.func13, Tryd.ntmps13
  go_wp2_with fail
  refine HF.mono ?_
  rintro e w' ⟨rfl, hw'⟩
  subst w'
  clear HF
  go_wp2_with fail
  refine HW.mono ?_
  rintro e V ⟨rfl, hbV⟩
  obtain ⟨G, hG⟩ : ∃ G, V.heap.size = G := ⟨_, rfl⟩
  have HV : Hid (Below w.heap.size w V ∧ V.heap.size = G) := ⟨hbV, hG⟩
  clear HW hbV
  go_wp2_with (refine wpList_build_st f HX.out.1 rfl _ rfl rfl ?_)
  refine bodyPost_ret (v := .tuple #[.pointer (some ⟨G, 0, none⟩), .int .i64 0]) ?_ rfl ⟨G, rfl, by rw [← HV.out.2]; exact HV.out.1.size, ⟨0, 64, zeros64, by omega, by omega, by omega, fun h => by omega, rfl, ?_⟩, HV.out.1.alloc HV.out.1.size _⟩
  · simp [results, go_sem]
  · rw [HX.out.2, ← HV.out.2]; exact heap_alloc_new _ _
/-- A nil Stream. -/
theorem snext_nil (a : Option Addr) (len cap : Nat) (w : World) :
    Calls Tryd.prog 14 #[.pointer none, .slice a len cap] w fun e w' => e = .returned (.slice none 0 0) ∧ w' = w := by
  go_enter Tryd.func14, Tryd.ntmps14
  go_wp2
  go_ret
  exact ⟨rfl, rfl⟩
end Go.Proofs.YtbflkkffpcaakabDoor
