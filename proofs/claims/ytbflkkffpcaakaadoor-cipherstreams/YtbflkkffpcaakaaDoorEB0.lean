/- Walk over the program's Hide. Sealed bytes as mathematics. A region's held fact made stronger; strings cut and put together. The beginning of a string. -/
import Derived.Test.YtbflkkffpcaakaaDoorWN
import Derived.Test.YtbflkkffpcaakaaDoorCB
import Derived.Test.YtbflkkffpcaakaaDoorWA
import Derived.Test.YtbflkkffpcaakaaDoorCA
import Derived.Test.YtbflkkffpcaakaaDoorCE
import Derived.Deep.RegionHeld
import Derived.Test.YtbflkkffpcaakaaDoorCF
namespace Go.Proofs.YtbflkkffpcaakaaDoor
open Go.RowKit
set_option maxRecDepth 100000 in
theorem hide_bad (key nonce text : ByteArray) (w : World) (h : ¬ (key.size = 32 ∧ nonce.size = 12)) (hk : key.size ≤ 140737488351232) :
    Calls Tryd.prog 16 #[.string key, .string nonce, .string text] w fun e w' => e = .returned (.tuple #[.string ByteArray.empty, .int .i64 1]) ∧ w' = w := by
  have HF := new_no key nonce w h hk
  clear h hk
  go_enter Tryd.func16, Tryd.ntmps16
  go_wp2_with fail
  refine HF.mono ?_
  rintro e w' ⟨rfl, hw'⟩
  subst w'
  clear HF
  go_wp2
  refine bodyPost_ret (v := .tuple #[.string ByteArray.empty, .int .i64 1]) ?_ rfl ⟨rfl, rfl⟩
  simp [results, go_sem]
  rfl
set_option maxRecDepth 100000 in
set_option maxHeartbeats 2000000 in
theorem hide_any (key nonce text : ByteArray) (w : World) (hk : key.size = 32) (hn : nonce.size = 12) (ht : text.size ≤ 65536) (hL : Laid w) :
    Calls Tryd.prog 16 #[.string key, .string nonce, .string text] w fun e w' => e = .returned (.tuple #[.string (strOf (hideL (firstL key.data.toList nonce.data.toList) 0 text.data.toList)), .int .i64 0]) ∧ Below w.heap.size w w' := by
  have HNEW := snew_any key nonce w hk hn
  obtain ⟨f, hf⟩ : ∃ f, firstL key.data.toList nonce.data.toList = f := ⟨_, rfl⟩
  rw [hf] at HNEW
  have HF : Hid (f.length = 16 ∧ Wd f) := ⟨by rw [← hf, firstL_len], by rw [← hf]; exact firstL_wd _ _⟩
  have HL : Hid (Laid w) := hL
  have h3 : 3 ≤ w.heap.size := hL.lt
  obtain ⟨t, htl⟩ : ∃ t, text.data.toList = t := ⟨_, rfl⟩
  obtain ⟨N, hN⟩ : ∃ N, text.size = N := ⟨_, rfl⟩
  have htN : t.length = N := by rw [← htl, Array.length_toList]; exact hN
  obtain ⟨D, hD⟩ : ∃ D, hideL f 0 t = D := ⟨_, rfl⟩
  have HT : Hid (text.data.toList = t ∧ t.length = N ∧ hideL f 0 t = D ∧ D.length = N) := ⟨htl, htN, hD, by rw [← hD, hideL_len, htN]⟩
  rw [hf, htl, hD]
  rw [hN] at ht
  clear hf htl htN hD hL hk hn
  go_enter Tryd.func16, Tryd.ntmps16
  go_wp2_with fail
  refine HNEW.mono ?_
  rintro e V ⟨g, rfl, hwg, hS, hbV⟩
  obtain ⟨cap, W1, hcv, hc1, hc2, hb1, hlt1, hcs⟩ := bytes_of V text (by omega)
  have hgV := hS.lt
  have HA : Hid (BsA W1 g (some ⟨V.heap.size, 0, none⟩) N cap t) := ⟨HT.out.2.1, by omega, hc2, fun _ => ⟨_, _, rfl, by omega, hlt1, fun i hi => by rw [Nat.zero_add, hcs i (by omega), HT.out.1]⟩⟩
  have HB1 : Hid (Below w.heap.size w W1) := hbV.trans (hb1.mono hbV.size)
  have HC := snext_any g f 0 (some ⟨V.heap.size, 0, none⟩) N cap t W1 HF.out.1 HF.out.2 (by omega) (hS.keep (hb1.block g hgV)) HA.out (by omega) (HL.out.below HB1.out)
  rw [HT.out.2.2.1] at HC
  rw [hN] at hcv
  have HWG : Hid (w.heap.size ≤ g) := hwg
  have kN : ¬ (65536 : Int) < (N : Int) := by omega
  clear hS hbV hb1 hlt1 hcs HNEW hc1 hc2 hgV hwg h3
  go_wp2_with fail
  refine HC.mono ?_
  rintro e V2 ⟨O, rfl, hO, hr, _, hOn⟩
  have HB2 : Hid (Below w.heap.size w V2) := by
    have h := HB1.out
    exact ⟨hOn.os.trans h.os, hOn.tape.trans h.tape, hOn.output.trans h.output, Nat.le_trans h.size hOn.size, fun k hk => (hOn.block k (Nat.lt_of_lt_of_le hk h.size) (by have := HWG.out; omega)).trans (h.block k hk)⟩
  have hcv2 := conv_row V2 O 0 N N D HT.out.2.2.2 (fun i hi => by rw [Nat.zero_add, cell_of_row _ _ _ _ _ _ hr, u8v_get _ _ (by rw [HT.out.2.2.2]; exact hi)])
  clear HC hr hOn hO hcv
  go_wp2
  refine bodyPost_ret (v := .tuple #[.string (strOf D), .int .i64 0]) ?_ rfl ⟨rfl, HB2.out⟩
  simp [results, go_sem]
end Go.Proofs.YtbflkkffpcaakaaDoor
namespace Go.Proofs.YtbflkkffpcaakaaDoor
open Go.RowKit
/-- The text 'strongroom seal' -/
def keysT : List UInt8 := [115, 116, 114, 111, 110, 103, 114, 111, 111, 109, 32, 115, 101, 97, 108]
def keyA (secret : List UInt8) : List UInt8 := (derived secret keysT 64).take 32
def keyZ (secret : List UInt8) : List UInt8 := (derived secret keysT 64).drop 32
theorem keyA_len (s : List UInt8) : (keyA s).length = 32 := by unfold keyA; rw [List.length_take, derived_len _ _ _ (by omega)]; rfl
theorem keyZ_len (s : List UInt8) : (keyZ s).length = 32 := by unfold keyZ; rw [List.length_drop, derived_len _ _ _ (by omega)]
def tagL (secret nonce label hidden : List UInt8) : List UInt8 := (sealL (keyZ secret) (nonce ++ lenBytes label.length ++ label ++ hidden)).take 16
theorem tagL_len (s n l h : List UInt8) : (tagL s n l h).length = 16 := by unfold tagL; rw [List.length_take, sealL_len]; rfl
def hidL (secret nonce text : List UInt8) : List UInt8 := hideL (firstL (keyA secret) nonce) 0 text
theorem hidL_len (s n t : List UInt8) : (hidL s n t).length = t.length := hideL_len _ _ _
theorem hidL_back (s n t : List UInt8) : hidL s n (hidL s n t) = t := hideL_back _ _ _
/-- The sealed bytes. -/
def shutL (secret nonce label text : List UInt8) : List UInt8 := hidL secret nonce text ++ tagL secret nonce label (hidL secret nonce text)
theorem shutL_len (s n l t : List UInt8) : (shutL s n l t).length = t.length + 16 := by unfold shutL; rw [List.length_append, hidL_len, tagL_len]
/-- What sealed bytes are opened as, and the error: 0, 2 (ErrEnd?), as numbers of the errors. -/
def rightL (secret nonce label x : List UInt8) : Prop := x.drop (x.length - 16) = tagL secret nonce label (x.take (x.length - 16))
instance (s n l x : List UInt8) : Decidable (rightL s n l x) := by unfold rightL; infer_instance
theorem right_iff (s n l x : List UInt8) (hx : 16 ≤ x.length) : rightL s n l x ↔ shutL s n l (hidL s n (x.take (x.length - 16))) = x := by
  unfold rightL shutL
  rw [hidL_back]
  constructor
  · intro h
    rw [← h, List.take_append_drop]
  · intro h
    have h2 := congrArg (List.drop (x.length - 16)) h
    rw [List.drop_append_of_le_length (by rw [List.length_take]; omega), List.drop_of_length_le (by rw [List.length_take]; omega), List.nil_append] at h2
    exact h2.symm
theorem shut_right (s n l t : List UInt8) : rightL s n l (shutL s n l t) := by
  have h := shutL_len s n l t
  unfold rightL
  rw [h, Nat.add_sub_cancel]
  unfold shutL
  rw [List.drop_append_of_le_length (by rw [hidL_len]; omega), List.drop_of_length_le (by rw [hidL_len]; omega), List.nil_append, List.take_append_of_le_length (by rw [hidL_len]; omega), List.take_of_length_le (by rw [hidL_len]; omega)]
theorem shut_take (s n l t : List UInt8) : (shutL s n l t).take ((shutL s n l t).length - 16) = hidL s n t := by
  rw [shutL_len, Nat.add_sub_cancel]
  unfold shutL
  rw [List.take_append_of_le_length (by rw [hidL_len]; omega), List.take_of_length_le (by rw [hidL_len]; omega)]
end Go.Proofs.YtbflkkffpcaakaaDoor
namespace Go.Proofs.YtbflkkffpcaakaaDoor
open Go.RowKit
theorem wpAnyH_strengthen {P : Program} {ops : Array Oper} {Q : Exit → Act → World → Prop} {md : Region.Mode} {S S' : World → Prop} (h : ∀ w, S' w → S w) :
    ∀ {fuel : Nat} {listed : Array Bool} {a : Act} {w : World}, wpAnyH P md ops Q S' fuel listed a w → wpAnyH P md ops Q S fuel listed a w
  | 0, _, _, _, hw => hw
  | _ + 1, _, _, _, hw => ⟨hw.1, fun i hi => wpOp_mono (fun _ _ h' => ⟨h _ h'.1, wpAnyH_strengthen h h'.2⟩) (hw.2 i hi)⟩
theorem sslice_to (O : ByteArray) (p : Nat) (h : p ≤ O.size) (W : World) : (Instr.sliceAt 9 (.string O) none (some (.int .i64 (p : Int))) none).run Tryd.prog W = .ok (.string (O.extract 0 p)) W := by
  simp [Instr.sliceAt, Instr.slice, run_underlying Tryd.underlying9, Instr.sliceBounds, Instr.sliceBound, asIntOf, h]
theorem sslice_from (O : ByteArray) (p : Nat) (h : p ≤ O.size) (W : World) : (Instr.sliceAt 9 (.string O) (some (.int .i64 (p : Int))) none none).run Tryd.prog W = .ok (.string (O.extract p O.size)) W := by
  simp [Instr.sliceAt, Instr.slice, run_underlying Tryd.underlying9, Instr.sliceBounds, Instr.sliceBound, asIntOf, h]
theorem strOf_from (l : List UInt8) (n : Nat) : (strOf l).extract n (strOf l).size = strOf (l.drop n) := by
  apply ByteArray.ext
  simp [strOf, ByteArray.extract, ByteArray.copySlice, List.extract, ByteArray.size]
  exact List.take_of_length_le (by simp)
end Go.Proofs.YtbflkkffpcaakaaDoor
namespace Go.Proofs.YtbflkkffpcaakaaDoor
open Go.RowKit
theorem strOf_upto (l : List UInt8) (n : Nat) : (strOf l).extract 0 n = strOf (l.take n) := by
  apply ByteArray.ext
  simp [strOf, ByteArray.extract, ByteArray.copySlice, List.extract]
def strN : Value → Nat
  | .string s => s.size
  | _ => 0
end Go.Proofs.YtbflkkffpcaakaaDoor
