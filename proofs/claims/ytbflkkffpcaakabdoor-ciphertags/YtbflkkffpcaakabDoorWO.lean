/- Walk over the program's Hide. -/
import Derived.Test.YtbflkkffpcaakabDoorWN
import Derived.Test.YtbflkkffpcaakabDoorCB
namespace Go.Proofs.YtbflkkffpcaakabDoor
open Go.RowKit
set_option maxRecDepth 100000 in
theorem hide_bad (key nonce text : ByteArray) (w : World) (h : ¬ (key.size = 32 ∧ nonce.size = 12)) (hk : key.size ≤ 140737488351232) :
    Calls Tryd.prog 8 #[.string key, .string nonce, .string text] w fun e w' => e = .returned (.tuple #[.string ByteArray.empty, .int .i64 1]) ∧ w' = w := by
  have HF := new_no key nonce w h hk
  clear h hk
  go_enter Tryd.func8, Tryd.ntmps8
  go_wp2_with fail
  refine HF.mono ?_
  rintro e w' ⟨rfl, hw'⟩
  subst w'
  clear HF
  go_wp2
  refine bodyPost_ret (v := .tuple #[.string ByteArray.empty, .int .i64 1]) ?_ rfl ⟨rfl, rfl⟩
  simp [results, go_sem]
  rfl
set_option maxRecDepth 100000 in
set_option maxHeartbeats 2000000 in
theorem hide_any (key nonce text : ByteArray) (w : World) (hk : key.size = 32) (hn : nonce.size = 12) (ht : text.size ≤ 65536) (hL : Laid w) :
    Calls Tryd.prog 8 #[.string key, .string nonce, .string text] w fun e w' => e = .returned (.tuple #[.string (strOf (hideL (firstL key.data.toList nonce.data.toList) 0 text.data.toList)), .int .i64 0]) ∧ Below w.heap.size w w' := by
  have HNEW := snew_any key nonce w hk hn
  obtain ⟨f, hf⟩ : ∃ f, firstL key.data.toList nonce.data.toList = f := ⟨_, rfl⟩
  rw [hf] at HNEW
  have HF : Hid (f.length = 16 ∧ Wd f) := ⟨by rw [← hf, firstL_len], by rw [← hf]; exact firstL_wd _ _⟩
  have HL : Hid (Laid w) := hL
  have h3 : 3 ≤ w.heap.size := hL.lt
  obtain ⟨t, htl⟩ : ∃ t, text.data.toList = t := ⟨_, rfl⟩
  obtain ⟨N, hN⟩ : ∃ N, text.size = N := ⟨_, rfl⟩
  have htN : t.length = N := by rw [← htl, Array.length_toList]; exact hN
  obtain ⟨D, hD⟩ : ∃ D, hideL f 0 t = D := ⟨_, rfl⟩
  have HT : Hid (text.data.toList = t ∧ t.length = N ∧ hideL f 0 t = D ∧ D.length = N) := ⟨htl, htN, hD, by rw [← hD, hideL_len, htN]⟩
  rw [hf, htl, hD]
  rw [hN] at ht
  clear hf htl htN hD hL hk hn
  go_enter Tryd.func8, Tryd.ntmps8
  go_wp2_with fail
  refine HNEW.mono ?_
  rintro e V ⟨g, rfl, hwg, hS, hbV⟩
  obtain ⟨cap, W1, hcv, hc1, hc2, hb1, hlt1, hcs⟩ := bytes_of V text (by omega)
  have hgV := hS.lt
  have HA : Hid (BsA W1 g (some ⟨V.heap.size, 0, none⟩) N cap t) := ⟨HT.out.2.1, by omega, hc2, fun _ => ⟨_, _, rfl, by omega, hlt1, fun i hi => by rw [Nat.zero_add, hcs i (by omega), HT.out.1]⟩⟩
  have HB1 : Hid (Below w.heap.size w W1) := hbV.trans (hb1.mono hbV.size)
  have HC := snext_any g f 0 (some ⟨V.heap.size, 0, none⟩) N cap t W1 HF.out.1 HF.out.2 (by omega) (hS.keep (hb1.block g hgV)) HA.out (by omega) (HL.out.below HB1.out)
  rw [HT.out.2.2.1] at HC
  rw [hN] at hcv
  have HWG : Hid (w.heap.size ≤ g) := hwg
  have kN : ¬ (65536 : Int) < (N : Int) := by omega
  clear hS hbV hb1 hlt1 hcs HNEW hc1 hc2 hgV hwg h3
  go_wp2_with fail
  refine HC.mono ?_
  rintro e V2 ⟨O, rfl, hO, hr, _, hOn⟩
  have HB2 : Hid (Below w.heap.size w V2) := by
    have h := HB1.out
    exact ⟨hOn.os.trans h.os, hOn.tape.trans h.tape, hOn.output.trans h.output, Nat.le_trans h.size hOn.size, fun k hk => (hOn.block k (Nat.lt_of_lt_of_le hk h.size) (by have := HWG.out; omega)).trans (h.block k hk)⟩
  have hcv2 := conv_row V2 O 0 N N D HT.out.2.2.2 (fun i hi => by rw [Nat.zero_add, cell_of_row _ _ _ _ _ _ hr, u8v_get _ _ (by rw [HT.out.2.2.2]; exact hi)])
  clear HC hr hOn hO hcv
  go_wp2
  refine bodyPost_ret (v := .tuple #[.string (strOf D), .int .i64 0]) ?_ rfl ⟨rfl, HB2.out⟩
  simp [results, go_sem]
end Go.Proofs.YtbflkkffpcaakabDoor
