/- Lists that are written: the walks over num.PutList and the document's List. -/
import Derived.Test.YtbomopjngpnghabT
import Derived.Test.YtbomopjngpnghabQ
namespace Go.Proofs.Ytbomopjngpnghab
open Go.RowKit

/-- The bytes of a list's texts, one behind the other. -/
def flatN (ss : List ByteArray) : List UInt8 := ss.flatMap fun s => textN s.data.toList
/-- A list's bytes. -/
def listN (ss : List ByteArray) : List UInt8 := putN ss.length ++ flatN ss

theorem flatN_snoc (ss : List ByteArray) (k : Nat) (h : k < ss.length) : flatN (ss.take (k + 1)) = flatN (ss.take k) ++ textN (ss[k]).data.toList := by
  unfold flatN
  rw [List.take_succ_eq_append_getElem h, List.flatMap_append]
  simp
theorem textN_len (s : ByteArray) (h : s.size ≤ 100000) : (textN s.data.toList).length = (putN s.size).length + s.size ∧ (textN s.data.toList).length ≤ s.size + 10 := by
  have := putN_le10 s.size (by omega)
  simp [textN]
  omega
theorem flatN_le (ss : List ByteArray) (h : tot ss ≤ 100000) : (flatN ss).length ≤ tot ss + 10 * ss.length := by
  induction ss with
  | nil => simp [flatN]
  | cons s ss ih =>
    have ht : tot (s :: ss) = s.size + tot ss := by simp [tot]
    have := (textN_len s (by omega)).2
    have := ih (by omega)
    have hf : flatN (s :: ss) = textN s.data.toList ++ flatN ss := by simp [flatN]
    rw [hf, List.length_append, List.length_cons]
    omega
theorem flatN_take_le (ss : List ByteArray) (k : Nat) : (flatN (ss.take k)).length ≤ (flatN ss).length := by
  have : flatN ss = flatN (ss.take k) ++ flatN (ss.drop k) := by
    unfold flatN
    rw [← List.flatMap_append, List.take_append_drop]
  rw [this, List.length_append]; omega

/-- What the second loop of PutList holds: the bytes so far. -/
def ListRel (w : World) (base g cap : Nat) (pre : List UInt8) (ss : List ByteArray) (k : Nat) (cur : List UInt8) (wr : World) : Prop :=
  cur = pre ++ flatN (ss.take k) ∧ wr.ownsRow base 5 1 (.slice (some ⟨g, 0, none⟩) cur.length cap) cur.length (bytesV cur) ∧ Below base w wr ∧ base ≤ g

set_option maxHeartbeats 800000 in
theorem plist_in (a : Option Addr) (cap : Nat) (bs : List UInt8) (b off ln lc : Nat) (ss : List ByteArray) (w : World) (h : Bs w a bs.length cap bs) (hb : bs.length ≤ 30000) (hsl : ss.length = ln) (hc : ∀ i (h : i < ss.length), w.cell? ⟨b, off + i, none⟩ = some (.string ss[i])) (hn : ln ≤ 300) (ht : tot ss ≤ 20000) (T : Nat) (hT : (listN ss).length = T) :
    Calls Try.prog 8 #[.slice a bs.length cap, .slice (some ⟨b, off, none⟩) ln lc] w fun e w' => ∃ g, e = .returned (.slice (some ⟨g, 0, none⟩) (bs.length + T) (bs.length + T)) ∧
      w'.ownsRow w.heap.size 5 1 (.slice (some ⟨g, 0, none⟩) (bs.length + T) (bs.length + T)) (bs.length + T) (bytesV (bs ++ listN ss)) ∧ Below w.heap.size w w' := by
  have h10 := putN_le10 ln (by omega)
  have hfl := flatN_le ss (by omega)
  have HF : Hid ((putN ln).length + (flatN ss).length = T) := by rw [← hT]; simp [Hid, listN, hsl]
  have HE : Hid (bs ++ (putN ln ++ flatN ss) = bs ++ listN ss) := by simp [Hid, listN, hsl]
  have HSL : Hid (ss.length = ln) := hsl
  have HSZ : Hid (∀ i (h : i < ss.length), (ss[i]).size ≤ 20000) := fun i hi => by have := size_le_tot ss i hi; omega
  have hT2 : T ≤ 30000 := by have := HF.out; omega
  have hTF : (putN ln).length ≤ 10 ∧ (flatN ss).length ≤ 30000 := by omega
  have HC : Hid (∀ i (h : i < ss.length), w.cell? ⟨b, off + i, none⟩ = some (.string ss[i])) := hc
  have HBs : Hid (Bs w a bs.length cap bs) := h
  clear hT hsl hfl ht hc h
  go_enter Try.func8, Try.ntmps8
  go_wp2_with (go_at_call 12; refine (size_ex ln _ (by omega)).mono ?_; rintro e w' ⟨rfl, hw⟩; subst w')
  go_loop [5, 17] (fun z i => ∃ k F : Nat, k ≤ ln ∧ i = .int .i64 k ∧ z = .int .i64 F ∧ F ≤ 60000 ∧ F = (putN ln).length + (flatN (ss.take k)).length) (fun _ i => ln - (intOf i).toNat)
  case atStart => exact ⟨0, (putN ln).length, by omega, rfl, rfl, by omega, by simp [flatN]⟩
  case round =>
    obtain ⟨k, F, hk, rfl, rfl, hF, hFe⟩ := hrel
    have HFe : Hid (F = (putN ln).length + (flatN (ss.take k)).length) := hFe
    clear hFe
    by_cases hlt : k < ln
    · have hlt' : k < ss.length := by have := HSL.out; omega
      have hc := HC.out k hlt'
      have hsz := HSZ.out k hlt'
      have hsn := flatN_snoc ss k hlt'
      have hfl := flatN_take_le ss (k + 1)
      obtain ⟨s, hs⟩ : ∃ s, s = ss[k] := ⟨_, rfl⟩
      rw [← hs] at hc hsz hsn
      obtain ⟨he1, he2⟩ := textN_len s (by omega)
      rw [hsn, List.length_append] at hfl
      have HN : Hid (flatN (ss.take (k + 1)) = flatN (ss.take k) ++ textN s.data.toList) := hsn
      have hF2 : F + ((putN s.size).length + s.size) ≤ 60000 := by have := HFe.out; omega
      have HE1 : Hid ((textN s.data.toList).length = (putN s.size).length + s.size) := he1
      have hs3 : s.size ≤ 100000 := by omega
      obtain ⟨L, hL⟩ : ∃ L, (putN s.size).length + s.size = L := ⟨_, rfl⟩
      have HL : Hid ((putN s.size).length + s.size = L) := hL
      rw [hL] at hF2
      clear hsn hs he1 he2 hfl hL
      go_wp2_with (go_at_call 16; refine (tsize_any s _ hs3).mono ?_; rw [HL.out]; rintro e w' ⟨rfl, hw⟩; subst w')
      go_round
      case rel => exact ⟨k + 1, F + L, by omega, by go_num, by go_num, by omega, by rw [HN.out, List.length_append, HE1.out, HL.out, HFe.out]; omega⟩
      case measure => simp [intOf]; omega
    · have hFT : F = T := by
        rw [HFe.out, List.take_of_length_le (by have := HSL.out; omega), HF.out]
      subst hFT
      clear HFe
      go_wp2_with fail
      refine (room_any a bs.length cap F bs _ HBs.out (by omega)).mono ?_
      rintro e w1 ⟨rfl, hown1, hbel1⟩
      go_wp2_with fail
      refine (append_any _ _ _ bs ln _ (by omega) (by have := HF.out; omega) hown1).mono ?_
      rintro e w2 ⟨rfl, hown2, hgrow2⟩
      clear hown1
      have hR : ListRel w w.heap.size w.heap.size (bs.length + F) (bs ++ putN ln) ss 0 (bs ++ putN ln) w2 := ⟨by simp [flatN], by simpa using hown2, hbel1.grown hgrow2 hbel1.size (by simp), Nat.le_refl _⟩
      clear hown2 hgrow2 hbel1
      go_wp2_with fail
      go_loopw [8, 35] (fun v i wr => ∃ (k : Nat) (cur : List UInt8), k ≤ ln ∧ i = .int .i64 k ∧ v = .slice (some ⟨w.heap.size, 0, none⟩) cur.length (bs.length + F) ∧ ListRel w w.heap.size w.heap.size (bs.length + F) (bs ++ putN ln) ss k cur wr) (fun _ i _ => ln - (intOf i).toNat)
      case atStart => exact ⟨0, bs ++ putN ln, by omega, rfl, by simp, hR⟩
      case round =>
        clear hR
        obtain ⟨j, cur, hj, rfl, rfl, hcur, hown, hbel, hbg⟩ := hrel
        have HU : Hid (cur = bs ++ putN ln ++ flatN (ss.take j)) := hcur
        clear hcur
        by_cases hjl : j < ln
        · have hlt' : j < ss.length := by have := HSL.out; omega
          have hc : wr.cell? ⟨b, off + j, none⟩ = some (.string ss[j]) := by
            have := HC.out j hlt'
            rw [hbel.cell (World.block_lt_of_cell? w _ this)]; exact this
          have hsz := HSZ.out j hlt'
          have hsn := flatN_snoc ss j hlt'
          have hfl := flatN_take_le ss (j + 1)
          obtain ⟨s, hs⟩ : ∃ s, s = ss[j] := ⟨_, rfl⟩
          rw [← hs] at hc hsz hsn
          have he1 := (textN_len s (by omega)).1
          rw [hsn, List.length_append] at hfl
          have HN : Hid (flatN (ss.take (j + 1)) = flatN (ss.take j) ++ textN s.data.toList) := hsn
          have hs3 : s.size ≤ 100000 := by omega
          have hroom : cur.length + (putN s.size).length + s.size ≤ bs.length + F := by
            have h1 := congrArg List.length HU.out
            simp only [List.length_append] at h1
            have := HF.out
            omega
          have HR1 : Hid (cur.length + (putN s.size).length + s.size ≤ bs.length + F) := hroom
          clear hsn hs he1 hfl hroom
          go_wp2_with fail
          refine (atext_any _ _ _ cur s _ hs3 HR1.out hown).mono ?_
          rintro e w3 ⟨rfl, hown3, hgrow3⟩
          have hbel3 := hbel.grown hgrow3 hbel.size (by intro k hk; cases hk; exact hbg)
          clear hown hgrow3 hbel
          go_wp2
          go_roundw
          case rel => exact ⟨j + 1, cur ++ textN s.data.toList, by omega, by go_num, by simp, by rw [HN.out, HU.out]; simp, by simpa using hown3, hbel3, hbg⟩
          case measure => simp [intOf]; omega
        · have HX : Hid (cur = bs ++ listN ss) := by
            rw [HU.out, List.take_of_length_le (by have := HSL.out; omega), List.append_assoc, HE.out]; rfl
          have HLn : Hid (cur.length = bs.length + F) := by
            have h1 := congrArg List.length HU.out
            rw [List.take_of_length_le (by have := HSL.out; omega)] at h1
            simp only [List.length_append] at h1
            have := HF.out
            simp only [Hid]
            omega
          go_wp2
          go_ret
          rw [HLn.out, HX.out] at hown
          exact ⟨_, by rw [← HLn.out]; rfl, hown, hbel⟩

theorem putN_0 : putN 0 = [0] := by rw [putN_small (by decide)]; rfl

set_option maxHeartbeats 800000 in
theorem plist_zero (a la : Option Addr) (cap lc : Nat) (bs : List UInt8) (w : World) (h : Bs w a bs.length cap bs) (hb : bs.length ≤ 30000) :
    Calls Try.prog 8 #[.slice a bs.length cap, .slice la 0 lc] w fun e w' => ∃ g, e = .returned (.slice (some ⟨g, 0, none⟩) (bs.length + 1) (bs.length + 1)) ∧
      w'.ownsRow w.heap.size 5 1 (.slice (some ⟨g, 0, none⟩) (bs.length + 1) (bs.length + 1)) (bs.length + 1) (bytesV (bs ++ [0])) ∧ Below w.heap.size w w' := by
  have HBs : Hid (Bs w a bs.length cap bs) := h
  have H0 : Hid (putN 0 = [0]) := putN_0
  clear h
  go_enter Try.func8, Try.ntmps8
  go_wp2_with fail
  refine (size_ex 0 _ (by omega)).mono ?_
  rw [H0.out]
  rintro e w' ⟨rfl, hw⟩
  subst w'
  go_wp2_with fail
  refine wp_loop_rounds 1 ?_
  rw [rounds_succ]
  go_wp2_with fail
  refine (room_any a bs.length cap 1 bs _ HBs.out (by omega)).mono ?_
  rintro e w1 ⟨rfl, hown1, hbel1⟩
  go_wp2_with fail
  refine (append_any _ _ _ bs 0 _ (by omega) (by rw [H0.out]; simp) hown1).mono ?_
  rw [H0.out]
  rintro e w2 ⟨rfl, hown2, hgrow2⟩
  clear hown1
  go_wp2_with fail
  refine wp_loop_rounds 1 ?_
  rw [rounds_succ]
  go_wp2
  go_ret
  exact ⟨_, rfl, hown2, hbel1.grown hgrow2 hbel1.size (by simp)⟩

theorem plist_any (a : Option Addr) (len cap : Nat) (bs : List UInt8) (la : Option Addr) (ln lc : Nat) (ss : List ByteArray) (w : World) (h : Bs w a len cap bs) (hb : len ≤ 30000) (hl : Ss w la ln lc ss) (hn : ln ≤ 300) (ht : tot ss ≤ 20000) (T : Nat) (hT : (listN ss).length = T) :
    Calls Try.prog 8 #[.slice a len cap, .slice la ln lc] w fun e w' => ∃ g, e = .returned (.slice (some ⟨g, 0, none⟩) (len + T) (len + T)) ∧
      w'.ownsRow w.heap.size 5 1 (.slice (some ⟨g, 0, none⟩) (len + T) (len + T)) (len + T) (bytesV (bs ++ listN ss)) ∧ Below w.heap.size w w' := by
  obtain ⟨rfl, _⟩ : bs.length = len ∧ True := ⟨h.1, trivial⟩
  by_cases h0 : 0 < ln
  · obtain ⟨b, off, rfl, hc⟩ := hl.at h0
    exact plist_in a cap bs b off ln lc ss w h hb hl.1 hc hn ht T hT
  · obtain rfl : ln = 0 := by omega
    have hss : ss = [] := List.eq_nil_of_length_eq_zero hl.1
    subst hss
    have e : listN [] = [0] := by simp [listN, flatN, putN_0]
    rw [e] at hT ⊢
    simp only [List.length_singleton] at hT
    subst hT
    exact plist_zero a la cap lc bs w h hb

end Go.Proofs.Ytbomopjngpnghab
