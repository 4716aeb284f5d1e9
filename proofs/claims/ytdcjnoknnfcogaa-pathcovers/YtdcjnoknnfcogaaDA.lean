/- The walk over the program's Above. -/
import Derived.Test.YtdcjnoknnfcogaaD
namespace Go.Proofs.Ytdcjnoknnfcogaa
open Go.RowKit
/-- Where the last slash ahead of a place stands. -/
def EndAt (l : List UInt8) (pos e : Nat) : Prop := (e = 0 ∧ ∀ j, j < pos → l[j]? ≠ some 47) ∨ (l[e]? = some 47 ∧ ∀ j, e < j → j < pos → l[j]? ≠ some 47)
theorem EndAt.above {l : List UInt8} (hg : goodL l = true) {e : Nat} (h : EndAt l l.length e) : aboveL l = l.take e := by
  have hout : ∀ j, l.length ≤ j → l[j]? ≠ some 47 := fun j hj => by rw [List.getElem?_eq_none hj]; simp
  rcases h with ⟨rfl, h⟩ | ⟨h1, h2⟩
  · rw [List.take_zero]
    exact above_one hg (fun j => by
      by_cases hj : j < l.length
      · exact h j hj
      · exact hout j (by omega))
  · exact above_slash hg e h1 (fun j hj => by
      by_cases hl : j < l.length
      · exact h2 j hj hl
      · exact hout j (by omega))
set_option maxRecDepth 100000 in
set_option maxHeartbeats 1000000 in
theorem above_any (s : ByteArray) (w : World) (hs : s.size ≤ 9223372036854775807) :
    Calls Try.prog 20 #[.string s] w fun e w' => e = .returned (.string (strOf (aboveL s.data.toList))) ∧ Below w.heap.size w w' := by
  have HG := good_any s w hs
  cases h : goodL s.data.toList with
  | false =>
    rw [show aboveL s.data.toList = [] by rw [aboveL, if_neg (by simp [h])]]
    rw [h] at HG
    clear h
    go_enter Try.func20, Try.ntmps20
    go_wp2_with (go_at_call 13; refine HG.mono ?_; rintro e w3 ⟨rfl, hb3⟩)
    go_ret
    exact ⟨rfl, hb3⟩
  | true =>
    have h32 := good_size h
    rw [h] at HG
    have HGG : Hid (goodL s.data.toList = true) := h
    clear h
    go_enter Try.func20, Try.ntmps20
    go_wp2_with (go_at_call 13; refine HG.mono ?_; rintro e w3 ⟨rfl, hb3⟩)
    clear HG
    go_loopw [3] (fun v wr => ∃ (pos e : Nat), v = .int .i64 (e : Int) ∧ pos ≤ s.size ∧ e ≤ pos ∧ EndAt s.data.toList pos e ∧ wr.heap[w3.heap.size]? = some (.stringIter s pos) ∧ Below w.heap.size w wr) (fun _ wr => s.size - wr.iterPos w3.heap.size)
    case atStart => exact ⟨0, 0, rfl, by omega, by omega, .inl ⟨rfl, fun j hj => by omega⟩, World.iter_heap w3 s 0, hb3.alloc hb3.size _⟩
    case round =>
      obtain ⟨pos, ed, rfl, hps, hep, hend, hit, hbw⟩ := hrel
      have hpos0 := iterPos_of hit
      have HEN : Hid (EndAt s.data.toList pos ed) := hend
      clear hend
      by_cases hp : pos < s.size
      · obtain ⟨n, wd, hnx, hn, hw1, hw2, c, hc, hcase⟩ := next_at wr w3.heap.size s pos hit hp
        have hit2 := Lib.iterAt_heap wr w3.heap.size s pos (pos + wd) hit
        have hbw2 := Lib.below_iterAt hbw (k := w3.heap.size) hb3.size s (pos + wd)
        obtain ⟨W1, hW1⟩ : ∃ W1, W1 = wr.iterAt w3.heap.size s (pos + wd) := ⟨_, rfl⟩
        rw [← hW1] at hnx hit2 hbw2
        clear hW1 hit hbw
        have HCC : Hid (s.data.toList[pos]? = some c) := hc
        clear hc
        by_cases h47 : n = 47
        · subst h47
          obtain ⟨rfl, hcn⟩ : wd = 1 ∧ c.toNat = 47 := by
            rcases hcase with ⟨_, h1, h2⟩ | ⟨h, _⟩
            · exact ⟨h1, h2⟩
            · omega
          have hc47 : c = 47 := UInt8.toNat_inj.1 (by rw [hcn]; rfl)
          have HST : Hid (EndAt s.data.toList (pos + 1) pos) := .inr ⟨hc47 ▸ HCC.out, fun j h1 h2 => by omega⟩
          clear hcase hc47 hcn
          go_wp2
          go_roundw
          case rel => exact ⟨pos + 1, pos, rfl, by omega, by omega, HST.out, hit2, hbw2⟩
          case measure => rw [iterPos_of hit2, hpos0]; omega
        · have hstep : ∀ j, pos ≤ j → j < pos + wd → s.data.toList[j]? ≠ some 47 := by
            intro j h1 h2
            rcases hcase with ⟨_, rfl, h4⟩ | ⟨_, _, h⟩
            · obtain rfl : j = pos := by omega
              rw [HCC.out]
              intro e
              rw [Option.some.injEq] at e
              rw [e] at h4
              exact h47 h4.symm
            · exact h j (by omega) h2
          have HNX : Hid (EndAt s.data.toList (pos + wd) ed) := by
            rcases HEN.out with ⟨h0, h⟩ | ⟨h0, h⟩
            · exact .inl ⟨h0, fun j hj => if hlt : j < pos then h j hlt else hstep j (by omega) hj⟩
            · exact .inr ⟨h0, fun j h1 hj => if hlt : j < pos then h j h1 hlt else hstep j (by omega) hj⟩
          have hne : ¬ (n : Int) = 47 := by omega
          have hnb : ((n : Int) == 47) = false := by simp; omega
          clear hcase hstep
          go_wp2
          go_roundw
          case rel => exact ⟨pos + wd, ed, rfl, hw2, by omega, HNX.out, hit2, hbw2⟩
          case measure => rw [iterPos_of hit2, hpos0]; omega
      · have hnx : ∀ ty, (Instr.next (.pointer (some ⟨w3.heap.size, 0, none⟩)) true ty).run Try.prog wr = _ := fun ty => Lib.run_next_end_at wr w3.heap.size s pos ty hit hp
        have HAB : Hid (strOf (aboveL s.data.toList) = s.extract 0 ed) := by
          have h1 := HEN.out
          rw [show pos = s.data.toList.length by rw [len_size]; omega] at h1
          show _ = _
          rw [h1.above HGG.out, extract_str]
          rfl
        have q1 : (ed : Int) ≤ (s.size : Int) := by omega
        go_wp2
        go_ret
        exact ⟨by rw [HAB.out]; rfl, hbw⟩
end Go.Proofs.Ytdcjnoknnfcogaa
