/- Walk over the document's Sum. -/
import Derived.Test.YtbflkkffpcaakaaDoorQ
import Derived.Test.YtbflkkffpcaakaaDoorX
namespace Go.Proofs.YtbflkkffpcaakaaDoor
open Go.RowKit
set_option maxRecDepth 100000 in
set_option maxHeartbeats 2000000 in
theorem sum_any (b : ByteArray) (w : World) (hb : b.size ≤ 1000000) :
    Calls Tryd.prog 40 #[.string b] w fun e w' => e = .returned (.string (strOf (digest b.data.toList))) ∧ Below w.heap.size w w' := by
  have hi : (Tryd.prog.info? 71).map (·.size) = some (u32v kL).size := by rw [u32v_size, kL_len]; kernel_rfl
  have HI : Hid ((Tryd.prog.info? 71).map (·.size) = some (u32v kL).size) := hi
  clear hi
  go_enter Tryd.func40, Tryd.ntmps40
  go_wp2_with fail
  refine (words_any _).mono ?_
  rintro e w1 ⟨rfl, hb1⟩
  have hg1 := heap_alloc_new w1 (.cells (u32v (List.replicate 64 0)) 71)
  go_wp2_with (refine wpList_store_row rfl 71 _ _ rfl w1.heap.size (u32v kL) rfl rfl 71 (u32v (List.replicate 64 0)) hg1 HI.out (by rw [u32v_size, u32v_size, kL_len]; rfl) (u32v_all _) ?_)
  go_loopw [5] (fun i wr => ∃ t : Nat, t ≤ 8 ∧ i = .int .i64 (t : Int) ∧ SumW w1.heap.size w (ivL.take t ++ List.replicate (8 - t) 0) wr) (fun i _ => 8 - (intOf i).toNat)
  case atStart =>
    refine ⟨0, by omega, rfl, ?_, ?_, hb1.size, ?_⟩
    · rw [Go.heap_alloc_old _ _ (by simp)]; exact setRow_heap _ _ _ _ _ _ hg1
    · have := heap_alloc_new ((w1.alloc (.cells (u32v (List.replicate 64 0)) 71)).setRow w1.heap.size (u32v kL)) (.cells (u32v (List.replicate 8 0)) 73)
      rw [size_setRow, show (w1.alloc (.cells (u32v (List.replicate 64 0)) 71)).heap.size = w1.heap.size + 1 by simp] at this
      exact this
    · exact (below_setRow (hb1.alloc hb1.size _) _ hb1.size _).alloc (by rw [size_setRow]; have := hb1.size; simp; omega) _
  case round =>
    clear hg1
    obtain ⟨t, ht, rfl, hrel⟩ := hrel
    by_cases hlt : t < 8
    · have HPR : Hid (∀ w, Calls Tryd.prog 46 #[.int .i64 (t : Int)] w fun e w' => e = .returned (.int .u32 (primeN t : Int)) ∧ w' = w) := fun w => prime_in t w (by omega)
      have hpl : primeN t ≤ 541 := (primes_ok ⟨t, by omega⟩).2.2.2
      have HRT : Hid (∀ w, Calls Tryd.prog 45 #[.int .u32 (primeN t : Int), .bool false] w fun e w' => e = .returned (.int .u32 (rootW (primeN t) false : Int)) ∧ w' = w) := fun w => root_any (primeN t) false w (by omega)
      obtain ⟨y, cy⟩ : ∃ y : Int, wr.cell? ⟨w1.heap.size + 1, t, none⟩ = some (.int .u32 y) := ⟨_, hrel.scell t (by simp [ivL_len]; omega)⟩
      have hf : wr.frozen? ⟨w1.heap.size + 1, t, none⟩ = false := hrel.sfro t
      have kt : (t : Int) < 8 := by omega
      have HR : Hid (SumW w1.heap.size w (ivL.take t ++ List.replicate (8 - t) 0) wr) := hrel
      clear hrel hpl
      go_wp2_with (first | (go_at_call 46; refine (HPR.out _).mono ?_; rintro e w' ⟨rfl, hw⟩; subst w') | (go_at_call 45; refine (HRT.out _).mono ?_; rintro e w' ⟨rfl, hw⟩; subst w'))
      go_roundw
      case rel =>
        refine ⟨t + 1, by omega, by go_num, ?_⟩
        have h := HR.out.sput t (rootW (primeN t) false)
        have el : (ivL.take t).length = t := by simp [ivL_len]; omega
        have es := set_mid (ivL.take t) (8 - (t + 1)) (rootW (primeN t) false)
        rw [el, show 8 - (t + 1) + 1 = 8 - t by omega] at es
        rw [es] at h
        rw [ivL_snoc t hlt]
        exact h
      case measure => simp [intOf]; omega
    · obtain rfl : t = 8 := by omega
      have e : ivL.take 8 ++ List.replicate (8 - 8) 0 = ivL := by rw [List.take_of_length_le (by rw [ivL_len]; omega)]; simp
      rw [e] at hrel
      have HR : Hid (SumW w1.heap.size w ivL wr) := hrel
      clear hrel e
      go_wp2_with fail
      refine (pad_in b.size _ (by omega)).mono ?_
      rintro e w2 ⟨rfl, hb2⟩
      have HR2 : Hid (SumW w1.heap.size w ivL w2) := HR.out.on hb2
      obtain ⟨P, hP⟩ : ∃ P, strOf (padL b.size) = P := ⟨_, rfl⟩
      have hPs : P.size ≤ 72 := by rw [← hP, strOf_size, padL_len]; unfold padZ; omega
      obtain ⟨A, hA⟩ : ∃ A, b ++ P = A := ⟨_, rfl⟩
      have hAs : A.size = b.size + P.size := by rw [← hA, ByteArray.size_append]
      have hAl : A = strOf (allL b.data.toList) := by
        rw [← hA, ← hP, allL, strOf_append, strOf_of]; rfl
      have hA64 : A.size % 64 = 0 := by rw [hAl, strOf_size]; exact allL_len _
      have HA : Hid (b ++ P = A) := hA
      have HAL : Hid (A = strOf (allL b.data.toList)) := hAl
      rw [hP]
      obtain ⟨q, hq⟩ : ∃ q, A.size = 64 * q := ⟨A.size / 64, by omega⟩
      have hq' : q ≤ 15627 := by omega
      have HQ : Hid (A.size = 64 * q) := hq
      clear hP hAl hA64 HR hb2
      go_wp2
      clear hA hAs
      go_loopw [7] (fun i wr => ∃ j : Nat, j ≤ q ∧ i = .int .i64 ((64 * j : Nat) : Int) ∧ SumW w1.heap.size w (mixTo (allL b.data.toList) j) wr) (fun i _ => 64 * q - (intOf i).toNat)
      case atStart => exact ⟨0, by omega, rfl, HR2.out⟩
      case round =>
        clear HR2
        obtain ⟨j, hj, rfl, hrel⟩ := hrel
        by_cases hlt : j < q
        · obtain ⟨n0, n1, n2, n3, n4, n5, n6, n7, he, hw8⟩ := mixTo_eight (allL b.data.toList) j
          obtain ⟨m0, m1, m2, m3, m4, m5, m6, m7, hem, _⟩ := mixTo_eight (allL b.data.toList) (j + 1)
          obtain ⟨J, hJ⟩ : ∃ J, J = 64 * j := ⟨_, rfl⟩
          have hJl : J + 64 ≤ A.size := by omega
          obtain ⟨E, hE⟩ : ∃ E, E = J + 64 := ⟨_, rfl⟩
          have HM : Hid (mixL kL [n0, n1, n2, n3, n4, n5, n6, n7] (A.extract J E).data.toList = [m0, m1, m2, m3, m4, m5, m6, m7]) := by
            show mixL kL _ _ = _
            rw [← hem, mixTo, he, HAL.out, hE, hJ]
            congr 1
            simp [strOf, List.take_drop]
          have HB : Hid ((A.extract J E).size = 64) := by show _ = _; rw [ByteArray.size_extract]; omega
          have HME : Hid (mixTo (allL b.data.toList) (j + 1) = [m0, m1, m2, m3, m4, m5, m6, m7]) := hem
          have HN : Hid (Wd [n0, n1, n2, n3, n4, n5, n6, n7]) := hw8
          rw [he] at hrel
          have HJ : Hid (J = 64 * j) := hJ
          rw [← hJ]
          clear hJ he hem hw8
          have c0 : wr.cell? ⟨w1.heap.size + 1, 0, none⟩ = some (.int .u32 (n0 : Int)) := hrel.scell 0 (by simp)
          have c1 : wr.cell? ⟨w1.heap.size + 1, 1, none⟩ = some (.int .u32 (n1 : Int)) := hrel.scell 1 (by simp)
          have c2 : wr.cell? ⟨w1.heap.size + 1, 2, none⟩ = some (.int .u32 (n2 : Int)) := hrel.scell 2 (by simp)
          have c3 : wr.cell? ⟨w1.heap.size + 1, 3, none⟩ = some (.int .u32 (n3 : Int)) := hrel.scell 3 (by simp)
          have c4 : wr.cell? ⟨w1.heap.size + 1, 4, none⟩ = some (.int .u32 (n4 : Int)) := hrel.scell 4 (by simp)
          have c5 : wr.cell? ⟨w1.heap.size + 1, 5, none⟩ = some (.int .u32 (n5 : Int)) := hrel.scell 5 (by simp)
          have c6 : wr.cell? ⟨w1.heap.size + 1, 6, none⟩ = some (.int .u32 (n6 : Int)) := hrel.scell 6 (by simp)
          have c7 : wr.cell? ⟨w1.heap.size + 1, 7, none⟩ = some (.int .u32 (n7 : Int)) := hrel.scell 7 (by simp)
          have HR : Hid (SumW w1.heap.size w [n0, n1, n2, n3, n4, n5, n6, n7] wr) := hrel
          have k1 : IntKind.i64.wrap ((J : Int) + 64) = (E : Int) := by rw [IntKind.wrap_i64]; omega
          have k2 : (J : Int) < (A.size : Int) := by omega
          have k3 : (E : Int) ≤ 64 * (q : Int) := by omega
          have k4 : (J : Int) ≤ (E : Int) := by omega
          have HE : Hid (E = J + 64) := hE
          clear hE
          clear hrel
          go_wp2
          refine wp_region_held_drew (S := fun W => W.heap[w1.heap.size]? = some (.cells (u32v kL) 71 (0, 0))) (by kernel_rfl) (HR.out.kc) (fun hHeld => ?_)
          refine wpAnyH_take (i := 0) (v := ?vb_0) rfl (by kernel_rfl) (by kernel_rfl) (by kernel_rfl) (fun _ _ _ h => h) (Or.inl ⟨by kernel_rfl, ?yb_0⟩) hHeld ?rb_0
          case yb_0 => (intro W hSW; refine yields_row 71 (.tmp 3) ?_ w1.heap.size ?_ 71 (u32v kL) (0, 0) _ hSW Tryd.underlying71 rfl HI.out <;> rfl)
          change wpAnyH _ _ _ _ _ _ _ (Act.put _ (some 31) _) _
          simp only [Act.put, List.setIfInBounds_toArray, List.set_cons_zero, List.set_cons_succ]
          refine wpAnyH_take (i := 2) (v := ?vb_2) rfl (by kernel_rfl) (by kernel_rfl) (by kernel_rfl) (fun _ _ _ h => h) (Or.inl ⟨by kernel_rfl, ?yb_2⟩) hHeld ?rb_2
          case yb_2 => (intro W hSW; (try dsimp only at hSW); go_simp; (try with_reducible rfl))
          change wpAnyH _ _ _ _ _ _ _ (Act.put _ (some 33) _) _
          simp only [Act.put, List.setIfInBounds_toArray, List.set_cons_zero, List.set_cons_succ]
          refine wpAnyH_take (i := 3) (v := ?vb_3) rfl (by kernel_rfl) (by kernel_rfl) (by kernel_rfl) (fun _ _ _ h => h) (Or.inl ⟨by kernel_rfl, ?yb_3⟩) hHeld ?rb_3
          case yb_3 => (intro W hSW; (try dsimp only at hSW); go_simp; (try with_reducible rfl))
          change wpAnyH _ _ _ _ _ _ _ (Act.put _ (some 34) _) _
          simp only [Act.put, List.setIfInBounds_toArray, List.set_cons_zero, List.set_cons_succ]
          refine wpAnyH_take (i := 4) (v := ?vb_4) rfl (by kernel_rfl) (by kernel_rfl) (by kernel_rfl) (fun _ _ _ h => h) (Or.inl ⟨by kernel_rfl, ?yb_4⟩) hHeld ?rb_4
          case yb_4 => (intro W hSW; (try dsimp only at hSW); go_simp; (try with_reducible rfl))
          change wpAnyH _ _ _ _ _ _ _ (Act.put _ (some 35) _) _
          simp only [Act.put, List.setIfInBounds_toArray, List.set_cons_zero, List.set_cons_succ]
          refine wpAnyH_take (i := 5) (v := ?vb_5) rfl (by kernel_rfl) (by kernel_rfl) (by kernel_rfl) (fun _ _ _ h => h) (Or.inl ⟨by kernel_rfl, ?yb_5⟩) hHeld ?rb_5
          case yb_5 => (intro W hSW; (try dsimp only at hSW); go_simp; (try with_reducible rfl))
          change wpAnyH _ _ _ _ _ _ _ (Act.put _ (some 36) _) _
          simp only [Act.put, List.setIfInBounds_toArray, List.set_cons_zero, List.set_cons_succ]
          refine wpAnyH_take (i := 6) (v := ?vb_6) rfl (by kernel_rfl) (by kernel_rfl) (by kernel_rfl) (fun _ _ _ h => h) (Or.inl ⟨by kernel_rfl, ?yb_6⟩) hHeld ?rb_6
          case yb_6 => (intro W hSW; (try dsimp only at hSW); go_simp; (try with_reducible rfl))
          change wpAnyH _ _ _ _ _ _ _ (Act.put _ (some 37) _) _
          simp only [Act.put, List.setIfInBounds_toArray, List.set_cons_zero, List.set_cons_succ]
          refine wpAnyH_ready (rs := [1]) (by kernel_rfl) (by simp) ?_
          refine AllReadyH.cons rfl (fun K hK => ?_) AllReadyH.nil
          go_simp
          refine hK.out _ _ (HR.out.kc) (fun hHeld => ?_)
          clear hK K
          refine wpAnyH_ready (rs := [7]) (by kernel_rfl) (by simp) ?_
          refine AllReadyH.cons rfl (fun K hK => ?_) AllReadyH.nil
          go_simp
          refine (mix_any kL n0 n1 n2 n3 n4 n5 n6 n7 _ _ kL_len kL_wd HN.out HB.out).mono ?_
          rintro e w3 ⟨rfl, hb3⟩
          refine hK.out _ _ (by rw [hb3.block w1.heap.size (by have := HR.out.sz; exact Nat.lt_of_lt_of_le (by omega) this)]; exact HR.out.kc) (fun hHeld => ?_)
          clear hK K
          try simp only [Act.put, List.setIfInBounds_toArray, List.set_cons_zero, List.set_cons_succ]
          have H3 := HR.out.on (undrew hb3)
          have c0 : w3.cell? ⟨w1.heap.size + 1, 0, none⟩ = some (.int .u32 (n0 : Int)) := H3.scell 0 (by simp)
          have f0 : w3.frozen? ⟨w1.heap.size + 1, 0, none⟩ = false := H3.sfro 0
          have c1 : w3.cell? ⟨w1.heap.size + 1, 1, none⟩ = some (.int .u32 (n1 : Int)) := H3.scell 1 (by simp)
          have f1 : w3.frozen? ⟨w1.heap.size + 1, 1, none⟩ = false := H3.sfro 1
          have c2 : w3.cell? ⟨w1.heap.size + 1, 2, none⟩ = some (.int .u32 (n2 : Int)) := H3.scell 2 (by simp)
          have f2 : w3.frozen? ⟨w1.heap.size + 1, 2, none⟩ = false := H3.sfro 2
          have c3 : w3.cell? ⟨w1.heap.size + 1, 3, none⟩ = some (.int .u32 (n3 : Int)) := H3.scell 3 (by simp)
          have f3 : w3.frozen? ⟨w1.heap.size + 1, 3, none⟩ = false := H3.sfro 3
          have c4 : w3.cell? ⟨w1.heap.size + 1, 4, none⟩ = some (.int .u32 (n4 : Int)) := H3.scell 4 (by simp)
          have f4 : w3.frozen? ⟨w1.heap.size + 1, 4, none⟩ = false := H3.sfro 4
          have c5 : w3.cell? ⟨w1.heap.size + 1, 5, none⟩ = some (.int .u32 (n5 : Int)) := H3.scell 5 (by simp)
          have f5 : w3.frozen? ⟨w1.heap.size + 1, 5, none⟩ = false := H3.sfro 5
          have c6 : w3.cell? ⟨w1.heap.size + 1, 6, none⟩ = some (.int .u32 (n6 : Int)) := H3.scell 6 (by simp)
          have f6 : w3.frozen? ⟨w1.heap.size + 1, 6, none⟩ = false := H3.sfro 6
          have c7 : w3.cell? ⟨w1.heap.size + 1, 7, none⟩ = some (.int .u32 (n7 : Int)) := H3.scell 7 (by simp)
          have f7 : w3.frozen? ⟨w1.heap.size + 1, 7, none⟩ = false := H3.sfro 7
          have eu : u32v [m0, m1, m2, m3, m4, m5, m6, m7] = #[.int .u32 (m0 : Int), .int .u32 (m1 : Int), .int .u32 (m2 : Int), .int .u32 (m3 : Int), .int .u32 (m4 : Int), .int .u32 (m5 : Int), .int .u32 (m6 : Int), .int .u32 (m7 : Int)] := rfl
          rw [HM.out, eu]
          clear eu
          refine wpAnyH_ready (rs := [8]) (by kernel_rfl) (by simp) ?_
          refine AllReadyH.cons rfl (fun K hK => ?_) AllReadyH.nil
          go_simp
          refine hK.out _ _ (((((((((H3.sput 0 m0).sput 1 m1).sput 2 m2).sput 3 m3).sput 4 m4).sput 5 m5).sput 6 m6).sput 7 m7).kc) (fun hHeld => ?_)
          clear hK K
          refine wpAnyH_done (by kernel_rfl) ?_ _
          go_wp2
          go_roundw
          case rel =>
            refine ⟨j + 1, by omega, ?_, ?_⟩
            · have := HJ.out; have := HE.out; rw [show (64 * (j + 1) : Nat) = J + 64 by omega]; go_num
            · rw [HME.out]
              exact ((((((((H3.sput 0 m0).sput 1 m1).sput 2 m2).sput 3 m3).sput 4 m4).sput 5 m5).sput 6 m6).sput 7 m7)
          case measure =>
            have h1 := HJ.out
            have h2 := HQ.out
            have h3 := HE.out
            simp only [intOf]
            omega
        · obtain rfl : j = q := by omega
          obtain ⟨n0, n1, n2, n3, n4, n5, n6, n7, he, hw8⟩ := mixTo_eight (allL b.data.toList) j
          have HD : Hid (digest b.data.toList = [n0, n1, n2, n3, n4, n5, n6, n7].flatMap (beN 4)) := by
            show digest _ = _
            unfold digest
            have : (allL b.data.toList).length / 64 = j := by
              have h := HQ.out; rw [HAL.out, strOf_size] at h; omega
            rw [this, he]
          obtain ⟨L, hL⟩ : ∃ L, L = [n0, n1, n2, n3, n4, n5, n6, n7] := ⟨_, rfl⟩
          rw [he, ← hL] at hrel
          rw [← hL] at HD hw8
          have HL8 : Hid (L.length = 8) := by rw [hL]; exact rfl
          have HLw : Hid (Wd L) := hw8
          have HR : Hid (SumW w1.heap.size w L wr) := hrel
          clear hrel hw8 he hL
          go_wp2
          go_loopw [8, 9] (fun o i wr => ∃ t : Nat, t ≤ 8 ∧ i = .int .i64 (t : Int) ∧ o = .string (strOf ((L.take t).flatMap (beN 4))) ∧ SumW w1.heap.size w L wr) (fun _ i _ => 8 - (intOf i).toNat)
          case atStart => exact ⟨0, by omega, rfl, rfl, HR.out⟩
          case round =>
            clear HR
            obtain ⟨t, ht, rfl, rfl, hrel⟩ := hrel
            by_cases hlt : t < 8
            · obtain ⟨x, hx⟩ : ∃ x, L.getD t 0 = x := ⟨_, rfl⟩
              have wx : x < 4294967296 := hx ▸ HLw.out.getD t
              have cx : wr.cell? ⟨w1.heap.size + 1, t, none⟩ = some (.int .u32 (x : Int)) := hx ▸ hrel.scell t (by rw [HL8.out]; omega)
              obtain ⟨A0, a0⟩ : ∃ A, A = x / 16777216 := ⟨_, rfl⟩
              obtain ⟨B1, b1⟩ : ∃ A, A = x / 65536 := ⟨_, rfl⟩
              obtain ⟨A1, a1⟩ : ∃ A, A = B1 % 256 := ⟨_, rfl⟩
              obtain ⟨B2, b2⟩ : ∃ A, A = x / 256 := ⟨_, rfl⟩
              obtain ⟨A2, a2⟩ : ∃ A, A = B2 % 256 := ⟨_, rfl⟩
              obtain ⟨A3, a3⟩ : ∃ A, A = x % 256 := ⟨_, rfl⟩
              have HF : Hid (beN 4 x = [UInt8.ofNat A0, UInt8.ofNat A1, UInt8.ofNat A2, UInt8.ofNat A3]) := by
                show beN 4 x = _
                rw [beN_four, a0, a1, b1, a2, b2, a3, show x / 16777216 % 256 = x / 16777216 by omega]
              have e0 : IntKind.u32.wrap ((x : Int) / 16777216) = (A0 : Int) := by rw [IntKind.wrap_u32']; omega
              have e1 : IntKind.u32.wrap ((x : Int) / 65536) = (B1 : Int) := by rw [IntKind.wrap_u32']; omega
              have e2 : IntKind.u32.wrap ((x : Int) / 256) = (B2 : Int) := by rw [IntKind.wrap_u32']; omega
              have e3 : (B1 : Int).tmod 256 = (A1 : Int) := by rw [Int.tmod_eq_emod_of_nonneg (by omega)]; omega
              have e4 : (B2 : Int).tmod 256 = (A2 : Int) := by rw [Int.tmod_eq_emod_of_nonneg (by omega)]; omega
              have e5 : (x : Int).tmod 256 = (A3 : Int) := by rw [Int.tmod_eq_emod_of_nonneg (by omega)]; omega
              have g0 : IntKind.u8.wrap (A0 : Int) = (A0 : Int) := by rw [IntKind.wrap_u8']; omega
              have g1 : IntKind.u8.wrap (A1 : Int) = (A1 : Int) := by rw [IntKind.wrap_u8']; omega
              have g2 : IntKind.u8.wrap (A2 : Int) = (A2 : Int) := by rw [IntKind.wrap_u8']; omega
              have g3 : IntKind.u8.wrap (A3 : Int) = (A3 : Int) := by rw [IntKind.wrap_u8']; omega
              have kt : (t : Int) < 8 := by omega
              obtain ⟨O, hO⟩ : ∃ O, strOf ((L.take t).flatMap (beN 4)) = O := ⟨_, rfl⟩
              have hOs : O.size ≤ 32 := by
                rw [← hO, strOf_size]
                have : ∀ l : List Nat, (l.flatMap (beN 4)).length = 4 * l.length := fun l => by
                  induction l with
                  | nil => rfl
                  | cons a l ih => rw [List.flatMap_cons, List.length_append, ih, beN_len, List.length_cons]; omega
                rw [this, List.length_take]; omega
              have HO : Hid (strOf ((L.take (t + 1)).flatMap (beN 4)) = O ++ strOf [UInt8.ofNat A0, UInt8.ofNat A1, UInt8.ofNat A2, UInt8.ofNat A3]) := by
                show strOf _ = _
                have : L.take (t + 1) = L.take t ++ [x] := by
                  rw [List.take_add_one, ← hx]
                  simp [show t < L.length by rw [HL8.out]; omega]
                rw [this, List.flatMap_append, strOf_append, hO]
                congr 1
                rw [← HF.out]; simp
              rw [hO]
              have hcv := fun (W : World) => conv_four W wr.heap.size 4 A0 A1 A2 A3
              have hz4 : (strOf [UInt8.ofNat A0, UInt8.ofNat A1, UInt8.ofNat A2, UInt8.ofNat A3]).size = 4 := rfl
              have hif : ¬ (9223372036854775807 < O.size + 4) := by omega
              have hal : ∀ o, (wr.alloc o).cell? ⟨w1.heap.size + 1, t, none⟩ = some (.int .u32 (x : Int)) := fun o => by rw [World.cell?_alloc_some wr _ o (by rw [cx]; rfl), cx]
              have HAL2 : Hid (∀ o, (wr.alloc o).cell? ⟨w1.heap.size + 1, t, none⟩ = some (.int .u32 (x : Int))) := hal
              have HR : Hid (SumW w1.heap.size w L wr) := hrel
              clear hal
              clear hrel a0 a1 a2 a3 b1 b2 hx hO wx
              go_wp2
              refine wp_region_held_drew (S := fun W => W.cell? ⟨w1.heap.size + 1, t, none⟩ = some (.int .u32 (x : Int))) (by kernel_rfl) (cx) (fun hHeld => ?_)
              refine wpAnyH_take (i := 0) (v := ?vo_0) rfl (by kernel_rfl) (by kernel_rfl) (by kernel_rfl) (fun _ _ _ h => h) (Or.inl ⟨by kernel_rfl, ?yo_0⟩) hHeld ?ro_0
              case yo_0 => (intro W hSW; (try dsimp only at hSW); go_simp; (try with_reducible rfl))
              change wpAnyH _ _ _ _ _ _ _ (Act.put _ (some 43) _) _
              simp only [Act.put, List.setIfInBounds_toArray, List.set_cons_zero, List.set_cons_succ]
              refine wpAnyH_take (i := 1) (v := ?vo_1) rfl (by kernel_rfl) (by kernel_rfl) (by kernel_rfl) (fun _ _ _ h => h) (Or.inl ⟨by kernel_rfl, ?yo_1⟩) hHeld ?ro_1
              case yo_1 => (intro W hSW; (try dsimp only at hSW); go_simp; (try with_reducible rfl))
              change wpAnyH _ _ _ _ _ _ _ (Act.put _ (some 44) _) _
              simp only [Act.put, List.setIfInBounds_toArray, List.set_cons_zero, List.set_cons_succ]
              refine wpAnyH_take (i := 2) (v := ?vo_2) rfl (by kernel_rfl) (by kernel_rfl) (by kernel_rfl) (fun _ _ _ h => h) (Or.inl ⟨by kernel_rfl, ?yo_2⟩) hHeld ?ro_2
              case yo_2 => (intro W hSW; (try dsimp only at hSW); go_simp; (try with_reducible rfl))
              change wpAnyH _ _ _ _ _ _ _ (Act.put _ (some 45) _) _
              simp only [Act.put, List.setIfInBounds_toArray, List.set_cons_zero, List.set_cons_succ]
              refine wpAnyH_take (i := 3) (v := ?vo_3) rfl (by kernel_rfl) (by kernel_rfl) (by kernel_rfl) (fun _ _ _ h => h) (Or.inl ⟨by kernel_rfl, ?yo_3⟩) hHeld ?ro_3
              case yo_3 => (intro W hSW; (try dsimp only at hSW); go_simp; (try with_reducible rfl))
              change wpAnyH _ _ _ _ _ _ _ (Act.put _ (some 46) _) _
              simp only [Act.put, List.setIfInBounds_toArray, List.set_cons_zero, List.set_cons_succ]
              refine wpAnyH_take (i := 4) (v := ?vo_4) rfl (by kernel_rfl) (by kernel_rfl) (by kernel_rfl) (fun _ _ _ h => h) (Or.inl ⟨by kernel_rfl, ?yo_4⟩) hHeld ?ro_4
              case yo_4 => (intro W hSW; (try dsimp only at hSW); go_simp; (try with_reducible rfl))
              change wpAnyH _ _ _ _ _ _ _ (Act.put _ (some 47) _) _
              simp only [Act.put, List.setIfInBounds_toArray, List.set_cons_zero, List.set_cons_succ]
              refine wpAnyH_take (i := 5) (v := ?vo_5) rfl (by kernel_rfl) (by kernel_rfl) (by kernel_rfl) (fun _ _ _ h => h) (Or.inl ⟨by kernel_rfl, ?yo_5⟩) hHeld ?ro_5
              case yo_5 => (intro W hSW; (try dsimp only at hSW); go_simp; (try with_reducible rfl))
              change wpAnyH _ _ _ _ _ _ _ (Act.put _ (some 48) _) _
              simp only [Act.put, List.setIfInBounds_toArray, List.set_cons_zero, List.set_cons_succ]
              refine wpAnyH_take (i := 6) (v := ?vo_6) rfl (by kernel_rfl) (by kernel_rfl) (by kernel_rfl) (fun _ _ _ h => h) (Or.inl ⟨by kernel_rfl, ?yo_6⟩) hHeld ?ro_6
              case yo_6 => (intro W hSW; (try dsimp only at hSW); go_simp; (try with_reducible rfl))
              change wpAnyH _ _ _ _ _ _ _ (Act.put _ (some 49) _) _
              simp only [Act.put, List.setIfInBounds_toArray, List.set_cons_zero, List.set_cons_succ]
              refine wpAnyH_take (i := 7) (v := ?vo_7) rfl (by kernel_rfl) (by kernel_rfl) (by kernel_rfl) (fun _ _ _ h => h) (Or.inl ⟨by kernel_rfl, ?yo_7⟩) hHeld ?ro_7
              case yo_7 => (intro W hSW; (try dsimp only at hSW); go_simp; (try with_reducible rfl))
              change wpAnyH _ _ _ _ _ _ _ (Act.put _ (some 50) _) _
              simp only [Act.put, List.setIfInBounds_toArray, List.set_cons_zero, List.set_cons_succ]
              refine wpAnyH_take (i := 8) (v := ?vo_8) rfl (by kernel_rfl) (by kernel_rfl) (by kernel_rfl) (fun _ _ _ h => h) (Or.inl ⟨by kernel_rfl, ?yo_8⟩) hHeld ?ro_8
              case yo_8 => (intro W hSW; (try dsimp only at hSW); go_simp; (try with_reducible rfl))
              change wpAnyH _ _ _ _ _ _ _ (Act.put _ (some 51) _) _
              simp only [Act.put, List.setIfInBounds_toArray, List.set_cons_zero, List.set_cons_succ]
              refine wpAnyH_take (i := 9) (v := ?vo_9) rfl (by kernel_rfl) (by kernel_rfl) (by kernel_rfl) (fun _ _ _ h => h) (Or.inl ⟨by kernel_rfl, ?yo_9⟩) hHeld ?ro_9
              case yo_9 => (intro W hSW; (try dsimp only at hSW); go_simp; (try with_reducible rfl))
              change wpAnyH _ _ _ _ _ _ _ (Act.put _ (some 52) _) _
              simp only [Act.put, List.setIfInBounds_toArray, List.set_cons_zero, List.set_cons_succ]
              refine wpAnyH_take (i := 10) (v := ?vo_10) rfl (by kernel_rfl) (by kernel_rfl) (by kernel_rfl) (fun _ _ _ h => h) (Or.inl ⟨by kernel_rfl, ?yo_10⟩) hHeld ?ro_10
              case yo_10 => (intro W hSW; (try dsimp only at hSW); go_simp; (try with_reducible rfl))
              change wpAnyH _ _ _ _ _ _ _ (Act.put _ (some 53) _) _
              simp only [Act.put, List.setIfInBounds_toArray, List.set_cons_zero, List.set_cons_succ]
              refine wpAnyH_take (i := 11) (v := ?vo_11) rfl (by kernel_rfl) (by kernel_rfl) (by kernel_rfl) (fun _ _ _ h => h) (Or.inl ⟨by kernel_rfl, ?yo_11⟩) hHeld ?ro_11
              case yo_11 => (intro W hSW; (try dsimp only at hSW); go_simp; (try with_reducible rfl))
              change wpAnyH _ _ _ _ _ _ _ (Act.put _ (some 54) _) _
              simp only [Act.put, List.setIfInBounds_toArray, List.set_cons_zero, List.set_cons_succ]
              refine wpAnyH_take (i := 12) (v := ?vo_12) rfl (by kernel_rfl) (by kernel_rfl) (by kernel_rfl) (fun _ _ _ h => h) (Or.inl ⟨by kernel_rfl, ?yo_12⟩) hHeld ?ro_12
              case yo_12 => (intro W hSW; (try dsimp only at hSW); go_simp; (try with_reducible rfl))
              change wpAnyH _ _ _ _ _ _ _ (Act.put _ (some 55) _) _
              simp only [Act.put, List.setIfInBounds_toArray, List.set_cons_zero, List.set_cons_succ]
              refine wpAnyH_take (i := 13) (v := ?vo_13) rfl (by kernel_rfl) (by kernel_rfl) (by kernel_rfl) (fun _ _ _ h => h) (Or.inl ⟨by kernel_rfl, ?yo_13⟩) hHeld ?ro_13
              case yo_13 => (intro W hSW; (try dsimp only at hSW); go_simp; (try with_reducible rfl))
              change wpAnyH _ _ _ _ _ _ _ (Act.put _ (some 56) _) _
              simp only [Act.put, List.setIfInBounds_toArray, List.set_cons_zero, List.set_cons_succ]
              refine wpAnyH_take (i := 14) (v := ?vo_14) rfl (by kernel_rfl) (by kernel_rfl) (by kernel_rfl) (fun _ _ _ h => h) (Or.inl ⟨by kernel_rfl, ?yo_14⟩) hHeld ?ro_14
              case yo_14 => (intro W hSW; (try dsimp only at hSW); go_simp; (try with_reducible rfl))
              change wpAnyH _ _ _ _ _ _ _ (Act.put _ (some 57) _) _
              simp only [Act.put, List.setIfInBounds_toArray, List.set_cons_zero, List.set_cons_succ]
              refine wpAnyH_take (i := 15) (v := ?vo_15) rfl (by kernel_rfl) (by kernel_rfl) (by kernel_rfl) (fun _ _ _ h => h) (Or.inl ⟨by kernel_rfl, ?yo_15⟩) hHeld ?ro_15
              case yo_15 => (intro W hSW; (try dsimp only at hSW); go_simp; (try with_reducible rfl))
              change wpAnyH _ _ _ _ _ _ _ (Act.put _ (some 58) _) _
              simp only [Act.put, List.setIfInBounds_toArray, List.set_cons_zero, List.set_cons_succ]
              refine wpAnyH_take (i := 16) (v := ?vo_16) rfl (by kernel_rfl) (by kernel_rfl) (by kernel_rfl) (fun _ _ _ h => h) (Or.inl ⟨by kernel_rfl, ?yo_16⟩) hHeld ?ro_16
              case yo_16 => (intro W hSW; (try dsimp only at hSW); go_simp; (try with_reducible rfl))
              change wpAnyH _ _ _ _ _ _ _ (Act.put _ (some 59) _) _
              simp only [Act.put, List.setIfInBounds_toArray, List.set_cons_zero, List.set_cons_succ]
              refine wpAnyH_take (i := 17) (v := ?vo_17) rfl (by kernel_rfl) (by kernel_rfl) (by kernel_rfl) (fun _ _ _ h => h) (Or.inl ⟨by kernel_rfl, ?yo_17⟩) hHeld ?ro_17
              case yo_17 => (intro W hSW; (try dsimp only at hSW); go_simp; (try with_reducible rfl))
              change wpAnyH _ _ _ _ _ _ _ (Act.put _ (some 60) _) _
              simp only [Act.put, List.setIfInBounds_toArray, List.set_cons_zero, List.set_cons_succ]
              refine wpAnyH_take (i := 18) (v := ?vo_18) rfl (by kernel_rfl) (by kernel_rfl) (by kernel_rfl) (fun _ _ _ h => h) (Or.inl ⟨by kernel_rfl, ?yo_18⟩) hHeld ?ro_18
              case yo_18 => (intro W hSW; (try dsimp only at hSW); go_simp; (try with_reducible rfl))
              change wpAnyH _ _ _ _ _ _ _ (Act.put _ (some 61) _) _
              simp only [Act.put, List.setIfInBounds_toArray, List.set_cons_zero, List.set_cons_succ]
              refine wpAnyH_take (i := 19) (v := ?vo_19) rfl (by kernel_rfl) (by kernel_rfl) (by kernel_rfl) (fun _ _ _ h => h) (Or.inl ⟨by kernel_rfl, ?yo_19⟩) hHeld ?ro_19
              case yo_19 => (intro W hSW; (try dsimp only at hSW); go_simp; (try with_reducible rfl))
              change wpAnyH _ _ _ _ _ _ _ (Act.put _ (some 62) _) _
              simp only [Act.put, List.setIfInBounds_toArray, List.set_cons_zero, List.set_cons_succ]
              refine wpAnyH_take (i := 20) (v := ?vo_20) rfl (by kernel_rfl) (by kernel_rfl) (by kernel_rfl) (fun _ _ _ h => h) (Or.inl ⟨by kernel_rfl, ?yo_20⟩) hHeld ?ro_20
              case yo_20 => (intro W hSW; (try dsimp only at hSW); go_simp; (try with_reducible rfl))
              change wpAnyH _ _ _ _ _ _ _ (Act.put _ (some 63) _) _
              simp only [Act.put, List.setIfInBounds_toArray, List.set_cons_zero, List.set_cons_succ]
              refine wpAnyH_take (i := 21) (v := ?vo_21) rfl (by kernel_rfl) (by kernel_rfl) (by kernel_rfl) (fun _ _ _ h => h) (Or.inl ⟨by kernel_rfl, ?yo_21⟩) hHeld ?ro_21
              case yo_21 => (intro W hSW; (try dsimp only at hSW); go_simp; (try with_reducible rfl))
              change wpAnyH _ _ _ _ _ _ _ (Act.put _ (some 64) _) _
              simp only [Act.put, List.setIfInBounds_toArray, List.set_cons_zero, List.set_cons_succ]
              refine wpAnyH_take (i := 22) (v := ?vo_22) rfl (by kernel_rfl) (by kernel_rfl) (by kernel_rfl) (fun _ _ _ h => h) (Or.inl ⟨by kernel_rfl, ?yo_22⟩) hHeld ?ro_22
              case yo_22 => (intro W hSW; (try dsimp only at hSW); go_simp; (try with_reducible rfl))
              change wpAnyH _ _ _ _ _ _ _ (Act.put _ (some 65) _) _
              simp only [Act.put, List.setIfInBounds_toArray, List.set_cons_zero, List.set_cons_succ]
              refine wpAnyH_ready (rs := [23]) (by kernel_rfl) (by simp) ?_
              refine AllReadyH.cons rfl (fun K hK => ?_) AllReadyH.nil
              go_simp
              refine hK.out _ _ (HAL2.out _) (fun hHeld => ?_)
              clear hK K
              refine wpAnyH_ready (rs := [24]) (by kernel_rfl) (by simp) ?_
              refine AllReadyH.cons rfl (fun K hK => ?_) AllReadyH.nil
              go_simp
              refine hK.out _ _ (HAL2.out _) (fun hHeld => ?_)
              clear hK K
              refine wpAnyH_take (i := 25) (v := ?vo_25) rfl (by kernel_rfl) (by kernel_rfl) (by kernel_rfl) (fun _ _ _ h => h) (Or.inl ⟨by kernel_rfl, ?yo_25⟩) hHeld ?ro_25
              case yo_25 => (intro W hSW; (try dsimp only at hSW); go_simp; (try with_reducible rfl))
              change wpAnyH _ _ _ _ _ _ _ (Act.put _ (some 68) _) _
              simp only [Act.put, List.setIfInBounds_toArray, List.set_cons_zero, List.set_cons_succ]
              refine wpAnyH_take (i := 26) (v := ?vo_26) rfl (by kernel_rfl) (by kernel_rfl) (by kernel_rfl) (fun _ _ _ h => h) (Or.inl ⟨by kernel_rfl, ?yo_26⟩) hHeld ?ro_26
              case yo_26 => (intro W hSW; (try dsimp only at hSW); go_simp; (try with_reducible rfl))
              change wpAnyH _ _ _ _ _ _ _ (Act.put _ (some 8) _) _
              simp only [Act.put, List.setIfInBounds_toArray, List.set_cons_zero, List.set_cons_succ]
              refine wpAnyH_done (by kernel_rfl) ?_ _
              go_wp2
              refine ⟨?_, ?measure⟩
              refine ⟨_, _, _, _, _, _, _, _, _, _, _, _, _, _, _, _, _, _, _, _, _, _, _, _, _, _, _, _, _, _, _, _, ?rel, rfl⟩
              case rel => exact ⟨t + 1, by omega, by go_num, by rw [HO.out], (HR.out.on ((Below.refl _ _).alloc (Nat.le_refl _) _)).drew⟩
              case measure => simp [intOf]; omega
            · obtain rfl : t = 8 := by omega
              have hbl := hrel.bl
              clear hrel
              go_wp2
              go_ret
              refine ⟨ret_val ?_, hbl⟩
              show Value.string (strOf ((L.take 8).flatMap (beN 4))) = _
              rw [HD.out, List.take_of_length_le (by rw [HL8.out]; omega)]
end Go.Proofs.YtbflkkffpcaakaaDoor
