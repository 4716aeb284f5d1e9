/- Walks over Put and Drop. -/
import Derived.Test.YtnafalkcgghjgaaGreatDoorSJ
namespace Go.Proofs.YtnafalkcgghjgaaGreatDoor
open Go.RowKit Go.Shelf
set_option maxHeartbeats 400000 in
theorem pages_any {w : World} {jb g n : Nat} (h : Jat w jb g n) : Calls Tryz.prog 43 #[.pointer (some ⟨jb, 0, none⟩)] w fun e w' => e = .returned (.int .i64 (n : Int)) ∧ w' = w := by
  obtain ⟨c0, c1⟩ := h.cells
  clear h
  go_enter Tryz.func43, Tryz.ntmps43
  go_wp2
  go_ret
  exact ⟨rfl, rfl⟩
theorem put_nil (key v : ByteArray) (w : World) : Calls Tryz.prog 34 #[.pointer none, .string key, .string v] w fun e w' => e = .returned (.int .i64 1) ∧ w' = w := by
  go_enter Tryz.func34, Tryz.ntmps34
  go_wp2
  go_ret
  exact ⟨rfl, rfl⟩
set_option maxHeartbeats 1000000 in
theorem put_bad (sb : Nat) (key v : ByteArray) (w : World) (h : ¬ May (key, v)) : Calls Tryz.prog 34 #[.pointer (some ⟨sb, 0, none⟩), .string key, .string v] w fun e w' => e = .returned (.int .i64 1) ∧ w' = w := by
  unfold May at h
  simp only at h
  by_cases h1 : key.size = 0
  · have k1 : (key.size : Int) = 0 := by omega
    have k1' : ((key.size : Int) == 0) = true := by rw [k1]; rfl
    go_enter Tryz.func34, Tryz.ntmps34
    go_wp2
    go_ret
    exact ⟨rfl, rfl⟩
  · have k1 : ¬ (key.size : Int) = 0 := by omega
    have k1' : ((key.size : Int) == 0) = false := by simpa using h1
    by_cases h2 : key.size ≤ 64
    · have k2 : ¬ (64 : Int) < (key.size : Int) := by omega
      have k3 : (400 : Int) < (v.size : Int) := by omega
      go_enter Tryz.func34, Tryz.ntmps34
      go_wp2
      go_ret
      exact ⟨rfl, rfl⟩
    · have k2 : (64 : Int) < (key.size : Int) := by omega
      go_enter Tryz.func34, Tryz.ntmps34
      go_wp2
      go_ret
      exact ⟨rfl, rfl⟩
theorem pair_news {w : World} {c : Nat} {k v : ByteArray} (h : w.heap[c]? = some (.cells #[.string k, .string v] 63 (0, 0))) : Pw (fun _ => True) w (some ⟨c, 0, none⟩) 1 1 [(k, v)] := by
  refine ⟨rfl, Nat.le_refl _, by unfold maxLen; omega, fun _ => ⟨c, 0, rfl, ⟨_, _, h⟩, trivial, fun j u hu => ?_⟩⟩
  rw [Nat.zero_add, cell_of_row _ c _ _ _ _ h]
  simpa [prV, prC] using hu
/-- What Put leaves. -/
def PutTo (h0 : Nat) (F : Nat → Prop) (w : World) (S : Nat → Prop) (g : Nat) (D : Dk) (sb jb n : Nat) (L K : List Mf) (key v : ByteArray) (e : Ending) (w' : World) : Prop :=
  ∃ F' L', Tab h0 F' w' S g D sb jb n L' K ∧ Fr F w F' w' ∧ Below h0 w w' ∧ ((e = .returned (.int .i64 0) ∧ flat (lfs L') = putT (flat (lfs L)) key v) ∨ (e = .returned (.int .i64 5) ∧ L' = L ∧ 510 * (n - 2) < szL (putT (flat (lfs L)) key v)))
theorem Tab.keepT {h0 : Nat} {F : Nat → Prop} {w w' : World} {S : Nat → Prop} {g : Nat} {D : Dk} {sb jb n : Nat} {L K : List Mf} (h : Tab h0 F w S g D sb jb n L K) (hb : Below w.heap.size w w') : ∃ F', Tab h0 F' w' S g D sb jb n L K ∧ Fr F w F' w' ∧ Below h0 w w' := ⟨_, h.below hb, Fr.below hb, hb.mono h.h0w⟩
set_option maxRecDepth 100000 in
set_option maxHeartbeats 8000000 in
theorem put_any {h0 : Nat} {F : Nat → Prop} {w : World} {S : Nat → Prop} {g : Nat} {D : Dk} {sb jb n : Nat} {L K : List Mf} (h : Tab h0 F w S g D sb jb n L K) (key v : ByteArray) (hmay : May (key, v)) :
    Calls Tryz.prog 34 #[.pointer (some ⟨sb, 0, none⟩), .string key, .string v] w fun e w' => PutTo h0 F w S g D sb jb n L K key v e w' := by
  obtain ⟨al, cl, ag, cg, hs, hL, hK⟩ := h.sat
  have hlen := h.len
  have hn12 := h.n12
  have hn2 := h.n2
  have HF := find_any hs hL h.shL.toPre (by omega) key
  have hl1 : 0 < L.length := by omega
  obtain ⟨G, hGd⟩ : ∃ G : Nat → Prop, G = fun x => F x ∨ w.heap.size ≤ x := ⟨_, rfl⟩
  have HG : Hid (∀ x, w.heap.size ≤ x → G x) := fun x hx => by rw [hGd]; exact .inr hx
  have HGD : Hid (G = fun x => F x ∨ w.heap.size ≤ x) := hGd
  have HT : Hid (Tab h0 F w S g D sb jb n L K) := h
  have HS : Hid (∀ W, Below w.heap.size w W → Sat W sb jb al L.length cl ag K.length cg ∧ Jat W jb g n) := fun W hW => ⟨hs.below hW, h.jat.below hW⟩
  have HL : Hid (∀ W, Below w.heap.size w W → Lw G W al L.length cl L) := fun W hW => (hL.mono (fun x hx _ => by rw [hGd]; exact .inl hx)).below hW
  obtain ⟨m1, m2, m3⟩ := hmay
  simp only at m1 m2 m3
  have k1 : ¬ (key.size : Int) = 0 := by omega
  have k1' : ((key.size : Int) == 0) = false := by simpa using (show ¬ key.size = 0 by omega)
  have k2 : ¬ (64 : Int) < (key.size : Int) := by omega
  have k3 : ¬ (400 : Int) < (v.size : Int) := by omega
  have HMY : Hid (May (key, v)) := ⟨m1, m2, m3⟩
  have HC1 : Hid (∀ W, Calls Tryz.prog 60 #[.string key] W fun e w' => e = .returned (.string key) ∧ Below W.heap.size W w') := fun W => sclone_any key W (by omega)
  have HC2 : Hid (∀ W, Calls Tryz.prog 60 #[.string v] W fun e w' => e = .returned (.string v) ∧ Below W.heap.size W w') := fun W => sclone_any v W (by omega)
  clear hs hL hK h hGd m1 m2 m3
  go_enter Tryz.func34, Tryz.ntmps34
  go_wp2_with fail
  refine HF.mono ?_
  rintro e V1 ⟨i, m, a, rfl, hm, hat, hV1⟩
  have hleaf := HT.out.leaf hm
  have hLV := HL.out V1 hV1
  obtain ⟨s0, s1, s2⟩ := (HS.out V1 hV1).1.cells
  obtain ⟨b, o, e1, hb, _, hc⟩ := hLV.at hl1
  obtain ⟨d1, d2, d3⟩ := hc i m hm
  have kil : (i : Int) < (L.length : Int) := by have := (List.getElem?_eq_some_iff.1 hm).1; omega
  have hal : a ≤ m.es.length := hat.al
  obtain ⟨en, hen⟩ : ∃ en, m.es.length = en := ⟨_, rfl⟩
  rw [hen] at d2 hal
  rw [e1] at s1
  have HCU := cut_any m.a en en a V1 hal (Nat.le_refl _)
  have HM : Hid (L[i]? = some m ∧ At (lfs L) key i m.lf a ∧ m.es.length = en ∧ szL m.es ≤ 1023 ∧ (∀ p ∈ m.es, May p)) := ⟨hm, hat, hen, hleaf.1, hleaf.2.1⟩
  have henb : en ≤ 1023 := by have := hleaf.2.2; omega
  have HB1 : Hid (Below w.heap.size w V1) := hV1
  clear HF hV1 hLV hc d1 d3 hm hat hen hleaf s0 s2
  go_wp2_with fail
  refine HCU.mono ?_
  rintro e V2 ⟨rfl, hV2⟩
  have HB2 : Hid (Below w.heap.size w V2) := HB1.out.trans (hV2.mono HB1.out.size)
  clear HCU hV2
  have HEN : Hid (∀ W, Below w.heap.size w W → Pw G W m.a en en m.es) := fun W hW => by
    have := (HL.out W hW).2 m (List.mem_of_getElem? HM.out.1)
    rw [HM.out.2.2.1] at this
    exact this
  cases hth : hasK (m.es.drop a) key with
  | true =>
    have hden : a < en := by
      rcases Nat.lt_or_ge a en with h | h
      · exact h
      · rw [List.drop_eq_nil_of_le (by rw [HM.out.2.2.1]; exact h)] at hth; cases hth
    have hof : ∀ W, (Instr.sliceAt 29 (.slice (cutA m.a en a 2) (en - a) (en - a)) (some (.int .i64 1)) none none).run Tryz.prog W = .ok (.slice (cutA (cutA m.a en a 2) (en - a) 1 2) (en - a - 1) (en - a - 1)) W := off_prs (cutA m.a en a 2) (en - a) (en - a) 1 (by omega)
    have HBH : Hid (∀ W, Below w.heap.size w W → Pw G W (cutA (cutA m.a en a 2) (en - a) 1 2) (en - a - 1) (en - a - 1) (behindL m.es a key)) := fun W hW => by
      have := ((HEN.out W hW).drop a hal).drop 1 (by omega)
      unfold behindL
      rw [if_pos hth, ← List.drop_one]
      exact this
    obtain ⟨ba, hba⟩ : ∃ ba, cutA (cutA m.a en a 2) (en - a) 1 2 = ba := ⟨_, rfl⟩
    obtain ⟨bn, hbn⟩ : ∃ bn, en - a - 1 = bn := ⟨_, rfl⟩
    rw [hba, hbn] at HBH
    rw [hba, hbn] at hof
    have hbnb : bn ≤ 1023 := by omega
    clear hba hbn
    have HAH : Hid (∀ W, Below w.heap.size w W → Pw G W (cutA m.a a 0 2) a a (m.es.take a)) := fun W hW => (HEN.out W hW).take a hal
    obtain ⟨aa, haa⟩ : ∃ aa, cutA m.a a 0 2 = aa := ⟨_, rfl⟩
    rw [haa] at HAH
    rw [haa]
    clear haa
    go_wp2_with fail
    refine (HC1.out V2).mono ?_
    rintro e V3 ⟨rfl, hV3⟩
    have HB3 : Hid (Below w.heap.size w V3) := HB2.out.trans (hV3.mono HB2.out.size)
    clear hV3
    go_wp2_with fail
    refine (HC2.out V3).mono ?_
    rintro e V4 ⟨rfl, hV4⟩
    have HB4 : Hid (Below w.heap.size w V4) := HB3.out.trans (hV4.mono HB3.out.size)
    obtain ⟨V6, hV6⟩ : ∃ V6, (V4.alloc (.cells #[.string key, .string v] 63)).alloc (.cells #[.string key, .string v] 63) = V6 := ⟨_, rfl⟩
    have hb6 : Below w.heap.size w V6 := by rw [← hV6]; exact (HB4.out.alloc HB4.out.size _).alloc (by have := HB4.out.size; simp; omega) _
    have r6 : V6.heap[V4.heap.size + 1]? = some (.cells #[.string key, .string v] 63 (0, 0)) := by rw [← hV6]; exact alloc_second _ _ _
    obtain ⟨aA, cA, V7, hrA, hb7, hres7⟩ := addP_full V6 (HAH.out V6 hb6) (pair_news r6) (by omega)
    have hb7w : Below w.heap.size w V7 := hb6.trans (hb7.mono hb6.size)
    have hown7 : V7.ownsRow V6.heap.size 63 2 (.slice aA (a + 1) cA) (a + 1) (prV (m.es.take a ++ [(key, v)])) := by
      rcases hres7 with ⟨e1, _⟩ | ⟨_, h⟩
      · omega
      · exact h
    obtain ⟨aB, cB, V8, hrB, hown8, hg8, _⟩ := addP_own V7 hown7 (HBH.out V7 hb7w) (by omega) hb7.size
    have hb8 : Below w.heap.size w V8 := hb7w.grown hg8 hb7w.size (fun k hk => Nat.le_trans hb6.size (hown7.lt k (by rw [ob_slice]; exact hk)).1)
    obtain ⟨E, hE⟩ : ∃ E, m.es.take a ++ [(key, v)] ++ behindL m.es a key = E := ⟨_, rfl⟩
    have hE' : E = m.es.take a ++ (key, v) :: behindL m.es a key := by rw [← hE]; simp
    have hszE : szL E ≤ 1490 ∧ ∀ p ∈ E, eSz p ≤ 467 := by
      have hbs := behind_sz m.es a key
      have hkv := HMY.out.sz
      have := HM.out.2.2.2.1
      rw [hE']
      refine ⟨by rw [szL_app, szL_cons]; omega, fun p hp => ?_⟩
      rcases List.mem_append.1 hp with hp | hp
      · exact (HM.out.2.2.2.2 p (hbs.2 p (.inl hp))).sz.2
      · rcases List.mem_cons.1 hp with rfl | hp
        · exact hkv.2
        · exact (HM.out.2.2.2.2 p (hbs.2 p (.inr hp))).sz.2
    have hPE : Pw G V8 aB (a + 1 + bn) cB E := by
      rw [← hE]
      exact Rw.own hown8 (fun x hx => HG.out x (Nat.le_trans hb6.size hx))
    have HW := with_any (fun x hx => HG.out x (Nat.le_trans hb8.size hx)) (HS.out V8 hb8).1 (HL.out V8 hb8) (by omega) HT.out.shL.sz i m HM.out.1 aB (a + 1 + bn) cB E hPE hszE.1 hszE.2
    have HB8 : Hid (Below w.heap.size w V8) := hb8
    have HEE : Hid (E = m.es.take a ++ (key, v) :: behindL m.es a key) := hE'
    clear hb6 r6 hb7 hres7 hb7w hown7 hown8 hg8 hb8 hPE hszE hE hE' hV4
    go_wp2_with (at_builtin; first | refine wpList_app V6 rfl _ _ _ _ rfl rfl rfl (hrA _) ?_ | refine wpList_app V7 rfl _ _ _ _ rfl rfl rfl (hrB _) ?_)
    refine HW.mono ?_
    rintro e V9 ⟨gJ, cJ, J, Q, rfl, hmade, hb9⟩
    have hb9w : Below w.heap.size w V9 := HB8.out.trans (hb9.mono HB8.out.size)
    have hfl : flat (lfs J) = putT (flat (lfs L)) key v := by
      rw [hmade.flat, HEE.out]
      exact HM.out.2.1.put HT.out.shL.toPre
    have hrise : Rise (flat (lfs J)) := by rw [hfl]; exact HT.out.shL.srt.put key v
    have hmays : ∀ p ∈ flat (lfs J), May p := by rw [hfl]; exact may_put HT.out.shL.may HMY.out
    have hpre := hmade.pre HT.out.shL HM.out.1 hrise hmays
    have HPG := pages_any (HS.out V9 hb9w).2
    obtain ⟨s0, s1, s2⟩ := (HS.out V9 hb9w).1.cells
    have HJ : Hid (Lo G V8.heap.size V9 gJ cJ J ∧ Pre n (lfs J) ∧ flat (lfs J) = putT (flat (lfs L)) key v ∧ Rise (flat (lfs J)) ∧ (∀ p ∈ flat (lfs J), May p) ∧ Below w.heap.size w V9 ∧ Below V8.heap.size V8 V9) := ⟨hmade.lo, hpre, hfl, hrise, hmays, hb9w, hb9⟩
    obtain ⟨q, hq⟩ : ∃ q, J.length = q := ⟨_, rfl⟩
    have HQ : Hid (J.length = q) := hq
    have hqn : q ≤ 13 ∧ 1 ≤ q := by have := hmade.ln; have := hmade.j0; omega
    rw [hq]
    clear HW hmade hb9 hb9w hfl hrise hmays hpre s2 hq
    by_cases hqf : q ≤ n
    · have kq : ¬ (n : Int) < (q : Int) := by omega
      have HPL := place_any HJ.out.1 (fun x hx => HG.out x (Nat.le_trans HB8.out.size hx)) HJ.out.2.1 HQ.out hqf (by omega)
      go_wp2_with (go_at_call 43; refine HPG.mono ?_; rintro e W9 ⟨rfl, hW9⟩; subst W9)
      refine HPL.mono ?_
      rintro e V10 ⟨rfl, J', hlo', hlen', hsh', hfl', hupd⟩
      have hb10 : Below w.heap.size w V10 := HJ.out.2.2.2.2.2.1.trans (hupd.below HJ.out.2.2.2.2.2.1.size (fun k hk => by rw [hk]; exact Nat.le_trans HB8.out.size (HJ.out.1.own.lt gJ rfl).1))
      have hsc := (HS.out V10 hb10).1
      obtain ⟨t0, t1, t2⟩ := hsc.cells
      have hfr := frozen_of_row V10 sb 1 _ _ hsc
      have hLw' : Lw (fun x => F x ∨ w.heap.size ≤ x) V10 (some ⟨gJ, 0, none⟩) J'.length cJ J' := by
        rw [← HGD.out]
        exact hlo'.lw (fun x hx => HG.out x (Nat.le_trans HB8.out.size hx))
      have hset := HT.out.set hb10 hLw' hsh'
      rw [hlen'] at hset
      have HR : Hid (flat (lfs J') = putT (flat (lfs L)) key v) := hfl'.trans HJ.out.2.2.1
      have HSET : Hid (Tab h0 (mor F w V10) (V10.setCell ⟨sb, 1, none⟩ (.slice (some ⟨gJ, 0, none⟩) q cJ)) S g D sb jb n J' K ∧ Fr F w (mor F w V10) (V10.setCell ⟨sb, 1, none⟩ (.slice (some ⟨gJ, 0, none⟩) q cJ)) ∧ Below h0 w (V10.setCell ⟨sb, 1, none⟩ (.slice (some ⟨gJ, 0, none⟩) q cJ))) := hset
      clear HPL hlo' hlen' hsh' hfl' hupd hb10 hsc hLw' hset t0 t2
      go_wp2
      go_ret
      exact ⟨_, J', HSET.out.1, HSET.out.2.1, HSET.out.2.2, .inl ⟨rfl, HR.out⟩⟩
    · have kq : (n : Int) < (q : Int) := by omega
      have hlwJ : Lw G V9 (some ⟨gJ, 0, none⟩) q cJ J := by
        have := HJ.out.1.lw (fun x hx => HG.out x (Nat.le_trans HB8.out.size hx))
        rw [HQ.out] at this
        exact this
      have htJ : szL (flat (lfs J)) ≤ 600000 := by
        have := flat_szn (lfs J) HJ.out.2.1.sz
        rw [lfs_len, HQ.out] at this
        omega
      have HPK := pack_any (fun x hx => HG.out x (Nat.le_trans HJ.out.2.2.2.2.2.1.size hx)) (some ⟨gJ, 0, none⟩) q cJ J hlwJ (by omega) htJ HJ.out.2.2.2.2.1
      clear hlwJ htJ
      go_wp2_with (go_at_call 43; refine HPG.mono ?_; rintro e W9 ⟨rfl, hW9⟩; subst W9)
      refine HPK.mono ?_
      rintro e X ⟨pa, pn, pc, P, rfl, hownP, hentP, hpk, hbX⟩
      have hbXw : Below w.heap.size w X := HJ.out.2.2.2.2.2.1.trans (hbX.mono HJ.out.2.2.2.2.2.1.size)
      have hPl : P.length = pn := by
        have := hownP.1
        rw [mfV_len] at this
        omega
      rw [HJ.out.2.2.1] at hpk
      have hne : putT (flat (lfs L)) key v ≠ [] := by unfold putT; simp
      have HPG2 := pages_any (HS.out X hbXw).2
      obtain ⟨s0, s1, s2⟩ := (HS.out X hbXw).1.cells
      by_cases hpf : pn ≤ n
      · have kp : ¬ (n : Int) < (pn : Int) := by omega
        have hshP := hpk.pre (n := n) hne (by rw [← HJ.out.2.2.1]; exact HJ.out.2.2.2.1) (by rw [← HJ.out.2.2.1]; exact HJ.out.2.2.2.2.1) (by rw [lfs_len]; omega)
        have hp0 : 0 < pn := by have := hshP.toPre.len; rw [lfs_len] at this; omega
        obtain ⟨gP, cP, eP, _, _⟩ := hownP.form hp0
        cases eP
        have hloP : Lo G V9.heap.size X gP pc P := ⟨by rw [hPl]; exact hownP, hentP⟩
        have hflP : flat (lfs P) = putT (flat (lfs L)) key v := by have := hpk.fl; rwa [List.append_nil] at this
        have HPL := place_any hloP (fun x hx => HG.out x (Nat.le_trans HJ.out.2.2.2.2.2.1.size hx)) hshP.toPre hPl hpf (by omega)
        have HP2 : Hid (flat (lfs P) = putT (flat (lfs L)) key v ∧ Below w.heap.size w X ∧ V9.heap.size ≤ gP ∧ w.heap.size ≤ V9.heap.size) := ⟨hflP, hbXw, (hownP.lt gP rfl).1, HJ.out.2.2.2.2.2.1.size⟩
        clear HPK hownP hentP hpk hbX hbXw hshP hloP hflP hPl s2 hne
        go_wp2_with (go_at_call 43; refine HPG2.mono ?_; rintro e W9 ⟨rfl, hW9⟩; subst W9)
        refine HPL.mono ?_
        rintro e V10 ⟨rfl, J', hlo', hlen', hsh', hfl', hupd⟩
        have hb10 : Below w.heap.size w V10 := HP2.out.2.1.trans (hupd.below HP2.out.2.1.size (fun k hk => by rw [hk]; exact Nat.le_trans HP2.out.2.2.2 HP2.out.2.2.1))
        have hsc := (HS.out V10 hb10).1
        obtain ⟨t0, t1, t2⟩ := hsc.cells
        have hfr := frozen_of_row V10 sb 1 _ _ hsc
        have hLw' : Lw (fun x => F x ∨ w.heap.size ≤ x) V10 (some ⟨gP, 0, none⟩) J'.length pc J' := by
          rw [← HGD.out]
          exact hlo'.lw (fun x hx => HG.out x (Nat.le_trans HP2.out.2.2.2 hx))
        have hset := HT.out.set hb10 hLw' hsh'
        rw [hlen'] at hset
        have HR : Hid (flat (lfs J') = putT (flat (lfs L)) key v) := hfl'.trans HP2.out.1
        have HSET : Hid (Tab h0 (mor F w V10) (V10.setCell ⟨sb, 1, none⟩ (.slice (some ⟨gP, 0, none⟩) pn pc)) S g D sb jb n J' K ∧ Fr F w (mor F w V10) (V10.setCell ⟨sb, 1, none⟩ (.slice (some ⟨gP, 0, none⟩) pn pc)) ∧ Below h0 w (V10.setCell ⟨sb, 1, none⟩ (.slice (some ⟨gP, 0, none⟩) pn pc))) := hset
        clear HPL hlo' hlen' hsh' hfl' hupd hb10 hsc hLw' hset t0 t2
        go_wp2
        go_ret
        exact ⟨_, J', HSET.out.1, HSET.out.2.1, HSET.out.2.2, .inl ⟨rfl, HR.out⟩⟩
      · have kp : (n : Int) < (pn : Int) := by omega
        have HL5 : Hid (510 * (n - 2) < szL (putT (flat (lfs L)) key v) ∧ Below w.heap.size w X) := ⟨hpk.large (by rw [lfs_len]; omega) hn2, hbXw⟩
        clear HPK hownP hentP hpk hbX hbXw hPl s2 hne
        go_wp2_with (go_at_call 43; refine HPG2.mono ?_; rintro e W9 ⟨rfl, hW9⟩; subst W9)
        go_ret
        obtain ⟨F', t1, t2, t3⟩ := HT.out.keepT HL5.out.2
        exact ⟨F', L, t1, t2, t3, .inr ⟨rfl, rfl, HL5.out.1⟩⟩
  | false =>
    have HBH : Hid (∀ W, Below w.heap.size w W → Pw G W (cutA m.a en a 2) (en - a) (en - a) (behindL m.es a key)) := fun W hW => by
      have := (HEN.out W hW).drop a hal
      unfold behindL
      rw [if_neg (by rw [hth]; simp)]
      exact this
    obtain ⟨ba, hba⟩ : ∃ ba, cutA m.a en a 2 = ba := ⟨_, rfl⟩
    obtain ⟨bn, hbn⟩ : ∃ bn, en - a = bn := ⟨_, rfl⟩
    rw [hba, hbn] at HBH
    rw [hba, hbn]
    have hbnb : bn ≤ 1023 := by omega
    clear hba hbn
    have HAH : Hid (∀ W, Below w.heap.size w W → Pw G W (cutA m.a a 0 2) a a (m.es.take a)) := fun W hW => (HEN.out W hW).take a hal
    obtain ⟨aa, haa⟩ : ∃ aa, cutA m.a a 0 2 = aa := ⟨_, rfl⟩
    rw [haa] at HAH
    rw [haa]
    clear haa
    go_wp2_with fail
    refine (HC1.out V2).mono ?_
    rintro e V3 ⟨rfl, hV3⟩
    have HB3 : Hid (Below w.heap.size w V3) := HB2.out.trans (hV3.mono HB2.out.size)
    clear hV3
    go_wp2_with fail
    refine (HC2.out V3).mono ?_
    rintro e V4 ⟨rfl, hV4⟩
    have HB4 : Hid (Below w.heap.size w V4) := HB3.out.trans (hV4.mono HB3.out.size)
    obtain ⟨V6, hV6⟩ : ∃ V6, (V4.alloc (.cells #[.string key, .string v] 63)).alloc (.cells #[.string key, .string v] 63) = V6 := ⟨_, rfl⟩
    have hb6 : Below w.heap.size w V6 := by rw [← hV6]; exact (HB4.out.alloc HB4.out.size _).alloc (by have := HB4.out.size; simp; omega) _
    have r6 : V6.heap[V4.heap.size + 1]? = some (.cells #[.string key, .string v] 63 (0, 0)) := by rw [← hV6]; exact alloc_second _ _ _
    obtain ⟨aA, cA, V7, hrA, hb7, hres7⟩ := addP_full V6 (HAH.out V6 hb6) (pair_news r6) (by omega)
    have hb7w : Below w.heap.size w V7 := hb6.trans (hb7.mono hb6.size)
    have hown7 : V7.ownsRow V6.heap.size 63 2 (.slice aA (a + 1) cA) (a + 1) (prV (m.es.take a ++ [(key, v)])) := by
      rcases hres7 with ⟨e1, _⟩ | ⟨_, h⟩
      · omega
      · exact h
    obtain ⟨aB, cB, V8, hrB, hown8, hg8, _⟩ := addP_own V7 hown7 (HBH.out V7 hb7w) (by omega) hb7.size
    have hb8 : Below w.heap.size w V8 := hb7w.grown hg8 hb7w.size (fun k hk => Nat.le_trans hb6.size (hown7.lt k (by rw [ob_slice]; exact hk)).1)
    obtain ⟨E, hE⟩ : ∃ E, m.es.take a ++ [(key, v)] ++ behindL m.es a key = E := ⟨_, rfl⟩
    have hE' : E = m.es.take a ++ (key, v) :: behindL m.es a key := by rw [← hE]; simp
    have hszE : szL E ≤ 1490 ∧ ∀ p ∈ E, eSz p ≤ 467 := by
      have hbs := behind_sz m.es a key
      have hkv := HMY.out.sz
      have := HM.out.2.2.2.1
      rw [hE']
      refine ⟨by rw [szL_app, szL_cons]; omega, fun p hp => ?_⟩
      rcases List.mem_append.1 hp with hp | hp
      · exact (HM.out.2.2.2.2 p (hbs.2 p (.inl hp))).sz.2
      · rcases List.mem_cons.1 hp with rfl | hp
        · exact hkv.2
        · exact (HM.out.2.2.2.2 p (hbs.2 p (.inr hp))).sz.2
    have hPE : Pw G V8 aB (a + 1 + bn) cB E := by
      rw [← hE]
      exact Rw.own hown8 (fun x hx => HG.out x (Nat.le_trans hb6.size hx))
    have HW := with_any (fun x hx => HG.out x (Nat.le_trans hb8.size hx)) (HS.out V8 hb8).1 (HL.out V8 hb8) (by omega) HT.out.shL.sz i m HM.out.1 aB (a + 1 + bn) cB E hPE hszE.1 hszE.2
    have HB8 : Hid (Below w.heap.size w V8) := hb8
    have HEE : Hid (E = m.es.take a ++ (key, v) :: behindL m.es a key) := hE'
    clear hb6 r6 hb7 hres7 hb7w hown7 hown8 hg8 hb8 hPE hszE hE hE' hV4
    go_wp2_with (at_builtin; first | refine wpList_app V6 rfl _ _ _ _ rfl rfl rfl (hrA _) ?_ | refine wpList_app V7 rfl _ _ _ _ rfl rfl rfl (hrB _) ?_)
    refine HW.mono ?_
    rintro e V9 ⟨gJ, cJ, J, Q, rfl, hmade, hb9⟩
    have hb9w : Below w.heap.size w V9 := HB8.out.trans (hb9.mono HB8.out.size)
    have hfl : flat (lfs J) = putT (flat (lfs L)) key v := by
      rw [hmade.flat, HEE.out]
      exact HM.out.2.1.put HT.out.shL.toPre
    have hrise : Rise (flat (lfs J)) := by rw [hfl]; exact HT.out.shL.srt.put key v
    have hmays : ∀ p ∈ flat (lfs J), May p := by rw [hfl]; exact may_put HT.out.shL.may HMY.out
    have hpre := hmade.pre HT.out.shL HM.out.1 hrise hmays
    have HPG := pages_any (HS.out V9 hb9w).2
    obtain ⟨s0, s1, s2⟩ := (HS.out V9 hb9w).1.cells
    have HJ : Hid (Lo G V8.heap.size V9 gJ cJ J ∧ Pre n (lfs J) ∧ flat (lfs J) = putT (flat (lfs L)) key v ∧ Rise (flat (lfs J)) ∧ (∀ p ∈ flat (lfs J), May p) ∧ Below w.heap.size w V9 ∧ Below V8.heap.size V8 V9) := ⟨hmade.lo, hpre, hfl, hrise, hmays, hb9w, hb9⟩
    obtain ⟨q, hq⟩ : ∃ q, J.length = q := ⟨_, rfl⟩
    have HQ : Hid (J.length = q) := hq
    have hqn : q ≤ 13 ∧ 1 ≤ q := by have := hmade.ln; have := hmade.j0; omega
    rw [hq]
    clear HW hmade hb9 hb9w hfl hrise hmays hpre s2 hq
    by_cases hqf : q ≤ n
    · have kq : ¬ (n : Int) < (q : Int) := by omega
      have HPL := place_any HJ.out.1 (fun x hx => HG.out x (Nat.le_trans HB8.out.size hx)) HJ.out.2.1 HQ.out hqf (by omega)
      go_wp2_with (go_at_call 43; refine HPG.mono ?_; rintro e W9 ⟨rfl, hW9⟩; subst W9)
      refine HPL.mono ?_
      rintro e V10 ⟨rfl, J', hlo', hlen', hsh', hfl', hupd⟩
      have hb10 : Below w.heap.size w V10 := HJ.out.2.2.2.2.2.1.trans (hupd.below HJ.out.2.2.2.2.2.1.size (fun k hk => by rw [hk]; exact Nat.le_trans HB8.out.size (HJ.out.1.own.lt gJ rfl).1))
      have hsc := (HS.out V10 hb10).1
      obtain ⟨t0, t1, t2⟩ := hsc.cells
      have hfr := frozen_of_row V10 sb 1 _ _ hsc
      have hLw' : Lw (fun x => F x ∨ w.heap.size ≤ x) V10 (some ⟨gJ, 0, none⟩) J'.length cJ J' := by
        rw [← HGD.out]
        exact hlo'.lw (fun x hx => HG.out x (Nat.le_trans HB8.out.size hx))
      have hset := HT.out.set hb10 hLw' hsh'
      rw [hlen'] at hset
      have HR : Hid (flat (lfs J') = putT (flat (lfs L)) key v) := hfl'.trans HJ.out.2.2.1
      have HSET : Hid (Tab h0 (mor F w V10) (V10.setCell ⟨sb, 1, none⟩ (.slice (some ⟨gJ, 0, none⟩) q cJ)) S g D sb jb n J' K ∧ Fr F w (mor F w V10) (V10.setCell ⟨sb, 1, none⟩ (.slice (some ⟨gJ, 0, none⟩) q cJ)) ∧ Below h0 w (V10.setCell ⟨sb, 1, none⟩ (.slice (some ⟨gJ, 0, none⟩) q cJ))) := hset
      clear HPL hlo' hlen' hsh' hfl' hupd hb10 hsc hLw' hset t0 t2
      go_wp2
      go_ret
      exact ⟨_, J', HSET.out.1, HSET.out.2.1, HSET.out.2.2, .inl ⟨rfl, HR.out⟩⟩
    · have kq : (n : Int) < (q : Int) := by omega
      have hlwJ : Lw G V9 (some ⟨gJ, 0, none⟩) q cJ J := by
        have := HJ.out.1.lw (fun x hx => HG.out x (Nat.le_trans HB8.out.size hx))
        rw [HQ.out] at this
        exact this
      have htJ : szL (flat (lfs J)) ≤ 600000 := by
        have := flat_szn (lfs J) HJ.out.2.1.sz
        rw [lfs_len, HQ.out] at this
        omega
      have HPK := pack_any (fun x hx => HG.out x (Nat.le_trans HJ.out.2.2.2.2.2.1.size hx)) (some ⟨gJ, 0, none⟩) q cJ J hlwJ (by omega) htJ HJ.out.2.2.2.2.1
      clear hlwJ htJ
      go_wp2_with (go_at_call 43; refine HPG.mono ?_; rintro e W9 ⟨rfl, hW9⟩; subst W9)
      refine HPK.mono ?_
      rintro e X ⟨pa, pn, pc, P, rfl, hownP, hentP, hpk, hbX⟩
      have hbXw : Below w.heap.size w X := HJ.out.2.2.2.2.2.1.trans (hbX.mono HJ.out.2.2.2.2.2.1.size)
      have hPl : P.length = pn := by
        have := hownP.1
        rw [mfV_len] at this
        omega
      rw [HJ.out.2.2.1] at hpk
      have hne : putT (flat (lfs L)) key v ≠ [] := by unfold putT; simp
      have HPG2 := pages_any (HS.out X hbXw).2
      obtain ⟨s0, s1, s2⟩ := (HS.out X hbXw).1.cells
      by_cases hpf : pn ≤ n
      · have kp : ¬ (n : Int) < (pn : Int) := by omega
        have hshP := hpk.pre (n := n) hne (by rw [← HJ.out.2.2.1]; exact HJ.out.2.2.2.1) (by rw [← HJ.out.2.2.1]; exact HJ.out.2.2.2.2.1) (by rw [lfs_len]; omega)
        have hp0 : 0 < pn := by have := hshP.toPre.len; rw [lfs_len] at this; omega
        obtain ⟨gP, cP, eP, _, _⟩ := hownP.form hp0
        cases eP
        have hloP : Lo G V9.heap.size X gP pc P := ⟨by rw [hPl]; exact hownP, hentP⟩
        have hflP : flat (lfs P) = putT (flat (lfs L)) key v := by have := hpk.fl; rwa [List.append_nil] at this
        have HPL := place_any hloP (fun x hx => HG.out x (Nat.le_trans HJ.out.2.2.2.2.2.1.size hx)) hshP.toPre hPl hpf (by omega)
        have HP2 : Hid (flat (lfs P) = putT (flat (lfs L)) key v ∧ Below w.heap.size w X ∧ V9.heap.size ≤ gP ∧ w.heap.size ≤ V9.heap.size) := ⟨hflP, hbXw, (hownP.lt gP rfl).1, HJ.out.2.2.2.2.2.1.size⟩
        clear HPK hownP hentP hpk hbX hbXw hshP hloP hflP hPl s2 hne
        go_wp2_with (go_at_call 43; refine HPG2.mono ?_; rintro e W9 ⟨rfl, hW9⟩; subst W9)
        refine HPL.mono ?_
        rintro e V10 ⟨rfl, J', hlo', hlen', hsh', hfl', hupd⟩
        have hb10 : Below w.heap.size w V10 := HP2.out.2.1.trans (hupd.below HP2.out.2.1.size (fun k hk => by rw [hk]; exact Nat.le_trans HP2.out.2.2.2 HP2.out.2.2.1))
        have hsc := (HS.out V10 hb10).1
        obtain ⟨t0, t1, t2⟩ := hsc.cells
        have hfr := frozen_of_row V10 sb 1 _ _ hsc
        have hLw' : Lw (fun x => F x ∨ w.heap.size ≤ x) V10 (some ⟨gP, 0, none⟩) J'.length pc J' := by
          rw [← HGD.out]
          exact hlo'.lw (fun x hx => HG.out x (Nat.le_trans HP2.out.2.2.2 hx))
        have hset := HT.out.set hb10 hLw' hsh'
        rw [hlen'] at hset
        have HR : Hid (flat (lfs J') = putT (flat (lfs L)) key v) := hfl'.trans HP2.out.1
        have HSET : Hid (Tab h0 (mor F w V10) (V10.setCell ⟨sb, 1, none⟩ (.slice (some ⟨gP, 0, none⟩) pn pc)) S g D sb jb n J' K ∧ Fr F w (mor F w V10) (V10.setCell ⟨sb, 1, none⟩ (.slice (some ⟨gP, 0, none⟩) pn pc)) ∧ Below h0 w (V10.setCell ⟨sb, 1, none⟩ (.slice (some ⟨gP, 0, none⟩) pn pc))) := hset
        clear HPL hlo' hlen' hsh' hfl' hupd hb10 hsc hLw' hset t0 t2
        go_wp2
        go_ret
        exact ⟨_, J', HSET.out.1, HSET.out.2.1, HSET.out.2.2, .inl ⟨rfl, HR.out⟩⟩
      · have kp : (n : Int) < (pn : Int) := by omega
        have HL5 : Hid (510 * (n - 2) < szL (putT (flat (lfs L)) key v) ∧ Below w.heap.size w X) := ⟨hpk.large (by rw [lfs_len]; omega) hn2, hbXw⟩
        clear HPK hownP hentP hpk hbX hbXw hPl s2 hne
        go_wp2_with (go_at_call 43; refine HPG2.mono ?_; rintro e W9 ⟨rfl, hW9⟩; subst W9)
        go_ret
        obtain ⟨F', t1, t2, t3⟩ := HT.out.keepT HL5.out.2
        exact ⟨F', L, t1, t2, t3, .inr ⟨rfl, rfl, HL5.out.1⟩⟩
theorem drop_nil (key : ByteArray) (w : World) : Calls Tryz.prog 14 #[.pointer none, .string key] w fun e w' => e = .returned (.bool false) ∧ w' = w := by
  go_enter Tryz.func14, Tryz.ntmps14
  go_wp2
  go_ret
  exact ⟨rfl, rfl⟩
set_option maxRecDepth 100000 in
set_option maxHeartbeats 4000000 in
theorem drop_any {h0 : Nat} {F : Nat → Prop} {w : World} {S : Nat → Prop} {g : Nat} {D : Dk} {sb jb n : Nat} {L K : List Mf} (h : Tab h0 F w S g D sb jb n L K) (key : ByteArray) :
    Calls Tryz.prog 14 #[.pointer (some ⟨sb, 0, none⟩), .string key] w fun e w' => e = .returned (.bool (isT (flat (lfs L)) key)) ∧ ∃ F' L', Tab h0 F' w' S g D sb jb n L' K ∧ Fr F w F' w' ∧ Below h0 w w' ∧ flat (lfs L') = dropT (flat (lfs L)) key := by
  obtain ⟨al, cl, ag, cg, hs, hL, hK⟩ := h.sat
  have hlen := h.len
  have hn12 := h.n12
  have hn2 := h.n2
  have HF := find_any hs hL h.shL.toPre (by omega) key
  have hl1 : 0 < L.length := by omega
  obtain ⟨G, hGd⟩ : ∃ G : Nat → Prop, G = fun x => F x ∨ w.heap.size ≤ x := ⟨_, rfl⟩
  have HG : Hid (∀ x, w.heap.size ≤ x → G x) := fun x hx => by rw [hGd]; exact .inr hx
  have HGD : Hid (G = fun x => F x ∨ w.heap.size ≤ x) := hGd
  have HT : Hid (Tab h0 F w S g D sb jb n L K) := h
  have HS : Hid (∀ W, Below w.heap.size w W → Sat W sb jb al L.length cl ag K.length cg ∧ Jat W jb g n) := fun W hW => ⟨hs.below hW, h.jat.below hW⟩
  have HL : Hid (∀ W, Below w.heap.size w W → Lw G W al L.length cl L) := fun W hW => (hL.mono (fun x hx _ => by rw [hGd]; exact .inl hx)).below hW
  clear hs hL hK h hGd
  go_enter Tryz.func14, Tryz.ntmps14
  go_wp2_with fail
  refine HF.mono ?_
  rintro e V1 ⟨i, m, a, rfl, hm, hat, hV1⟩
  have hleaf := HT.out.leaf hm
  have his := (hat.find HT.out.shL.toPre).2.2
  have hml : m.lf.es = m.es := rfl
  rw [hml] at his
  have HB1 : Hid (Below w.heap.size w V1) := hV1
  cases hth : hasK (m.es.drop a) key with
  | false =>
    rw [hth] at his
    have HIS : Hid (isT (flat (lfs L)) key = false) := his
    clear HF hV1 hm hat hleaf his hml
    go_wp2
    go_ret
    obtain ⟨F', t1, t2, t3⟩ := HT.out.keepT HB1.out
    exact ⟨by rw [HIS.out]; rfl, F', L, t1, t2, t3, (dropT_none HIS.out).symm⟩
  | true =>
    rw [hth] at his
    have HIS : Hid (isT (flat (lfs L)) key = true) := his
    have hLV := HL.out V1 hV1
    obtain ⟨s0, s1, s2⟩ := (HS.out V1 hV1).1.cells
    obtain ⟨b, o, e1, hb, _, hc⟩ := hLV.at hl1
    obtain ⟨d1, d2, d3⟩ := hc i m hm
    have kil : (i : Int) < (L.length : Int) := by have := (List.getElem?_eq_some_iff.1 hm).1; omega
    have hal : a ≤ m.es.length := hat.al
    obtain ⟨en, hen⟩ : ∃ en, m.es.length = en := ⟨_, rfl⟩
    rw [hen] at d2 hal
    rw [e1] at s1
    have HCU := cut_any m.a en en a V1 hal (Nat.le_refl _)
    have HM : Hid (L[i]? = some m ∧ At (lfs L) key i m.lf a ∧ m.es.length = en ∧ szL m.es ≤ 1023 ∧ (∀ p ∈ m.es, May p)) := ⟨hm, hat, hen, hleaf.1, hleaf.2.1⟩
    have henb : en ≤ 1023 := by have := hleaf.2.2; omega
    have hden : a < en := by
      rcases Nat.lt_or_ge a en with h | h
      · exact h
      · rw [List.drop_eq_nil_of_le (by rw [hen]; exact h)] at hth; cases hth
    clear HF hV1 hLV hc d1 d3 hm hat hen hleaf s0 s2 his hml
    go_wp2_with fail
    refine HCU.mono ?_
    rintro e V2 ⟨rfl, hV2⟩
    have HB2 : Hid (Below w.heap.size w V2) := HB1.out.trans (hV2.mono HB1.out.size)
    clear HCU hV2
    have HEN : Hid (∀ W, Below w.heap.size w W → Pw G W m.a en en m.es) := fun W hW => by
      have := (HL.out W hW).2 m (List.mem_of_getElem? HM.out.1)
      rw [HM.out.2.2.1] at this
      exact this
    have hof : ∀ W, (Instr.sliceAt 29 (.slice (cutA m.a en a 2) (en - a) (en - a)) (some (.int .i64 1)) none none).run Tryz.prog W = .ok (.slice (cutA (cutA m.a en a 2) (en - a) 1 2) (en - a - 1) (en - a - 1)) W := off_prs (cutA m.a en a 2) (en - a) (en - a) 1 (by omega)
    have HBH : Hid (∀ W, Below w.heap.size w W → Pw G W (cutA (cutA m.a en a 2) (en - a) 1 2) (en - a - 1) (en - a - 1) (behindL m.es a key)) := fun W hW => by
      have := ((HEN.out W hW).drop a hal).drop 1 (by omega)
      unfold behindL
      rw [if_pos hth, ← List.drop_one]
      exact this
    obtain ⟨ba, hba⟩ : ∃ ba, cutA (cutA m.a en a 2) (en - a) 1 2 = ba := ⟨_, rfl⟩
    obtain ⟨bn, hbn⟩ : ∃ bn, en - a - 1 = bn := ⟨_, rfl⟩
    rw [hba, hbn] at HBH
    rw [hba, hbn] at hof
    have hbnb : bn ≤ 1023 := by omega
    have HAH : Hid (∀ W, Below w.heap.size w W → Pw G W (cutA m.a a 0 2) a a (m.es.take a)) := fun W hW => (HEN.out W hW).take a hal
    obtain ⟨aa, haa⟩ : ∃ aa, cutA m.a a 0 2 = aa := ⟨_, rfl⟩
    rw [haa] at HAH
    rw [haa]
    clear haa hba hbn
    obtain ⟨aA, cA, V7, hrA, hb7, hres7⟩ := addP_full V2 (HAH.out V2 HB2.out) (HBH.out V2 HB2.out) (by omega)
    have hb7w : Below w.heap.size w V7 := HB2.out.trans (hb7.mono HB2.out.size)
    have hPE : Pw G V7 aA (a + bn) cA (m.es.take a ++ behindL m.es a key) := by
      rcases hres7 with ⟨x1, x2, x3, x4⟩ | ⟨_, h⟩
      · have h5 := (HBH.out V2 HB2.out).len
        have h6 : behindL m.es a key = [] := List.eq_nil_of_length_eq_zero (by omega)
        rw [x2, x3, x4, h6, x1, List.append_nil, Nat.add_zero]
        exact HAH.out V2 HB2.out
      · exact Rw.own h (fun x hx => HG.out x (Nat.le_trans HB2.out.size hx))
    have hszE : szL (m.es.take a ++ behindL m.es a key) ≤ 1023 ∧ ∀ p ∈ m.es.take a ++ behindL m.es a key, eSz p ≤ 467 := by
      have hbs := behind_sz m.es a key
      have := HM.out.2.2.2.1
      refine ⟨by rw [szL_app]; omega, fun p hp => ?_⟩
      exact (HM.out.2.2.2.2 p (hbs.2 p (List.mem_append.1 hp))).sz.2
    have HW := with_any (fun x hx => HG.out x (Nat.le_trans hb7w.size hx)) (HS.out V7 hb7w).1 (HL.out V7 hb7w) (by omega) HT.out.shL.sz i m HM.out.1 aA (a + bn) cA _ hPE (by omega) hszE.2
    have HSE : Hid (szL (m.es.take a ++ behindL m.es a key) ≤ 1023) := hszE.1
    have HB7 : Hid (Below w.heap.size w V7) := hb7w
    clear hb7 hres7 hb7w hPE hszE
    go_wp2_with (at_builtin; refine wpList_app V2 rfl _ _ _ _ rfl rfl rfl (hrA _) ?_)
    refine HW.mono ?_
    rintro e V9 ⟨gJ, cJ, J, Q, rfl, hmade, hb9⟩
    have hb9w : Below w.heap.size w V9 := HB7.out.trans (hb9.mono HB7.out.size)
    have hfl : flat (lfs J) = dropT (flat (lfs L)) key := by
      rw [hmade.flat]
      exact HM.out.2.1.drop HT.out.shL.toPre
    have hsh := hmade.shape HT.out.shL HM.out.1 (by rw [hfl]; exact HT.out.shL.srt.drop key) (by rw [hfl]; exact may_drop HT.out.shL.may key) HSE.out
    have hsc := (HS.out V9 hb9w).1
    obtain ⟨t0, t1, t2⟩ := hsc.cells
    have hfr := frozen_of_row V9 sb 1 _ _ hsc
    have hLw' : Lw (fun x => F x ∨ w.heap.size ≤ x) V9 (some ⟨gJ, 0, none⟩) J.length cJ J := by
      rw [← HGD.out]
      exact hmade.lo.lw (fun x hx => HG.out x (Nat.le_trans HB7.out.size hx))
    have HR : Hid (flat (lfs J) = dropT (flat (lfs L)) key) := hfl
    have HSET : Hid (Tab h0 (mor F w V9) (V9.setCell ⟨sb, 1, none⟩ (.slice (some ⟨gJ, 0, none⟩) J.length cJ)) S g D sb jb n J K ∧ Fr F w (mor F w V9) (V9.setCell ⟨sb, 1, none⟩ (.slice (some ⟨gJ, 0, none⟩) J.length cJ)) ∧ Below h0 w (V9.setCell ⟨sb, 1, none⟩ (.slice (some ⟨gJ, 0, none⟩) J.length cJ))) := HT.out.set hb9w hLw' hsh
    clear HW hmade hb9 hb9w hfl hsh hsc hLw' t0 t2
    go_wp2
    go_ret
    exact ⟨by rw [HIS.out]; rfl, _, J, HSET.out.1, HSET.out.2.1, HSET.out.2.2, HR.out⟩
end Go.Proofs.YtnafalkcgghjgaaGreatDoor
