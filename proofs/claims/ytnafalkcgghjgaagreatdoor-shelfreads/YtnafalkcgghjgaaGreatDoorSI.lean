/- A table in memory, with the disk and the journal below it. A walk over with. -/
import Derived.Test.YtnafalkcgghjgaaGreatDoorSF
import Derived.Test.YtnafalkcgghjgaaGreatDoorSG
import Derived.Test.YtnafalkcgghjgaaGreatDoorJP
namespace Go.Proofs.YtnafalkcgghjgaaGreatDoor
open Go.RowKit Go.Shelf
/-- What lies in F stays. -/
structure Fr (F : Nat → Prop) (w : World) (F' : Nat → Prop) (w' : World) : Prop where
  sz : w.heap.size ≤ w'.heap.size
  sub : ∀ x, F x → F' x
  blk : ∀ x, F x → x < w.heap.size → w'.heap[x]? = w.heap[x]?
theorem Fr.refl (F : Nat → Prop) (w : World) : Fr F w F w := ⟨Nat.le_refl _, fun _ h => h, fun _ _ _ => rfl⟩
theorem Fr.trans {F F' F'' : Nat → Prop} {w w' w'' : World} (h : Fr F w F' w') (k : Fr F' w' F'' w'') : Fr F w F'' w'' :=
  ⟨Nat.le_trans h.sz k.sz, fun x hx => k.sub x (h.sub x hx), fun x hx hl => (k.blk x (h.sub x hx) (Nat.lt_of_lt_of_le hl h.sz)).trans (h.blk x hx hl)⟩
theorem Rw.fr {F F' : Nat → Prop} {w w' : World} {et sz : Nat} {a : Option Addr} {len cap : Nat} {xs : List Value} (h : Rw F w et sz a len cap xs) (f : Fr F w F' w') : Rw F' w' et sz a len cap xs := by
  obtain ⟨h1, h2, h3, h4⟩ := h
  refine ⟨h1, h2, h3, fun h0 => ?_⟩
  obtain ⟨b, o, rfl, ⟨cur, fr, hb⟩, hg, hc⟩ := h4 h0
  have e := f.blk b hg (lt_of_some hb)
  exact ⟨b, o, rfl, ⟨cur, fr, e.trans hb⟩, f.sub b hg, fun j u hu => by rw [World.cell?_of_block (w := w) e]; exact hc j u hu⟩
theorem Pw.fr {F F' : Nat → Prop} {w w' : World} {a : Option Addr} {len cap : Nat} {l : List Pr} (h : Pw F w a len cap l) (f : Fr F w F' w') : Pw F' w' a len cap l := Rw.fr h f
theorem Lw.fr {F F' : Nat → Prop} {w w' : World} {a : Option Addr} {len cap : Nat} {l : List Mf} (h : Lw F w a len cap l) (f : Fr F w F' w') : Lw F' w' a len cap l := ⟨h.1.fr f, fun m hm => Rw.fr (h.2 m hm) f⟩
/-- The blocks of F, and those that were made since. -/
def mor (F : Nat → Prop) (w w' : World) : Nat → Prop := fun x => F x ∨ (w.heap.size ≤ x ∧ x < w'.heap.size)
theorem Fr.below {F : Nat → Prop} {w w' : World} (hb : Below w.heap.size w w') : Fr F w (mor F w w') w' := ⟨hb.size, fun _ h => .inl h, fun x _ hl => hb.block x hl⟩
/-- A table: h0 is where all begins that may be turned. -/
structure Tab (h0 : Nat) (F : Nat → Prop) (w : World) (S : Nat → Prop) (g : Nat) (D : Dk) (sb jb n : Nat) (L K : List Mf) : Prop where
  disk : DiskIs w S g D
  jat : Jat w jb g n
  sat : ∃ al cl ag cg, Sat w sb jb al L.length cl ag K.length cg ∧ Lw F w al L.length cl L ∧ Lw F w ag K.length cg K
  shL : Shape n (lfs L)
  shK : Shape n (lfs K)
  n2 : 2 ≤ n
  n12 : n ≤ 12
  sj : ¬ S jb
  ss : ¬ S sb
  sbj : sb ≠ jb
  fF : ∀ x, F x → ¬ S x ∧ x ≠ sb ∧ x ≠ jb ∧ x < w.heap.size
  h0s : h0 ≤ sb
  h0S : ∀ x, S x → h0 ≤ x
  h0w : h0 ≤ w.heap.size
theorem Sat.upd {w w' : World} {T : Nat → Prop} {sb jb : Nat} {al : Option Addr} {nl cl : Nat} {ag : Option Addr} {ng cg : Nat} (h : Sat w sb jb al nl cl ag ng cg) (hu : Upd T w w') (ht : ¬ T sb) : Sat w' sb jb al nl cl ag ng cg := (hu.block sb h.lt ht).trans h
theorem Tab.below {h0 : Nat} {F : Nat → Prop} {w w' : World} {S : Nat → Prop} {g : Nat} {D : Dk} {sb jb n : Nat} {L K : List Mf} (h : Tab h0 F w S g D sb jb n L K) (hb : Below w.heap.size w w') : Tab h0 (mor F w w') w' S g D sb jb n L K := by
  obtain ⟨al, cl, ag, cg, h1, h2, h3⟩ := h.sat
  refine { h with disk := h.disk.below hb, jat := h.jat.below hb, sat := ⟨al, cl, ag, cg, h1.below hb, h2.fr (Fr.below hb), h3.fr (Fr.below hb)⟩, fF := fun x hx => ?_, h0w := Nat.le_trans h.h0w hb.size }
  rcases hx with hx | ⟨hx, hl⟩
  · have := h.fF x hx
    exact ⟨this.1, this.2.1, this.2.2.1, Nat.lt_of_lt_of_le this.2.2.2 hb.size⟩
  · refine ⟨fun hs => ?_, fun e => ?_, fun e => ?_, hl⟩
    · have := h.disk.bd x hs; omega
    · have := h1.lt; omega
    · have := h.jat.lt; omega
theorem Tab.len {h0 : Nat} {F : Nat → Prop} {w : World} {S : Nat → Prop} {g : Nat} {D : Dk} {sb jb n : Nat} {L K : List Mf} (h : Tab h0 F w S g D sb jb n L K) : 1 ≤ L.length ∧ L.length ≤ n := by
  have h1 := h.shL.toPre.len
  have h2 := h.shL.len
  rw [lfs_len] at h1 h2
  exact ⟨h1, h2⟩
/-- The leaves are other ones. -/
theorem Tab.set {h0 : Nat} {F : Nat → Prop} {w w1 : World} {S : Nat → Prop} {g : Nat} {D : Dk} {sb jb n : Nat} {L K : List Mf} (h : Tab h0 F w S g D sb jb n L K) (hb : Below w.heap.size w w1) {a : Option Addr} {c : Nat} {L' : List Mf} (hL : Lw (fun x => F x ∨ w.heap.size ≤ x) w1 a L'.length c L') (hs : Shape n (lfs L')) :
    Tab h0 (mor F w w1) (w1.setCell ⟨sb, 1, none⟩ (.slice a L'.length c)) S g D sb jb n L' K ∧ Fr F w (mor F w w1) (w1.setCell ⟨sb, 1, none⟩ (.slice a L'.length c)) ∧ Below h0 w (w1.setCell ⟨sb, 1, none⟩ (.slice a L'.length c)) := by
  have hT := h.below hb
  obtain ⟨al, cl, ag, cg, h1, h2, h3⟩ := hT.sat
  have hsz : (w1.setCell ⟨sb, 1, none⟩ (.slice a L'.length c)).heap.size = w1.heap.size := by simp
  have hoth : ∀ k, k ≠ sb → (w1.setCell ⟨sb, 1, none⟩ (.slice a L'.length c)).heap[k]? = w1.heap[k]? := fun k hk => Below.heap_setCell _ _ _ _ hk
  have hFs : ∀ x, mor F w w1 x → x ≠ sb := fun x hx => (hT.fF x hx).2.1
  have hf : Fr (mor F w w1) w1 (mor F w w1) (w1.setCell ⟨sb, 1, none⟩ (.slice a L'.length c)) := ⟨by omega, fun _ h => h, fun x hx _ => hoth x (hFs x hx)⟩
  refine ⟨{ hT with disk := hT.disk.keep (fun x hx => hoth x (fun e => hT.ss (by rw [← e]; exact hx))), jat := (hoth jb (fun e => hT.sbj e.symm)).trans hT.jat, sat := ⟨a, c, ag, cg, ?_, ?_, h3.fr hf⟩, shL := hs, fF := fun x hx => by have := hT.fF x hx; exact ⟨this.1, this.2.1, this.2.2.1, by omega⟩, h0w := by rw [hsz]; exact hT.h0w }, (Fr.below hb).trans hf, ?_⟩
  · unfold Sat
    rw [heap_setCell_same _ _ _ _ _ _ h1]
    rfl
  · refine Lw.fr (hL.mono fun x hx hl => ?_) hf
    rcases hx with hx | hx
    · exact .inl hx
    · exact .inr ⟨hx, hl⟩
  · exact (hb.mono h.h0w).setCell h.h0s _
end Go.Proofs.YtnafalkcgghjgaaGreatDoor
namespace Go.Proofs.YtnafalkcgghjgaaGreatDoor
open Go.RowKit Go.Shelf
/-- What with makes of the leaves. -/
structure Made (G : Nat → Prop) (base : Nat) (w' : World) (L : List Mf) (i : Nat) (m : Mf) (es : List Pr) (g cap : Nat) (J : List Mf) (Q : List Lf) : Prop where
  lo : Lo G base w' g cap J
  jn : Jn (lfs (L.take i) ++ Q ++ lfs (L.drop (i + 1))) (lfs (L.take i) ++ Q ++ lfs (L.drop (i + 1))).length (lfs J)
  pg : Q.map Lf.page = [m.page] ∨ Q.map Lf.page = [m.page, -1]
  one : szL es ≤ 1023 → Q.map Lf.page = [m.page]
  fl : flat Q = es
  j0 : 0 < J.length
  ln : J.length ≤ L.length + 1
set_option maxRecDepth 100000 in
set_option maxHeartbeats 4000000 in
theorem with_any {G : Nat → Prop} {w : World} (hG : ∀ x, w.heap.size ≤ x → G x) {sb jb : Nat} {al : Option Addr} {nl cl : Nat} {ag : Option Addr} {ng cg : Nat} {L : List Mf} (hs : Sat w sb jb al nl cl ag ng cg) (hL : Lw G w al nl cl L) (hnl : nl ≤ 200) (hz : ∀ x ∈ lfs L, x.sz ≤ 1023)
    (i : Nat) (m : Mf) (hm : L[i]? = some m) (ea : Option Addr) (en ec : Nat) (es : List Pr) (he : Pw G w ea en ec es) (h2 : szL es ≤ 1490) (h3 : ∀ p ∈ es, eSz p ≤ 467) :
    Calls Tryz.prog 41 #[.pointer (some ⟨sb, 0, none⟩), .int .i64 (i : Int), .slice ea en ec] w fun e w' => ∃ g cap J Q, e = .returned (.slice (some ⟨g, 0, none⟩) J.length cap) ∧ Made G w.heap.size w' L i m es g cap J Q ∧ Below w.heap.size w w' := by
  have hll := hL.len
  have hcap : nl ≤ cl := hL.1.2.1
  have hil : i < nl := by have := (List.getElem?_eq_some_iff.1 hm).1; omega
  obtain ⟨b, o, rfl, hb, _, hc⟩ := hL.at (by omega)
  obtain ⟨d1, d2, d3⟩ := hc i m hm
  obtain ⟨s0, s1, s2⟩ := hs.cells
  have hsl := hs.lt
  have hcut := cut_lfs (some ⟨b, o, none⟩) nl cl i (by omega)
  obtain ⟨q, hq⟩ : ∃ q, i + 1 = q := ⟨_, rfl⟩
  have hqi : (i : Int) + 1 = (q : Int) := by omega
  have hoff := off_lfs (some ⟨b, o, none⟩) nl cl q (by omega)
  have HS : Hid (∀ W, Below w.heap.size w W → W.cell? ⟨sb, 1, none⟩ = some (.slice (some ⟨b, o, none⟩) nl cl) ∧ W.cell? ⟨b, o + i * 3, none⟩ = some (.int .i64 m.page)) := fun W hW =>
    ⟨by rw [hW.cell (p := ⟨sb, 1, none⟩) hsl]; exact s1, by rw [hW.cell (p := ⟨b, _, none⟩) hb]; exact d1⟩
  have HLW : Hid (∀ W, Below w.heap.size w W → Lw G W (some ⟨b, o, none⟩) nl cl L) := fun W hW => hL.below hW
  have HG : Hid (∀ x, w.heap.size ≤ x → G x) := hG
  have HZ : Hid (∀ x ∈ lfs L, x.sz ≤ 1023) := hz
  have HPT := part_any (w := w.drew) hG m.page ea en ec es (he.below (Below.refl _ _).drew) h2 h3
  obtain ⟨ca, hca⟩ : ∃ ca, cutA (some ⟨b, o, none⟩) i 0 3 = ca := ⟨_, rfl⟩
  obtain ⟨oa, hoa⟩ : ∃ oa, cutA (some ⟨b, o, none⟩) cl q 3 = oa := ⟨_, rfl⟩
  rw [hca] at hcut
  rw [hoa] at hoff
  have HCO : Hid (∀ W, Below w.heap.size w W → Lw G W ca i i (L.take i) ∧ Lw G W oa (nl - q) (cl - q) (L.drop q)) := fun W hW => by
    rw [← hca, ← hoa]
    exact ⟨(HLW.out W hW).take i (by omega), (HLW.out W hW).drop q (by omega)⟩
  have hwi : IntKind.i64.wrap (i : Int) = (i : Int) := wrap_small i (by omega)
  have hli : (i : Int) < (nl : Int) := by omega
  clear hL hs hc d2 d3 s0 s2 hG hz hca hoa he
  go_enter Tryz.func41, Tryz.ntmps41
  go_wp2
  refine wp_region_held_drew (S := fun V => V.cell? ⟨sb, 1, none⟩ = some (.slice (some ⟨b, o, none⟩) nl cl) ∧ V.cell? ⟨b, o + i * 3, none⟩ = some (.int .i64 m.page)) (by kernel_rfl) (HS.out _ (Below.refl _ _).drew) (fun hHeld => ?_)
  refine wpAnyH_take (i := 0) (v := ?v0) rfl (by kernel_rfl) (by kernel_rfl) (by kernel_rfl) (fun _ _ _ h => h) (Or.inl ⟨by first | kernel_rfl | rfl, ?y0⟩) hHeld ?r0
  case y0 => (intro W hSW; (try dsimp only at hSW); go_simp; (try with_reducible rfl))
  change wpAnyH _ _ _ _ _ _ _ (Act.put _ (some 8) _) _
  simp only [Act.put, List.setIfInBounds_toArray, List.set_cons_zero, List.set_cons_succ]
  refine wpAnyH_take (i := 1) (v := ?v1) rfl (by kernel_rfl) (by kernel_rfl) (by kernel_rfl) (fun _ _ _ h => h) (Or.inl ⟨by first | kernel_rfl | rfl, ?y1⟩) hHeld ?r1
  case y1 => (intro W hSW; (try dsimp only at hSW); go_simp; (try with_reducible rfl))
  change wpAnyH _ _ _ _ _ _ _ (Act.put _ (some 9) _) _
  simp only [Act.put, List.setIfInBounds_toArray, List.set_cons_zero, List.set_cons_succ]
  refine wpAnyH_take (i := 2) (v := ?v2) rfl (by kernel_rfl) (by kernel_rfl) (by kernel_rfl) (fun _ _ _ h => h) (Or.inl ⟨by first | kernel_rfl | rfl, ?y2⟩) hHeld ?r2
  case y2 => (intro W hSW; (try dsimp only at hSW); go_simp; (try with_reducible rfl))
  change wpAnyH _ _ _ _ _ _ _ (Act.put _ (some 10) _) _
  simp only [Act.put, List.setIfInBounds_toArray, List.set_cons_zero, List.set_cons_succ]
  refine wpAnyH_take (i := 3) (v := ?v3) rfl (by kernel_rfl) (by kernel_rfl) (by kernel_rfl) (fun _ _ _ h => h) (Or.inl ⟨by first | kernel_rfl | rfl, ?y3⟩) hHeld ?r3
  case y3 => (intro W hSW; (try dsimp only at hSW); go_simp; (try with_reducible rfl))
  change wpAnyH _ _ _ _ _ _ _ (Act.put _ (some 11) _) _
  simp only [Act.put, List.setIfInBounds_toArray, List.set_cons_zero, List.set_cons_succ]
  refine wpAnyH_take (i := 4) (v := ?v4) rfl (by kernel_rfl) (by kernel_rfl) (by kernel_rfl) (fun _ _ _ h => h) (Or.inl ⟨by first | kernel_rfl | rfl, ?y4⟩) hHeld ?r4
  case y4 => (intro W hSW; (try dsimp only at hSW); go_simp; (try with_reducible rfl))
  change wpAnyH _ _ _ _ _ _ _ (Act.put _ (some 12) _) _
  simp only [Act.put, List.setIfInBounds_toArray, List.set_cons_zero, List.set_cons_succ]
  refine wpAnyH_take (i := 5) (v := ?v5) rfl (by kernel_rfl) (by kernel_rfl) (by kernel_rfl) (fun _ _ _ h => h) (Or.inl ⟨by first | kernel_rfl | rfl, ?y5⟩) hHeld ?r5
  case y5 => (intro W hSW; (try dsimp only at hSW); go_simp; (try with_reducible rfl))
  change wpAnyH _ _ _ _ _ _ _ (Act.put _ (some 13) _) _
  simp only [Act.put, List.setIfInBounds_toArray, List.set_cons_zero, List.set_cons_succ]
  refine wpAnyH_take (i := 6) (v := ?v6) rfl (by kernel_rfl) (by kernel_rfl) (by kernel_rfl) (fun _ _ _ h => h) (Or.inl ⟨by first | kernel_rfl | rfl, ?y6⟩) hHeld ?r6
  case y6 => (intro W hSW; (try dsimp only at hSW); go_simp; (try with_reducible rfl))
  change wpAnyH _ _ _ _ _ _ _ (Act.put _ (some 14) _) _
  simp only [Act.put, List.setIfInBounds_toArray, List.set_cons_zero, List.set_cons_succ]
  refine wpAnyH_take (i := 7) (v := ?v7) rfl (by kernel_rfl) (by kernel_rfl) (by kernel_rfl) (fun _ _ _ h => h) (Or.inl ⟨by first | kernel_rfl | rfl, ?y7⟩) hHeld ?r7
  case y7 => (intro W hSW; (try dsimp only at hSW); go_simp; (try with_reducible rfl))
  change wpAnyH _ _ _ _ _ _ _ (Act.put _ (some 15) _) _
  simp only [Act.put, List.setIfInBounds_toArray, List.set_cons_zero, List.set_cons_succ]
  refine wpAnyH_take (i := 8) (v := ?v8) rfl (by kernel_rfl) (by kernel_rfl) (by kernel_rfl) (fun _ _ _ h => h) (Or.inl ⟨by first | kernel_rfl | rfl, ?y8⟩) hHeld ?r8
  case y8 => (intro W hSW; (try dsimp only at hSW); go_simp; (try with_reducible rfl))
  change wpAnyH _ _ _ _ _ _ _ (Act.put _ (some 16) _) _
  simp only [Act.put, List.setIfInBounds_toArray, List.set_cons_zero, List.set_cons_succ]
  refine wpAnyH_take (i := 9) (v := ?v9) rfl (by kernel_rfl) (by kernel_rfl) (by kernel_rfl) (fun _ _ _ h => h) (Or.inl ⟨by first | kernel_rfl | rfl, ?y9⟩) hHeld ?r9
  case y9 => (intro W hSW; (try dsimp only at hSW); go_simp; (try with_reducible rfl))
  change wpAnyH _ _ _ _ _ _ _ (Act.put _ (some 17) _) _
  simp only [Act.put, List.setIfInBounds_toArray, List.set_cons_zero, List.set_cons_succ]
  refine wpAnyH_take (i := 10) (v := ?v10) rfl (by kernel_rfl) (by kernel_rfl) (by kernel_rfl) (fun _ _ _ h => h) (Or.inl ⟨by first | kernel_rfl | rfl, ?y10⟩) hHeld ?r10
  case y10 => (intro W hSW; (try dsimp only at hSW); go_simp; (try with_reducible rfl))
  change wpAnyH _ _ _ _ _ _ _ (Act.put _ (some 18) _) _
  simp only [Act.put, List.setIfInBounds_toArray, List.set_cons_zero, List.set_cons_succ]
  refine wpAnyH_take (i := 11) (v := ?v11) rfl (by kernel_rfl) (by kernel_rfl) (by kernel_rfl) (fun _ _ _ h => h) (Or.inl ⟨by first | kernel_rfl | rfl, ?y11⟩) hHeld ?r11
  case y11 => (intro W hSW; (try dsimp only at hSW); go_simp; (try with_reducible rfl))
  change wpAnyH _ _ _ _ _ _ _ (Act.put _ (some 19) _) _
  simp only [Act.put, List.setIfInBounds_toArray, List.set_cons_zero, List.set_cons_succ]
  refine wpAnyH_take (i := 12) (v := ?v12) rfl (by kernel_rfl) (by kernel_rfl) (by kernel_rfl) (fun _ _ _ h => h) (Or.inl ⟨by first | kernel_rfl | rfl, ?y12⟩) hHeld ?r12
  case y12 => (intro W hSW; (try dsimp only at hSW); go_simp; (try with_reducible rfl))
  change wpAnyH _ _ _ _ _ _ _ (Act.put _ (some 20) _) _
  simp only [Act.put, List.setIfInBounds_toArray, List.set_cons_zero, List.set_cons_succ]
  refine wpAnyH_take (i := 13) (v := ?v13) rfl (by kernel_rfl) (by kernel_rfl) (by kernel_rfl) (fun _ _ _ h => h) (Or.inl ⟨by first | kernel_rfl | rfl, ?y13⟩) hHeld ?r13
  case y13 => (intro W hSW; (try dsimp only at hSW); go_simp; (try with_reducible rfl))
  change wpAnyH _ _ _ _ _ _ _ (Act.put _ (some 21) _) _
  simp only [Act.put, List.setIfInBounds_toArray, List.set_cons_zero, List.set_cons_succ]
  refine wpAnyH_take (i := 14) (v := ?v14) rfl (by kernel_rfl) (by kernel_rfl) (by kernel_rfl) (fun _ _ _ h => h) (Or.inl ⟨by first | kernel_rfl | rfl, ?y14⟩) hHeld ?r14
  case y14 => (intro W hSW; (try dsimp only at hSW); go_simp; (try with_reducible rfl))
  change wpAnyH _ _ _ _ _ _ _ (Act.put _ (some 22) _) _
  simp only [Act.put, List.setIfInBounds_toArray, List.set_cons_zero, List.set_cons_succ]
  refine wpAnyH_take (i := 15) (v := ?v15) rfl (by kernel_rfl) (by kernel_rfl) (by kernel_rfl) (fun _ _ _ h => h) (Or.inl ⟨by first | kernel_rfl | rfl, ?y15⟩) hHeld ?r15
  case y15 => (intro W hSW; (try dsimp only at hSW); go_simp; (try with_reducible rfl))
  change wpAnyH _ _ _ _ _ _ _ (Act.put _ (some 23) _) _
  simp only [Act.put, List.setIfInBounds_toArray, List.set_cons_zero, List.set_cons_succ]
  refine wpAnyH_ready (rs := [16]) (by kernel_rfl) (by simp) ?_
  refine AllReadyH.cons rfl (fun K hK => ?_) AllReadyH.nil
  go_simp
  refine (HPT).mono ?_
  rintro e V1 ⟨gq, Q, rfl, hPt, hb1⟩; have hbw1 : Below w.heap.size w V1 := (Below.refl _ w).drew.trans hb1; obtain ⟨aA, cA, V2, hrA, hb2, hres⟩ := addL_full V1 (HCO.out V1 hbw1).1 hPt.lw (by have := hPt.ln; omega); have hbw2 : Below w.heap.size w V2 := hbw1.trans (hb2.mono hbw1.size)
  refine hK.out _ _ (HS.out V1 hbw1) (fun hHeld => ?_)
  clear hK K
  try simp only [Act.put, List.setIfInBounds_toArray, List.set_cons_zero, List.set_cons_succ]
  refine wpAnyH_ready (rs := [17]) (by kernel_rfl) (by simp) ?_
  refine AllReadyH.cons rfl (fun K hK => ?_) AllReadyH.nil
  rw [if_pos (by rfl)]
  refine wp_app _ _ _ _ _ rfl rfl rfl (hrA _) ?_
  skip
  refine hK.out _ _ (HS.out V2 hbw2) (fun hHeld => ?_)
  clear hK K
  change wpAnyH _ _ _ _ _ _ _ (Act.put _ (some 25) _) _
  simp only [Act.put, List.setIfInBounds_toArray, List.set_cons_zero, List.set_cons_succ]
  refine wpAnyH_take (i := 18) (v := ?v18) rfl (by kernel_rfl) (by kernel_rfl) (by kernel_rfl) (fun _ _ _ h => h) (Or.inl ⟨by first | kernel_rfl | rfl, ?y18⟩) hHeld ?r18
  case y18 => (intro W hSW; (try dsimp only at hSW); go_simp; (try with_reducible rfl))
  change wpAnyH _ _ _ _ _ _ _ (Act.put _ (some 7) _) _
  simp only [Act.put, List.setIfInBounds_toArray, List.set_cons_zero, List.set_cons_succ]
  refine wpAnyH_done (by kernel_rfl) ?_ _
  have hown2 : V2.ownsRow V1.heap.size 85 3 (.slice aA (i + Q.length) cA) (i + Q.length) (mfV (L.take i ++ Q)) := by
    rcases hres with ⟨e1, _⟩ | ⟨_, h⟩
    · have := hPt.ln; omega
    · exact h
  have hent2 : Ents G V2 (L.take i ++ Q) := ((HCO.out V1 hbw1).1.2.app hPt.lw.2).below hb2
  clear HPT hres hrA hb1 hHeld
  have HV2 : Hid (V2.ownsRow V1.heap.size 85 3 (.slice aA (i + Q.length) cA) (i + Q.length) (mfV (L.take i ++ Q)) ∧ Ents G V2 (L.take i ++ Q) ∧ Below w.heap.size w V2) := ⟨hown2, hent2, hbw2⟩
  obtain ⟨c1, c2⟩ := HS.out V2 hbw2
  have hsrc := (HCO.out V2 hbw2).2
  obtain ⟨aB, cB, V3, hrB, hoB, hgB, hatB⟩ := addL_own V2 hown2 hsrc.1 (by have := hPt.ln; omega) (by have := hb2.size; omega)
  have hlenM : (L.take i ++ Q ++ L.drop q).length = i + Q.length + (nl - q) := by
    have := hoB.1
    rw [mfV_len] at this
    omega
  have hentM : Ents G V3 (L.take i ++ Q ++ L.drop q) := (grown_ents hown2 hgB hent2).app (grown_ents hown2 hgB hsrc.2)
  have hbw3 : Below w.heap.size w V3 := hbw2.grown hgB hbw2.size (fun k hk => Nat.le_trans hbw1.size (hown2.lt k (by rw [ob_slice]; exact hk)).1)
  have hMz : ∀ x ∈ lfs (L.take i ++ Q ++ L.drop q), x.sz ≤ 1023 := by
    intro x hx
    rw [lfs_app, lfs_app] at hx
    rcases List.mem_append.1 hx with hx | hx
    · rcases List.mem_append.1 hx with hx | hx
      · obtain ⟨y, hy, rfl⟩ := List.mem_map.1 hx
        exact HZ.out _ (List.mem_map_of_mem (List.mem_of_mem_take hy))
      · exact hPt.sz x hx
    · obtain ⟨y, hy, rfl⟩ := List.mem_map.1 hx
      exact HZ.out _ (List.mem_map_of_mem (List.mem_of_mem_drop hy))
  have hGV : ∀ x, V3.heap.size ≤ x → G x := fun x hx => HG.out x (Nat.le_trans hbw3.size hx)
  have hGb : ∀ x, V1.heap.size ≤ x → G x := fun x hx => HG.out x (Nat.le_trans hbw1.size hx)
  have HJ := join_any hGV aB (i + Q.length + (nl - q)) cB (L.take i ++ Q ++ L.drop q) ⟨Rw.own hoB hGb, hentM⟩ (by have := hPt.ln; omega) (by have := hPt.ln; omega) hMz
  have HPt : Hid (Parted G V1 m.page es gq Q) := hPt
  have HB3 : Hid (Below w.heap.size w V3 ∧ (L.take i ++ Q ++ L.drop q).length = i + Q.length + (nl - q)) := ⟨hbw3, hlenM⟩
  have hQ3 : Q.length = 1 ∨ Q.length = 2 := hPt.ln
  obtain ⟨k, hk⟩ : ∃ k, i + Q.length = k := ⟨_, rfl⟩
  rw [hk] at hrB HJ
  have HK : Hid (i + Q.length = k) := hk
  clear hown2 hent2 hbw2 hbw1 hb2 hoB hgB hatB hlenM hentM hbw3 hMz hGV hGb hPt hsrc
  rw [hk]
  go_wp2_with (at_builtin; refine wpList_app _ rfl _ _ _ _ rfl rfl rfl (hrB _) ?_)
  refine HJ.mono ?_
  rintro e V4 ⟨g4, cap4, J, rfl, hlo, hjn, hj0, hjl, hb4⟩
  have HE : Hid (Lo G V3.heap.size V4 g4 cap4 J ∧ Jn (lfs (L.take i ++ Q ++ L.drop q)) (k + (nl - q)) (lfs J) ∧ 0 < J.length ∧ J.length ≤ k + (nl - q) ∧ Below V3.heap.size V3 V4) := ⟨hlo, hjn, hj0, hjl, hb4⟩
  clear HJ hlo hjn hj0 hjl hb4
  go_wp2
  go_ret
  refine ⟨g4, cap4, J, lfs Q, rfl, ⟨⟨own_base HE.out.1.own HB3.out.1.size, HE.out.1.ent⟩, ?_, HPt.out.pg, ?_, HPt.out.fl, HE.out.2.2.1, ?_⟩, HB3.out.1.trans (HE.out.2.2.2.2.mono HB3.out.1.size)⟩
  · have := HE.out.2.1
    rw [← HK.out, ← HB3.out.2, lfs_app, lfs_app, ← lfs_len (L.take i ++ Q ++ L.drop q), lfs_app, lfs_app] at this
    rw [hq]
    exact this
  · intro h
    have h5 := HPt.out.one h
    rcases HPt.out.pg with h6 | h6
    · exact h6
    · have := congrArg List.length h6
      rw [List.length_map, lfs_len, h5] at this
      simp at this
  · have := HE.out.2.2.2.1
    have := HK.out
    omega
end Go.Proofs.YtnafalkcgghjgaaGreatDoor
