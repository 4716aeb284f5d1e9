/- A table in memory, with the disk and the journal below it. -/
import Derived.Test.YtnafalkcgghjgaaGreatDoorSD
import Derived.Test.YtnafalkcgghjgaaGreatDoorSF
import Derived.Test.YtnafalkcgghjgaaGreatDoorSG
import Derived.Test.YtnafalkcgghjgaaGreatDoorJP
namespace Go.Proofs.YtnafalkcgghjgaaGreatDoor
open Go.RowKit Go.Shelf
/-- What lies in F stays. -/
structure Fr (F : Nat → Prop) (w : World) (F' : Nat → Prop) (w' : World) : Prop where
  sz : w.heap.size ≤ w'.heap.size
  sub : ∀ x, F x → F' x
  blk : ∀ x, F x → x < w.heap.size → w'.heap[x]? = w.heap[x]?
theorem Fr.refl (F : Nat → Prop) (w : World) : Fr F w F w := ⟨Nat.le_refl _, fun _ h => h, fun _ _ _ => rfl⟩
theorem Fr.trans {F F' F'' : Nat → Prop} {w w' w'' : World} (h : Fr F w F' w') (k : Fr F' w' F'' w'') : Fr F w F'' w'' :=
  ⟨Nat.le_trans h.sz k.sz, fun x hx => k.sub x (h.sub x hx), fun x hx hl => (k.blk x (h.sub x hx) (Nat.lt_of_lt_of_le hl h.sz)).trans (h.blk x hx hl)⟩
theorem Rw.fr {F F' : Nat → Prop} {w w' : World} {et sz : Nat} {a : Option Addr} {len cap : Nat} {xs : List Value} (h : Rw F w et sz a len cap xs) (f : Fr F w F' w') : Rw F' w' et sz a len cap xs := by
  obtain ⟨h1, h2, h3, h4⟩ := h
  refine ⟨h1, h2, h3, fun h0 => ?_⟩
  obtain ⟨b, o, rfl, ⟨cur, fr, hb⟩, hg, hc⟩ := h4 h0
  have e := f.blk b hg (lt_of_some hb)
  exact ⟨b, o, rfl, ⟨cur, fr, e.trans hb⟩, f.sub b hg, fun j u hu => by rw [World.cell?_of_block (w := w) e]; exact hc j u hu⟩
theorem Pw.fr {F F' : Nat → Prop} {w w' : World} {a : Option Addr} {len cap : Nat} {l : List Pr} (h : Pw F w a len cap l) (f : Fr F w F' w') : Pw F' w' a len cap l := Rw.fr h f
theorem Lw.fr {F F' : Nat → Prop} {w w' : World} {a : Option Addr} {len cap : Nat} {l : List Mf} (h : Lw F w a len cap l) (f : Fr F w F' w') : Lw F' w' a len cap l := ⟨h.1.fr f, fun m hm => Rw.fr (h.2 m hm) f⟩
/-- The blocks of F, and those that were made since. -/
def mor (F : Nat → Prop) (w w' : World) : Nat → Prop := fun x => F x ∨ (w.heap.size ≤ x ∧ x < w'.heap.size)
theorem Fr.below {F : Nat → Prop} {w w' : World} (hb : Below w.heap.size w w') : Fr F w (mor F w w') w' := ⟨hb.size, fun _ h => .inl h, fun x _ hl => hb.block x hl⟩
/-- A table: h0 is where all begins that may be turned. -/
structure Tab (h0 : Nat) (F : Nat → Prop) (w : World) (S : Nat → Prop) (g : Nat) (D : Dk) (sb jb n : Nat) (L K : List Mf) : Prop where
  disk : DiskIs w S g D
  jat : Jat w jb g n
  sat : ∃ al cl ag cg, Sat w sb jb al L.length cl ag K.length cg ∧ Lw F w al L.length cl L ∧ Lw F w ag K.length cg K
  shL : Shape n (lfs L)
  shK : Shape n (lfs K)
  n2 : 2 ≤ n
  n12 : n ≤ 12
  sj : ¬ S jb
  ss : ¬ S sb
  sbj : sb ≠ jb
  fF : ∀ x, F x → ¬ S x ∧ x ≠ sb ∧ x ≠ jb ∧ x < w.heap.size
  h0s : h0 ≤ sb
  h0S : ∀ x, S x → h0 ≤ x
  h0w : h0 ≤ w.heap.size
theorem Sat.upd {w w' : World} {T : Nat → Prop} {sb jb : Nat} {al : Option Addr} {nl cl : Nat} {ag : Option Addr} {ng cg : Nat} (h : Sat w sb jb al nl cl ag ng cg) (hu : Upd T w w') (ht : ¬ T sb) : Sat w' sb jb al nl cl ag ng cg := (hu.block sb h.lt ht).trans h
theorem Tab.below {h0 : Nat} {F : Nat → Prop} {w w' : World} {S : Nat → Prop} {g : Nat} {D : Dk} {sb jb n : Nat} {L K : List Mf} (h : Tab h0 F w S g D sb jb n L K) (hb : Below w.heap.size w w') : Tab h0 (mor F w w') w' S g D sb jb n L K := by
  obtain ⟨al, cl, ag, cg, h1, h2, h3⟩ := h.sat
  refine { h with disk := h.disk.below hb, jat := h.jat.below hb, sat := ⟨al, cl, ag, cg, h1.below hb, h2.fr (Fr.below hb), h3.fr (Fr.below hb)⟩, fF := fun x hx => ?_, h0w := Nat.le_trans h.h0w hb.size }
  rcases hx with hx | ⟨hx, hl⟩
  · have := h.fF x hx
    exact ⟨this.1, this.2.1, this.2.2.1, Nat.lt_of_lt_of_le this.2.2.2 hb.size⟩
  · refine ⟨fun hs => ?_, fun e => ?_, fun e => ?_, hl⟩
    · have := h.disk.bd x hs; omega
    · have := h1.lt; omega
    · have := h.jat.lt; omega
theorem Tab.len {h0 : Nat} {F : Nat → Prop} {w : World} {S : Nat → Prop} {g : Nat} {D : Dk} {sb jb n : Nat} {L K : List Mf} (h : Tab h0 F w S g D sb jb n L K) : 1 ≤ L.length ∧ L.length ≤ n := by
  have h1 := h.shL.toPre.len
  have h2 := h.shL.len
  rw [lfs_len] at h1 h2
  exact ⟨h1, h2⟩
/-- The leaves are other ones. -/
theorem Tab.set {h0 : Nat} {F : Nat → Prop} {w w1 : World} {S : Nat → Prop} {g : Nat} {D : Dk} {sb jb n : Nat} {L K : List Mf} (h : Tab h0 F w S g D sb jb n L K) (hb : Below w.heap.size w w1) {a : Option Addr} {c : Nat} {L' : List Mf} (hL : Lw (fun x => F x ∨ w.heap.size ≤ x) w1 a L'.length c L') (hs : Shape n (lfs L')) :
    Tab h0 (mor F w w1) (w1.setCell ⟨sb, 1, none⟩ (.slice a L'.length c)) S g D sb jb n L' K ∧ Fr F w (mor F w w1) (w1.setCell ⟨sb, 1, none⟩ (.slice a L'.length c)) ∧ Below h0 w (w1.setCell ⟨sb, 1, none⟩ (.slice a L'.length c)) := by
  have hT := h.below hb
  obtain ⟨al, cl, ag, cg, h1, h2, h3⟩ := hT.sat
  have hsz : (w1.setCell ⟨sb, 1, none⟩ (.slice a L'.length c)).heap.size = w1.heap.size := by simp
  have hoth : ∀ k, k ≠ sb → (w1.setCell ⟨sb, 1, none⟩ (.slice a L'.length c)).heap[k]? = w1.heap[k]? := fun k hk => Below.heap_setCell _ _ _ _ hk
  have hFs : ∀ x, mor F w w1 x → x ≠ sb := fun x hx => (hT.fF x hx).2.1
  have hf : Fr (mor F w w1) w1 (mor F w w1) (w1.setCell ⟨sb, 1, none⟩ (.slice a L'.length c)) := ⟨by omega, fun _ h => h, fun x hx _ => hoth x (hFs x hx)⟩
  refine ⟨{ hT with disk := hT.disk.keep (fun x hx => hoth x (fun e => hT.ss (by rw [← e]; exact hx))), jat := (hoth jb (fun e => hT.sbj e.symm)).trans hT.jat, sat := ⟨a, c, ag, cg, ?_, ?_, h3.fr hf⟩, shL := hs, fF := fun x hx => by have := hT.fF x hx; exact ⟨this.1, this.2.1, this.2.2.1, by omega⟩, h0w := by rw [hsz]; exact hT.h0w }, (Fr.below hb).trans hf, ?_⟩
  · unfold Sat
    rw [heap_setCell_same _ _ _ _ _ _ h1]
    rfl
  · refine Lw.fr (hL.mono fun x hx hl => ?_) hf
    rcases hx with hx | hx
    · exact .inl hx
    · exact .inr ⟨hx, hl⟩
  · exact (hb.mono h.h0w).setCell h.h0s _
end Go.Proofs.YtnafalkcgghjgaaGreatDoor
