/- The state that ShelfWhole goes through; a Torn, as it comes in. -/
import Derived.Test.YtnafalkcgghjgaaGreatDoorTK
namespace Go.Proofs.YtnafalkcgghjgaaGreatDoor
open Go.ChangeShapes Go.WideShapes Go.ChangeAt Go.RowKit Go.Deep Go.Shelf
/-- A table, and two rows beside it. -/
def Wh (w0 V : World) (S : Nat → Prop) (g : Nat) (D : Dk) (sb jb n : Nat) (L K : List Mf) (a : Option Addr) (la ca : Nat) (A : List Pr) (b : Option Addr) (lb cb : Nat) (B : List Pr) : Prop := ∃ F, Tab w0.heap.size F V S g D sb jb n L K ∧ Pw F V a la ca A ∧ Pw F V b lb cb B ∧ Below w0.heap.size w0 V
/-- A store, and two rows beside it. -/
def Wj (w0 V : World) (S : Nat → Prop) (g : Nat) (D : Dk) (jb n : Nat) (a : Option Addr) (la ca : Nat) (A : List Pr) (b : Option Addr) (lb cb : Nat) (B : List Pr) : Prop := ∃ F, Sto w0.heap.size F V S g D jb n ∧ Pw F V a la ca A ∧ Pw F V b lb cb B ∧ Below w0.heap.size w0 V
section
variable {w0 V : World} {S : Nat → Prop} {g : Nat} {D : Dk} {sb jb n : Nat} {L K : List Mf} {a : Option Addr} {la ca : Nat} {A : List Pr} {b : Option Addr} {lb cb : Nat} {B : List Pr}
theorem Wh.on (h : Wh w0 V S g D sb jb n L K a la ca A b lb cb B) : Below w0.heap.size w0 V := by obtain ⟨F, _, _, _, hb⟩ := h; exact hb
theorem Wh.below {V' : World} (h : Wh w0 V S g D sb jb n L K a la ca A b lb cb B) (hb : Below V.heap.size V V') : Wh w0 V' S g D sb jb n L K a la ca A b lb cb B := by
  obtain ⟨F, ht, h1, h2, h0⟩ := h
  exact ⟨_, ht.below hb, h1.fr (Fr.below hb), h2.fr (Fr.below hb), h0.trans (hb.mono h0.size)⟩
theorem Wh.rows (h : Wh w0 V S g D sb jb n L K a la ca A b lb cb B) : Pw (fun _ => True) V a la ca A ∧ Pw (fun _ => True) V b lb cb B := by
  obtain ⟨F, ht, h1, h2, h0⟩ := h
  exact ⟨Rw.mono h1 (fun _ _ _ => trivial), Rw.mono h2 (fun _ _ _ => trivial)⟩
theorem Wh.shapes (h : Wh w0 V S g D sb jb n L K a la ca A b lb cb B) : Shape n (lfs L) ∧ Shape n (lfs K) ∧ 2 ≤ n ∧ n ≤ 12 := by
  obtain ⟨F, ht, h1, h2, h0⟩ := h
  exact ⟨ht.shL, ht.shK, ht.n2, ht.n12⟩
theorem Wh.disk (h : Wh w0 V S g D sb jb n L K a la ca A b lb cb B) : DiskIs V S g D ∧ ∀ x, S x → w0.heap.size ≤ x := by
  obtain ⟨F, ht, h1, h2, h0⟩ := h
  exact ⟨ht.disk, ht.h0S⟩
theorem KeptR.wh {KK : List Mf} (h : KeptR w0 V S g D sb jb n KK a la ca A) : ∃ L, Wh w0 V S g D sb jb n L KK a la ca A none 0 0 [] := by
  obtain ⟨F, L, ht, hr, h0⟩ := h
  exact ⟨L, F, ht, hr, Rw.zero _ _ _ _ _ _ (Nat.zero_le _), h0⟩
theorem Wh.kept (h : Wh w0 V S g D sb jb n L K a la ca A b lb cb B) : KeptR w0 V S g D sb jb n K a la ca A := by
  obtain ⟨F, ht, h1, h2, h0⟩ := h
  exact ⟨F, L, ht, h1, h0⟩
theorem Wh.mut {D' : Dk} {V' : World} (h : Wh w0 V S g D sb jb n L K a la ca A b lb cb B) (m : Mut S V g D' V') : ∃ S', Wh w0 V' S' g D' sb jb n L K a la ca A b lb cb B := by
  obtain ⟨F, ht, h1, h2, h0⟩ := h
  obtain ⟨S', hd, hu, hs⟩ := m
  obtain ⟨k1, k2, k3⟩ := ht.turn hd hu hs
  exact ⟨S', F, k1, h1.fr k2, h2.fr k2, h0.trans k3⟩
theorem wh_all_a (h : Wh w0 V S g D sb jb n L K a la ca A b lb cb B) : Calls Tryz.prog 26 #[.pointer (some ⟨sb, 0, none⟩)] V fun e w' => ∃ (ra : Option Addr) (rn rc : Nat), e = .returned (.slice ra rn rc) ∧ Wh w0 w' S g D sb jb n L K ra rn rc (flat (lfs L)) b lb cb B ∧ Below V.heap.size V w' := by
  obtain ⟨F, ht, h1, h2, h0⟩ := h
  refine (every_any ht).mono ?_
  rintro e w' ⟨ra, rn, rc, rfl, hp, _, hb⟩
  exact ⟨ra, rn, rc, rfl, ⟨_, ht.below hb, hp, h2.fr (Fr.below hb), h0.trans (hb.mono h0.size)⟩, hb⟩
theorem wh_all_b (h : Wh w0 V S g D sb jb n L K a la ca A b lb cb B) : Calls Tryz.prog 26 #[.pointer (some ⟨sb, 0, none⟩)] V fun e w' => ∃ (ra : Option Addr) (rn rc : Nat), e = .returned (.slice ra rn rc) ∧ Wh w0 w' S g D sb jb n L K a la ca A ra rn rc (flat (lfs L)) ∧ Below V.heap.size V w' := by
  obtain ⟨F, ht, h1, h2, h0⟩ := h
  refine (every_any ht).mono ?_
  rintro e w' ⟨ra, rn, rc, rfl, hp, _, hb⟩
  exact ⟨ra, rn, rc, rfl, ⟨_, ht.below hb, h1.fr (Fr.below hb), hp, h0.trans (hb.mono h0.size)⟩, hb⟩
theorem wh_all (h : Wh w0 V S g D sb jb n L K a la ca A b lb cb B) : Calls Tryz.prog 26 #[.pointer (some ⟨sb, 0, none⟩)] V fun e w' => ∃ (ra : Option Addr) (rn rc : Nat), e = .returned (.slice ra rn rc) ∧ Pw (fun _ => True) w' ra rn rc (flat (lfs L)) ∧ Wh w0 w' S g D sb jb n L K a la ca A b lb cb B := by
  obtain ⟨F, ht, h1, h2, h0⟩ := id h
  refine (every_any ht).mono ?_
  rintro e w' ⟨ra, rn, rc, rfl, hp, _, hb⟩
  exact ⟨ra, rn, rc, rfl, Rw.mono hp (fun _ _ _ => trivial), h.below hb⟩
theorem wh_commit (h : Wh w0 V S g D sb jb n L K a la ca A b lb cb B) (hkn : 8 * n + 1 ≤ D.kept.length) (hu : D.up = true) (hsz : ∀ s ∈ D.seen, s.size = 256) (hwr : D.writes + 200 < 1000000) : Calls Tryz.prog 20 #[.pointer (some ⟨sb, 0, none⟩)] V fun e w' => e = .returned (.int .i64 (comCode n D (chAll n D L) : Int)) ∧ ∃ S', Wh w0 w' S' g (comDisk n D (chAll n D L)) sb jb n L (if comCode n D (chAll n D L) = 0 then L else K) a la ca A b lb cb B := by
  obtain ⟨F, ht, h1, h2, h0⟩ := h
  refine (scommit_any ht hkn hu hsz hwr).mono ?_
  rintro e w' ⟨rfl, F', S', ht', hf, hb⟩
  exact ⟨rfl, S', F', ht', h1.fr hf, h2.fr hf, h0.trans hb⟩
theorem wh_jopen (h : Wh w0 V S g D sb jb n L K a la ca A b lb cb B) (hkn : 8 * n + 1 ≤ D.kept.length) (hu : D.up = true) (hw : D.waits = []) (hsz : ∀ s ∈ D.kept, s.size = 256) (hwr : D.writes ≤ 2000) (hc : codeS D (recS n D.kept) = 0) :
    Calls Tryz.prog 31 #[.pointer (some ⟨g, 0, none⟩), .int .i64 (n : Int)] V fun e w' => ∃ jb' S', e = .returned (.tuple #[.pointer (some ⟨jb', 0, none⟩), .int .i64 0]) ∧ Wj w0 w' S' g (runS D (recS n D.kept)) jb' n a la ca A b lb cb B := by
  obtain ⟨F, ht, h1, h2, h0⟩ := h
  have hn2 := ht.n2
  have hn := ht.n12
  refine (open_any (n := n) ht.disk (by omega) (by omega) hkn hu hw hsz (by omega)).mono ?_
  rintro e w' ⟨rfl, hj, S', hd, hup, hs, hnj⟩
  have hf : Fr F V F w' := ⟨hup.size, fun _ h => h, fun x hx hl => hup.block x hl (ht.fF x hx).1⟩
  refine ⟨V.heap.size, S', by rw [hc]; rfl, F, ⟨hd, hj, hnj, fun x hx => ?_, fun x hx => ?_, Nat.le_trans ht.h0w hup.size⟩, h1.fr hf, h2.fr hf, h0.trans (hup.below ht.h0w ht.h0S)⟩
  · obtain ⟨k1, _, _, k4⟩ := ht.fF x hx
    refine ⟨fun hs' => (hs x hs').elim k1 (fun k => by omega), by omega, Nat.lt_of_lt_of_le k4 hup.size⟩
  · rcases hs x hx with k | k
    · exact ht.h0S x k
    · exact Nat.le_trans ht.h0w k
theorem wj_open (h : Wj w0 V S g D jb n a la ca A b lb cb B) (hn2 : 2 ≤ n) (hn : n ≤ 12) (hg : Good n D) {M : List Lf} (hl : loadF n (pagesF n D) = some M) :
    Calls Tryz.prog 22 #[.pointer (some ⟨jb, 0, none⟩)] V fun e w' => ∃ sb' L', e = .returned (.tuple #[.pointer (some ⟨sb', 0, none⟩), .int .i64 0]) ∧ Wh w0 w' S g D sb' jb n L' L' a la ca A b lb cb B ∧ lfs L' = M := by
  obtain ⟨F, ht, h1, h2, h0⟩ := h
  refine (sopen_any ht hn2 hn (by rw [hg.ln]; exact Nat.le_refl _) hg.up (by rw [hg.seen]; exact hg.sz.k)).mono ?_
  rintro e w' (⟨F', sb', L', rfl, hl', ht', hf, hb⟩ | ⟨_, hl', _⟩)
  · rw [hl] at hl'
    exact ⟨sb', L', rfl, ⟨F', ht', h1.fr hf, h2.fr hf, h0.trans (hb.mono h0.size)⟩, (Option.some.inj hl').symm⟩
  · rw [hl] at hl'
    cases hl'
end
/-- A Torn, as the walk is told it. -/
structure TornV where
  pages : Int
  a : Option Addr
  al : Nat
  ac : Nat
  la : List OV
  p : Option Addr
  pl : Nat
  pc : Nat
  lp : List OV
  cut : Int
  k : Option Addr
  kl : Nat
  kc : Nat
  bk : List Bool
def TornV.agg (x : TornV) : Value := .agg #[.int .i64 x.pages, .slice x.a x.al x.ac, .slice x.p x.pl x.pc, .int .i64 x.cut, .slice x.k x.kl x.kc]
structure TornV.In (w : World) (x : TornV) : Prop where
  a : Os w x.a x.al x.ac x.la
  p : Os w x.p x.pl x.pc x.lp
  k : Bls w x.k x.kl x.kc x.bk
  c : x.cut ≤ 9223372036854775807
theorem cellsTorn : Tryz.prog.cellsOf 54 = 5 := by kernel_rfl
theorem sl_of {H : Type} {enc : TypeId × Value → H} {W : World} {base : Nat} {spare : Nat → Bool} {held : Bool} {fuel : Nat} {t e : TypeId} {c : Value} {x : DataW H × List MemPlace} (ht : Tryz.prog.underlying t = some (.slice e))
    (hf : DataW.trod enc Tryz.prog W base spare held fuel t [c] = some x) : ∃ a len cap, c = .slice a len cap := by
  rcases open_slice ht hf with ⟨hcs, _⟩ | ⟨ad, l, c, m, n, D, Pl, hcs, _⟩
  · simp only [List.cons.injEq, and_true] at hcs
    exact ⟨_, _, _, hcs⟩
  · simp only [List.cons.injEq, and_true] at hcs
    exact ⟨_, _, _, hcs⟩
set_option maxRecDepth 100000 in
theorem torn_of {H : Type} {enc : TypeId × Value → H} {W : World} {b0 base : Nat} {spare : Nat → Bool} {held : Bool} {v : Value} {d : DataW H} {p : List MemPlace} {ts : List TypeId} {ds : List (DataW H)} {j : Nat} (hv : Value.okWide Tryz.prog W .any b0 54 v) (h : DataW.Trod enc Tryz.prog W base spare held 54 v d p)
    (hsz : (DataW.weightsEach Tryz.prog ts ds).all (· ≤ reachBytes) = true) (ht : ts[j]? = some 54) (hd : ds[j]? = some d) :
    ∃ x : TornV, v = x.agg ∧ x.In W := by
  unfold Value.okWide at hv
  rw [Tryz.underlying54] at hv
  obtain ⟨cs, rfl, hz, _⟩ := hv
  rw [cellsTorn] at hz
  obtain ⟨c0, c1, c2, c3, c4, rfl⟩ : ∃ c0 c1 c2 c3 c4, cs = #[c0, c1, c2, c3, c4] := by
    obtain ⟨l⟩ := cs
    match l, hz with
    | [c0, c1, c2, c3, c4], _ => exact ⟨c0, c1, c2, c3, c4, rfl⟩
  obtain ⟨fuel, hf⟩ := h
  have hf : DataW.trod enc Tryz.prog W base spare held fuel 54 [c0, c1, c2, c3, c4] = some (d, p) := by simpa [Value.cells] using hf
  have hw : ∀ n ∈ d.weights Tryz.prog 54, n ≤ reachBytes := fun n hn => by
    have := List.all_eq_true.1 hsz n (DataW.weights_mem_each ht hd n hn)
    simpa using this
  obtain ⟨xs, n, _, hx0, hl, hx, hi⟩ := DataW.trod_struct Tryz.underlying54 hf
  match xs, hx with
  | [x0, x1, x2, x3, x4], _ =>
    have h0 : DataW.trod enc Tryz.prog W base spare held n 3 (([c0, c1, c2, c3, c4].drop 0).take (Tryz.prog.cellsOf 3)) = some x0 := hi 0 _ rfl
    rw [show Tryz.prog.cellsOf 3 = 1 by kernel_rfl, show ([c0, c1, c2, c3, c4].drop 0).take 1 = [c0] from rfl] at h0
    have h1 : DataW.trod enc Tryz.prog W base spare held n 22 (([c0, c1, c2, c3, c4].drop 1).take (Tryz.prog.cellsOf 22)) = some x1 := hi 1 _ rfl
    rw [show Tryz.prog.cellsOf 22 = 1 by kernel_rfl, show ([c0, c1, c2, c3, c4].drop 1).take 1 = [c1] from rfl] at h1
    have h2 : DataW.trod enc Tryz.prog W base spare held n 22 (([c0, c1, c2, c3, c4].drop 2).take (Tryz.prog.cellsOf 22)) = some x2 := hi 2 _ rfl
    rw [show Tryz.prog.cellsOf 22 = 1 by kernel_rfl, show ([c0, c1, c2, c3, c4].drop 2).take 1 = [c2] from rfl] at h2
    have h3 : DataW.trod enc Tryz.prog W base spare held n 3 (([c0, c1, c2, c3, c4].drop 3).take (Tryz.prog.cellsOf 3)) = some x3 := hi 3 _ rfl
    rw [show Tryz.prog.cellsOf 3 = 1 by kernel_rfl, show ([c0, c1, c2, c3, c4].drop 3).take 1 = [c3] from rfl] at h3
    have h4 : DataW.trod enc Tryz.prog W base spare held n 52 (([c0, c1, c2, c3, c4].drop 4).take (Tryz.prog.cellsOf 52)) = some x4 := hi 4 _ rfl
    rw [show Tryz.prog.cellsOf 52 = 1 by kernel_rfl, show ([c0, c1, c2, c3, c4].drop 4).take 1 = [c4] from rfl] at h4
    obtain ⟨y0, e0, _, w0⟩ := DataW.trod_int Tryz.underlying3 h0
    obtain ⟨y3, e3, _, w3⟩ := DataW.trod_int Tryz.underlying3 h3
    simp only [List.cons.injEq, and_true] at e0 e3
    obtain ⟨a1, n1, p1, rfl⟩ := sl_of Tryz.underlying22 h1
    obtain ⟨a2, n2, p2, rfl⟩ := sl_of Tryz.underlying22 h2
    obtain ⟨a4, n4, p4, rfl⟩ := sl_of Tryz.underlying52 h4
    subst e0 e3
    simp only [Prod.mk.injEq] at hx0
    obtain ⟨rfl, _⟩ := hx0
    have key : ∀ (j : Nat) (e : DataW H), ([3, 22, 22, 3, 52] : List TypeId)[j]? = some 22 → ([x0, x1, x2, x3, x4].map (·.1))[j]? = some e → ∀ n ∈ e.weights Tryz.prog 22, n ≤ reachBytes := by
      intro j e hj he n hn
      refine hw n ?_
      simp only [DataW.weights, Tryz.underlying54]
      exact DataW.weights_mem_each hj he n hn
    obtain ⟨la, hla⟩ := ops_of h1 (key 1 x1.1 rfl rfl)
    obtain ⟨lp, hlp⟩ := ops_of h2 (key 2 x2.1 rfl rfl)
    obtain ⟨bk, hbk⟩ := bools_of h4
    exact ⟨⟨y0, a1, n1, p1, la, a2, n2, p2, lp, y3, a4, n4, p4, bk⟩, rfl, hla, hlp, hbk, (wf_i64 w3).2⟩
end Go.Proofs.YtnafalkcgghjgaaGreatDoor
