/- The statements' put, beside the document's. -/
import Derived.Test.YtnafalkcgghjgaaGreatDoorTH
namespace Go.Proofs.YtnafalkcgghjgaaGreatDoor
open Go.RowKit Go.Shelf
section
variable {w0 V : World} {g jb n sb i : Nat} {T : List Pr} {a : Option Addr} {la ca : Nat} {A : List Pr} {b : Option Addr} {lb cb : Nat} {G : List Pr}
/-- As Pl, beside one block that stays. -/
def Plo (w0 V : World) (g jb n sb i : Nat) (T : List Pr) (a : Option Addr) (la ca : Nat) (A : List Pr) (b : Option Addr) (lb cb : Nat) (G : List Pr) (ob : Nat) (O : Obj) : Prop :=
  ∃ F S D L K, Tab w0.heap.size F V S g D sb jb n L K ∧ flat (lfs L) = T ∧ flat (lfs K) = G ∧ Pw F V a la ca A ∧ Pw F V b lb cb G ∧ Good n D ∧ Enc (pagesF n D) (lfs K) ∧ D.writes ≤ 100 * i ∧ Below w0.heap.size w0 V ∧ F ob ∧ V.heap[ob]? = some O
theorem Plo.pl {ob : Nat} {O : Obj} (h : Plo w0 V g jb n sb i T a la ca A b lb cb G ob O) : Pl w0 V g jb n sb i T a la ca A b lb cb G := by
  obtain ⟨F, S, D, L, K, ht, h1, h2, h3, h4, h5, h6, h7, h0, h8, h9⟩ := h
  exact ⟨F, S, D, L, K, ht, h1, h2, h3, h4, h5, h6, h7, h0⟩
theorem Plo.blk {ob : Nat} {O : Obj} (h : Plo w0 V g jb n sb i T a la ca A b lb cb G ob O) : V.heap[ob]? = some O := by
  obtain ⟨F, S, D, L, K, ht, h1, h2, h3, h4, h5, h6, h7, h0, h8, h9⟩ := h
  exact h9
theorem Plo.below {ob : Nat} {O : Obj} (h : Plo w0 V g jb n sb i T a la ca A b lb cb G ob O) {V' : World} (hb : Below V.heap.size V V') : Plo w0 V' g jb n sb i T a la ca A b lb cb G ob O := by
  obtain ⟨F, S, D, L, K, ht, h1, h2, h3, h4, h5, h6, h7, h0, h8, h9⟩ := h
  exact ⟨_, S, D, L, K, ht.below hb, h1, h2, h3.fr (Fr.below hb), h4.fr (Fr.below hb), h5, h6, h7, h0.trans (hb.mono h0.size), .inl h8, (hb.block ob (lt_of_some h9)).trans h9⟩
theorem Plo.row {ob : Nat} {O : Obj} (h : Plo w0 V g jb n sb i T a la ca A b lb cb G ob O) {V' : World} (hb : Below V.heap.size V V') {r : Option Addr} {rn rc : Nat} {R : List Pr} (hr : V'.ownsRow V.heap.size 63 2 (.slice r rn rc) rn (prV R)) : Plo w0 V' g jb n sb i T r rn rc R b lb cb G ob O := by
  obtain ⟨F, S, D, L, K, ht, h1, h2, h3, h4, h5, h6, h7, h0, h8, h9⟩ := h
  have hp : Pw (fun x => V.heap.size ≤ x) V' r rn rc R := Rw.own hr (fun _ h => h)
  exact ⟨_, S, D, L, K, ht.below hb, h1, h2, Rw.mono hp (fun x hx hl => .inr ⟨hx, hl⟩), h4.fr (Fr.below hb), h5, h6, h7, h0.trans (hb.mono h0.size), .inl h8, (hb.block ob (lt_of_some h9)).trans h9⟩
/-- A block that was made since. -/
theorem Pl.plo (h : Pl w0 V g jb n sb i T a la ca A b lb cb G) {V' : World} (hb : Below V.heap.size V V') {ob : Nat} {O : Obj} (hn : V.heap.size ≤ ob) (ho : V'.heap[ob]? = some O) : Plo w0 V' g jb n sb i T a la ca A b lb cb G ob O := by
  obtain ⟨F, S, D, L, K, ht, h1, h2, h3, h4, h5, h6, h7, h0⟩ := h
  exact ⟨_, S, D, L, K, ht.below hb, h1, h2, h3.fr (Fr.below hb), h4.fr (Fr.below hb), h5, h6, h7, h0.trans (hb.mono h0.size), .inr ⟨hn, lt_of_some ho⟩, ho⟩
theorem pl_sput {ob : Nat} {O : Obj} (h : Plo w0 V g jb n sb i T a la ca A b lb cb G ob O) (k v : ByteArray) (hm : May (k, v)) : Calls Tryz.prog 34 #[.pointer (some ⟨sb, 0, none⟩), .string k, .string v] V fun e w' => (e = .returned (.int .i64 0) ∧ Plo w0 w' g jb n sb i (putT T k v) a la ca A b lb cb G ob O) ∨ (e = .returned (.int .i64 5) ∧ Plo w0 w' g jb n sb i T a la ca A b lb cb G ob O ∧ 510 * (n - 2) < szL (putT T k v)) := by
  obtain ⟨F, S, D, L, K, ht, h1, h2, h3, h4, h5, h6, h7, h0, h8, h9⟩ := h
  refine (put_any ht k v hm).mono ?_
  rintro e w' ⟨F', L', ht', hf, hb, ⟨rfl, hfl⟩ | ⟨rfl, hL, hlt⟩⟩
  · rw [h1] at hfl
    exact .inl ⟨rfl, F', S, D, L', K, ht', hfl, h2, h3.fr hf, h4.fr hf, h5, h6, h7, h0.trans hb, hf.sub _ h8, (hf.blk ob h8 (lt_of_some h9)).trans h9⟩
  · rw [h1] at hlt
    subst hL
    exact .inr ⟨rfl, ⟨F', S, D, L', K, ht', h1, h2, h3.fr hf, h4.fr hf, h5, h6, h7, h0.trans hb, hf.sub _ h8, (hf.blk ob h8 (lt_of_some h9)).trans h9⟩, hlt⟩
set_option maxRecDepth 100000 in
set_option maxHeartbeats 2000000 in
theorem pl_put {ob : Nat} {O : Obj} (h : Plo w0 V g jb n sb i T a la ca T b lb cb G ob O) (k v : ByteArray) (hk : k.size ≤ 140737488351232) (hv : v.size ≤ 140737488351232) :
    Calls Tryz.prog 11 #[.pointer (some ⟨sb, 0, none⟩), .int .i64 (n : Int), .slice a la ca, .string k, .string v] V fun e w' => ∃ (ra : Option Addr) (rn rc : Nat) (T' : List Pr), e = .returned (.tuple #[.slice ra rn rc, .bool true]) ∧ Plo w0 w' g jb n sb i T' ra rn rc T' b lb cb G ob O := by
  have hfew := h.pl.few
  have HMA : Hid (∀ W, Calls Tryz.prog 33 #[.string k, .string v] W fun e w' => e = .returned (.bool (decide (May (k, v)))) ∧ w' = W) := fun W => may_any k v hk hv W
  by_cases hm : May (k, v)
  · have HP := pl_sput h k v hm
    have hz : szL (putT T k v) ≤ 100000 := by
      have h1 := sz_put T k v
      have h2 := hm.sz.2
      omega
    rw [decide_eq_true hm] at HMA
    have HFW : Hid (szL (putT T k v) ≤ 100000 ∧ 2 ≤ n ∧ n ≤ 12 ∧ la ≤ 100000) := ⟨hz, hfew.2.2.2.2.1, hfew.2.2.2.2.2.1, by have := hfew.2.1; have := hfew.2.2.1; omega⟩
    clear h hm hz hfew hk hv
    go_enter Tryz.func11, Tryz.ntmps11
    go_wp2_with fail
    refine HP.mono ?_
    rintro e V1 (⟨rfl, h1⟩ | ⟨rfl, h1, hlt⟩)
    · have HM1 := HMA.out V1
      have HR := rput_any (pl_row_a h1.pl) HFW.out.2.2.2 k v
      have H1 : Hid (Plo w0 V1 g jb n sb i (putT T k v) a la ca T b lb cb G ob O) := h1
      clear HP h1 HMA
      go_wp2_with fail
      refine HM1.mono ?_
      rintro e V2 ⟨rfl, hV2⟩
      subst V2
      clear HM1
      go_wp2_with fail
      refine HR.mono ?_
      rintro e V3 ⟨ra, rn, rc, rfl, ho, hb⟩
      have HE : Hid (Plo w0 V3 g jb n sb i (putT T k v) ra rn rc (putT T k v) b lb cb G ob O) := H1.out.row hb ho
      clear HR ho hb
      go_wp2
      refine bodyPost_ret (v := .tuple #[.slice ra rn rc, .bool true]) ?_ rfl ⟨ra, rn, rc, _, rfl, HE.out⟩
      simp [results, go_sem]
    · have HM1 := HMA.out V1
      have HR := rput_any (pl_row_a h1.pl) HFW.out.2.2.2 k v
      have H1 : Hid (Plo w0 V1 g jb n sb i T a la ca T b lb cb G ob O ∧ 510 * (n - 2) < szL (putT T k v)) := ⟨h1, hlt⟩
      clear HP h1 HMA hlt
      go_wp2_with fail
      refine HM1.mono ?_
      rintro e V2 ⟨rfl, hV2⟩
      subst V2
      clear HM1
      go_wp2_with fail
      refine HR.mono ?_
      rintro e V3 ⟨ra, rn, rc, rfl, ho, hb⟩
      have HF := fits_any (own_pw ho) (by have := HFW.out.1; omega) n HFW.out.2.2.1 HFW.out.2.1
      rw [decide_eq_false (by have := H1.out.2; omega)] at HF
      have HE : Hid (Plo w0 V3 g jb n sb i T a la ca T b lb cb G ob O) := H1.out.1.below hb
      clear HR ho hb
      go_wp2_with fail
      refine HF.mono ?_
      rintro e V4 ⟨rfl, hb4⟩
      have HE4 : Hid (Plo w0 V4 g jb n sb i T a la ca T b lb cb G ob O) := HE.out.below hb4
      clear HF hb4
      go_wp2
      refine bodyPost_ret (v := .tuple #[.slice a la ca, .bool true]) ?_ rfl ⟨a, la, ca, T, rfl, HE4.out⟩
      simp [results, go_sem]
  · have HP := put_bad sb k v V hm
    have HM1 := HMA.out V
    rw [decide_eq_false hm] at HM1
    have H1 : Hid (Plo w0 V g jb n sb i T a la ca T b lb cb G ob O) := h
    clear h hm hfew hk hv HMA
    go_enter Tryz.func11, Tryz.ntmps11
    go_wp2_with fail
    refine HP.mono ?_
    rintro e V1 ⟨rfl, hV1⟩
    subst V1
    clear HP
    go_wp2_with fail
    refine HM1.mono ?_
    rintro e V2 ⟨rfl, hV2⟩
    subst V2
    clear HM1
    go_wp2
    refine bodyPost_ret (v := .tuple #[.slice a la ca, .bool true]) ?_ rfl ⟨a, la, ca, T, rfl, H1.out⟩
    simp [results, go_sem]
end
end Go.Proofs.YtnafalkcgghjgaaGreatDoor
