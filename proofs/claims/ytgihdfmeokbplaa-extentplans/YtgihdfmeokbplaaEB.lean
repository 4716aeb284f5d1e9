/- Extents that are out: what an Alloc and a Give make of them. -/
import Derived.Test.YtgihdfmeokbplaaEA
namespace Go.Proofs.Ytgihdfmeokbplaa.Ex
def apart (a b : Sp) : Prop := a.1 + a.2 ≤ b.1 ∨ b.1 + b.2 ≤ a.1
/-- What is out of an area. -/
structure Out (X : Ar) (out : List Sp) : Prop where
  ok : X.Ok
  in_ : ∀ s ∈ out, 0 ≤ s.1 ∧ 1 ≤ s.2 ∧ s.1 + s.2 ≤ X.sz ∧ takB X.hs s
  ap : out.Pairwise apart
  sum : sumS X.hs + sumS out = X.sz
theorem Out.new {n : Nat} (h1 : 1 ≤ n) (h2 : n ≤ 1048576) : Out (Ar.new n) [] :=
  ⟨Ar.new_ok h1 h2, fun s hs => (by cases hs), List.Pairwise.nil, by simp [Ar.new, sumS]⟩
theorem apart_of {l : List Sp} {s t : Sp} (h1 : freB l s) (h2 : takB l t) (hs : 1 ≤ s.2) (ht : 1 ≤ t.2) : apart t s := by
  unfold apart
  by_cases h : t.1 + t.2 ≤ s.1 ∨ s.1 + s.2 ≤ t.1
  · exact h
  · have a1 := h1 (max s.1 t.1) (by omega) (by omega)
    have a2 := h2 (max s.1 t.1) (by omega) (by omega)
    rw [a1] at a2
    cases a2
theorem Out.alloc {X : Ar} {out : List Sp} (h : Out X out) {n rule : Int} (he : (X.alloc n rule).2.2 = 0) : Out (X.alloc n rule).1 (out ++ [((X.alloc n rule).2.1, n)]) ∧ (∀ t ∈ out, apart t ((X.alloc n rule).2.1, n)) ∧ (X.alloc n rule).1.sz = X.sz ∧ 1 ≤ n ∧ 0 ≤ (X.alloc n rule).2.1 ∧ (X.alloc n rule).2.1 + n ≤ X.sz := by
  obtain ⟨a1, a2, _, _, _, a6⟩ := Ar.alloc_ok h.ok n rule
  obtain ⟨b1, b2, b3, b4, b5, b6, b7⟩ := a6 he
  obtain ⟨F, hF⟩ : ∃ F, (X.alloc n rule).2.1 = F := ⟨_, rfl⟩
  obtain ⟨X', hX⟩ : ∃ X', (X.alloc n rule).1 = X' := ⟨_, rfl⟩
  rw [hF] at b3 b4 b5 b6 ⊢
  rw [hX] at a1 a2 b6 b7 ⊢
  have hap : ∀ t ∈ out, apart t (F, n) := fun t ht => apart_of (s := (F, n)) b3 (h.in_ t ht).2.2.2 b1 (h.in_ t ht).2.1
  refine ⟨⟨a1, fun s hs => ?_, ?_, ?_⟩, hap, a2, b1, b4, b5⟩
  · rcases List.mem_append.1 hs with hs | hs
    · obtain ⟨c1, c2, c3, c4⟩ := h.in_ s hs
      refine ⟨c1, c2, by rw [a2]; exact c3, fun x h1 h2 => ?_⟩
      rw [b6, c4 x h1 h2]; rfl
    · obtain rfl := List.mem_singleton.1 hs
      refine ⟨b4, b1, by rw [a2]; exact b5, fun x h1 h2 => ?_⟩
      rw [b6, (inS_iff (F, n) x).2 ⟨h1, h2⟩]; simp
  · rw [List.pairwise_append]
    exact ⟨h.ap, List.pairwise_singleton _ _, fun t ht y hy => by obtain rfl := List.mem_singleton.1 hy; exact hap t ht⟩
  · rw [sumS_app, sumS_cons, sumS_nil, a2, b7]
    have := h.sum
    simp only
    omega
theorem pairwise_cut {l : List Sp} {k : Nat} (h : l.Pairwise apart) {s : Sp} (hs : l[k]? = some s) : (l.take k ++ l.drop (k + 1)).Pairwise apart ∧ ∀ t ∈ l.take k ++ l.drop (k + 1), apart t s := by
  have e := split_at hs
  rw [e] at h
  rw [List.pairwise_append, List.pairwise_cons] at h
  obtain ⟨h1, ⟨h2, h3⟩, h4⟩ := h
  refine ⟨?_, fun t ht => ?_⟩
  · rw [List.pairwise_append]
    exact ⟨h1, h3, fun a ha b hb => h4 a ha b (List.mem_cons_of_mem _ hb)⟩
  · rcases List.mem_append.1 ht with ht | ht
    · exact h4 t ht s List.mem_cons_self
    · have := h2 t ht
      unfold apart at *
      omega
theorem Out.give {X : Ar} {out : List Sp} (h : Out X out) {k : Nat} {s : Sp} (hs : out[k]? = some s) : (X.give s).2 = 0 ∧ (X.give s).1.sz = X.sz ∧ Out (X.give s).1 (out.take k ++ out.drop (k + 1)) ∧ (X.give s).1.give s = ((X.give s).1, 8) := by
  obtain ⟨c1, c2, c3, c4⟩ := h.in_ s (List.mem_of_getElem? hs)
  have hh : X.has s = true := (X.has_iff s).2 ⟨c1, c2, c3⟩
  have e2 : (X.give s).2 = 0 := by
    unfold Ar.give
    rw [if_neg (by rw [hh]; simp), if_pos ((takD_iff h.ok.g c2).2 c4)]
  obtain ⟨g1, g2, _, g4, g5, _⟩ := Ar.give_ok h.ok s
  obtain ⟨X', hX⟩ : ∃ X', (X.give s).1 = X' := ⟨_, rfl⟩
  rw [e2] at g4 g5
  rw [hX] at g1 g2 g4 g5 ⊢
  obtain ⟨_, _, g6⟩ := g5 rfl
  obtain ⟨p1, p2⟩ := pairwise_cut h.ap hs
  refine ⟨e2, g2, ⟨g1, fun t ht => ?_, p1, ?_⟩, ?_⟩
  · have htm : t ∈ out := by
      rcases List.mem_append.1 ht with ht | ht
      · exact List.mem_of_mem_take ht
      · exact List.mem_of_mem_drop ht
    obtain ⟨d1, d2, d3, d4⟩ := h.in_ t htm
    refine ⟨d1, d2, by rw [g2]; exact d3, fun x h1 h2 => ?_⟩
    have hap := p2 t ht
    rw [g4, if_pos rfl, d4 x h1 h2, (inS_no s x).2 (by unfold apart at hap; omega)]; rfl
  · have e := split_at hs
    have hsum := h.sum
    rw [e, sumS_app, sumS_cons] at hsum
    rw [sumS_app, g2, g6]
    omega
  · have h9 : takD X'.hs s = false := by
      rw [← Bool.not_eq_true, takD_iff g1.g c2]
      intro ht
      have := ht s.1 (Int.le_refl _) (by omega)
      rw [g4, if_pos rfl, (inS_iff s s.1).2 (by omega)] at this
      simp at this
    unfold Ar.give
    have hh' : X'.has s = true := (X'.has_iff s).2 ⟨c1, c2, by rw [g2]; exact c3⟩
    rw [if_neg (by rw [hh']; simp), if_neg (by rw [h9]; simp)]
theorem Ar.full {X : Ar} (h : X.Ok) {n rule : Int} (he : (X.alloc n rule).2.2 = 5) : maxS X.hs < n := by
  obtain ⟨_, _, _, _, a5, _⟩ := Ar.alloc_ok h n rule
  obtain ⟨h1, h2⟩ := a5 he
  rcases foldl_mem X.hs 0 with e | ⟨s, hs, e⟩
  · show X.hs.foldl _ 0 < n
    rw [e]; omega
  · show X.hs.foldl _ 0 < n
    rw [e]; exact h2 s hs
theorem Ar.alloc_codes (X : Ar) (n rule : Int) : (X.alloc n rule).2.2 = 0 ∨ (X.alloc n rule).2.2 = 1 ∨ (X.alloc n rule).2.2 = 5 := by
  unfold Ar.alloc
  split
  · exact .inr (.inl rfl)
  · split
    · exact .inr (.inr rfl)
    · exact .inl rfl
theorem sum_part2 {l : List Sp} (h : ∀ s ∈ l, 1 ≤ s.2) (k : Nat) : 0 ≤ sumS (l.take k) ∧ sumS (l.take k) ≤ sumS l := by
  have hp : ∀ m : List Sp, (∀ s ∈ m, 1 ≤ s.2) → 0 ≤ sumS m := fun m hm => by
    induction m with
    | nil => simp [sumS]
    | cons a t ih =>
      rw [sumS_cons]
      have := ih (fun s hs => hm s (List.mem_cons_of_mem _ hs))
      have := hm a List.mem_cons_self
      omega
  have h1 := hp (l.take k) (fun s hs => h s (List.mem_of_mem_take hs))
  have h2 := hp (l.drop k) (fun s hs => h s (List.mem_of_mem_drop hs))
  have e : sumS l = sumS (l.take k) + sumS (l.drop k) := by rw [← sumS_app, List.take_append_drop]
  omega
end Go.Proofs.Ytgihdfmeokbplaa.Ex
