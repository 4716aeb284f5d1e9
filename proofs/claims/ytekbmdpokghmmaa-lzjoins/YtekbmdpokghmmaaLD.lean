/- The walk over tokens. -/
import Derived.Test.YtekbmdpokghmmaaLC
namespace Go.Proofs.Ytekbmdpokghmmaa
open Go.RowKit Lz
/-- A function value that lays tokens: what stands goes on by each; F: the blocks that it turns. -/
structure LyV (R size f : Nat) (lb : Array Value) (Inv : World → List Tk → (Nat → Prop) → Prop) : Prop where
  en : ∀ args w, (callFunc f args).run Try.prog w = .ok (.enter f args) w
  lt : ∀ W ts F, Inv W ts F → R ≤ W.heap.size ∧ ∀ x, F x → R ≤ x ∧ x < W.heap.size
  go : ∀ W ts t F, Inv W ts F → Goes size 0 (ts ++ [t]) → Calls Try.prog f (#[.agg #[.int .i64 (t.b : Int), .int .i64 (t.s : Int), .string (strOf t.d)]] ++ lb) W fun e w' => e = .returned (.tuple #[]) ∧ ∃ F', Inv w' (ts ++ [t]) F' ∧ (∀ x, F' x → F x ∨ W.heap.size ≤ x) ∧ Upd F W w'
  keep : ∀ W W' ts F, Inv W ts F → Below R W W' → (∀ x, F x → W'.heap[x]? = W.heap[x]?) → Inv W' ts F
theorem LyV.later {R size f : Nat} {lb : Array Value} {Inv : World → List Tk → (Nat → Prop) → Prop} (h : LyV R size f lb Inv) {W W' : World} {ts : List Tk} {F : Nat → Prop} (hi : Inv W ts F) (hb : Below W.heap.size W W') : Inv W' ts F :=
  h.keep _ _ _ _ hi (hb.mono (h.lt _ _ _ hi).1) fun x hx => hb.block x ((h.lt _ _ _ hi).2 x hx).2
/-- What the walk leaves. -/
def WkTo (size : Nat) (bs : List UInt8) (Inv : World → List Tk → (Nat → Prop) → Prop) (e : Ending) (w' : World) : Prop := ∃ r ts F, e = .returned (.bool r) ∧ Inv w' ts F ∧ (r = true → Right size bs ts) ∧ (r = false → ∀ us, ¬ Right size bs us)
def slN : Value → Nat
  | .slice _ n _ => n
  | _ => 0
set_option maxRecDepth 100000 in
set_option maxHeartbeats 4000000 in
theorem walk_any {w : World} {a : Option Addr} {len cap size f R : Nat} {bs : List UInt8} {lb : Array Value} {Inv : World → List Tk → (Nat → Prop) → Prop} {F0 : Nat → Prop} (hly : LyV R size f lb Inv) (hrd : ∀ W ts F, Inv W ts F → Bs W a len cap bs) (h0 : Inv w [] F0) (hsz : size ≤ 65536) :
    Calls Try.prog 22 #[.slice a len cap, .int .i64 (size : Int), .func (.func f) #[] lb] w (WkTo size bs Inv) := by
  have HLY : Hid (LyV R size f lb Inv) := hly
  have eg := hly.en
  have hbs := hrd w [] F0 h0
  have hlen := hbs.1
  have HRD : Hid (∀ W ts F, Inv W ts F → Bs W a len cap bs) := hrd
  have HI : Hid (∃ F, Inv w [] F) := ⟨F0, h0⟩
  clear hly hrd h0 hbs
  go_enter Try.func22, Try.ntmps22
  go_wp2
  go_loopw [0, 7] (fun v0 v7 wr => ∃ ts rest a' c', v0 = .slice a' rest.length c' ∧ v7 = .int .i64 (toldL ts : Int) ∧ bs = encL ts ++ rest ∧ Goes size 0 ts ∧ (∀ W us F, Inv W us F → Bs W a' rest.length c' rest) ∧ ∃ F, Inv wr ts F) (fun v0 _ _ => slN v0)
  case atStart => exact ⟨[], bs, a, cap, by rw [hlen], rfl, rfl, trivial, by rw [hlen]; exact HRD.out, HI.out⟩
  case round =>
    clear HI HRD hlen
    obtain ⟨ts, rest, a', c', rfl, rfl, hbs, hg, hrd, F, hi⟩ := hrel
    obtain ⟨L, hL⟩ : ∃ L, rest.length = L := ⟨_, rfl⟩
    obtain ⟨d, hd⟩ : ∃ d, toldL ts = d := ⟨_, rfl⟩
    have hds : d ≤ size := by have := hg.le (Nat.zero_le _); omega
    rw [hL] at hrd ⊢
    rw [hd]
    have HI : Hid (Inv wr ts F) := hi
    have HG : Hid (bs = encL ts ++ rest ∧ Goes size 0 ts ∧ rest.length = L ∧ toldL ts = d ∧ (∀ W us F, Inv W us F → Bs W a' L c' rest)) := ⟨hbs, hg, hL, hd, hrd⟩
    by_cases hlt : 0 < L
    · have kk : (0 : Int) < (L : Int) := by omega
      have hb := hrd wr ts F hi
      have HF := first_any hb hlt
      have hLc : L ≤ c' := hb.2.1
      clear hb hbs hg hrd hi hL hd
      cases hf : firstT rest with
      | none =>
        unfold firV at HF
        rw [hf] at HF
        have HN : Hid (∀ us, ¬ Right size bs us) := by
          refine right_no HG.out.1 HG.out.2.1 (fun e => ?_) (fun t n e => ?_)
          · have := HG.out.2.2.1; rw [e] at this; simp at this; omega
          · rw [hf] at e; cases e
        have HF : Hid (Calls Try.prog 36 #[.slice a' L c'] wr fun e w' => e = .returned (.tuple #[.agg #[.int .i64 0, .int .i64 0, .string (strOf [])], .int .i64 0]) ∧ Below wr.heap.size wr w') := HF
        clear hf
        go_wp2_with fail
        refine HF.out.mono ?_
        rintro e V1 ⟨rfl, hV1⟩
        go_wp2
        go_ret
        exact ⟨false, ts, F, rfl, HLY.out.later HI.out (hV1.alloc hV1.size _), by simp, fun _ => HN.out⟩
      | some tn =>
        obtain ⟨t, n⟩ := tn
        unfold firV at HF
        rw [hf] at HF
        obtain ⟨hok, henc, hn⟩ := first_some hf
        have hn1 : 1 ≤ n := by have := hok.enc1; cases h9 : t.enc with
          | nil => exact absurd h9 this
          | cons _ _ => rw [h9] at hn; simp at hn; omega
        have hnL : n ≤ L := by rw [← HG.out.2.2.1, hn, ← henc]; simp
        obtain ⟨tb, tds, td⟩ := t
        have ht2 : Tk.told ⟨tb, tds, td⟩ ≤ 130 := hok.told_le
        have HTO : Hid (∀ W, Calls Try.prog 32 #[.agg #[.int .i64 (tb : Int), .int .i64 (tds : Int), .string (strOf td)]] W fun e w' => e = .returned (.int .i64 (Tk.told ⟨tb, tds, td⟩ : Int)) ∧ Below W.heap.size W w') := fun W => told_any ⟨tb, tds, td⟩ (by omega) W
        obtain ⟨to, hto⟩ : ∃ n, Tk.told ⟨tb, tds, td⟩ = n := ⟨_, rfl⟩
        rw [hto] at HTO ht2
        have htb : tb ≤ 65536 := by
          rcases hok with h | h
          · have := h.2.2.1; simp only at this; omega
          · exact h.2.2.2.2
        have HF : Hid (Calls Try.prog 36 #[.slice a' L c'] wr fun e w' => e = .returned (.tuple #[.agg #[.int .i64 (tb : Int), .int .i64 (tds : Int), .string (strOf td)], .int .i64 (n : Int)]) ∧ Below wr.heap.size wr w') := HF
        have kn : ((n : Int) == 0) = false := by simp; omega
        have kn2 : ¬ (n : Int) = 0 := by omega
        have wsd : IntKind.i64.wrap ((size : Int) - (d : Int)) = (size : Int) - (d : Int) := wrapI _ (by omega) (by omega)
        have wad : IntKind.i64.wrap ((d : Int) + (to : Int)) = (d : Int) + (to : Int) := wrapI _ (by omega) (by omega)
        have HT : Hid (firstT rest = some (⟨tb, tds, td⟩, n) ∧ Tk.Ok ⟨tb, tds, td⟩ ∧ Tk.enc ⟨tb, tds, td⟩ ++ rest.drop n = rest ∧ n = (Tk.enc ⟨tb, tds, td⟩).length ∧ Tk.told ⟨tb, tds, td⟩ = to) := ⟨hf, hok, henc, hn, hto⟩
        have HR0 : Hid (rest ≠ []) := fun e => by have := HG.out.2.2.1; rw [e] at this; simp at this; omega
        obtain ⟨T, hT⟩ : ∃ T, strOf td = T := ⟨_, rfl⟩
        rw [hT] at HTO HF
        have HTT : Hid (strOf td = T) := hT
        clear hf hok henc hn hto hT
        by_cases hbd : d < tb
        · have k1 : (d : Int) < (tb : Int) := by omega
          have HN : Hid (∀ us, ¬ Right size bs us) := by
            refine right_no HG.out.1 HG.out.2.1 HR0.out (fun t n e => ?_)
            rw [HT.out.1] at e
            cases e
            have := HG.out.2.2.2.1
            simp only
            omega
          go_wp2_with fail
          refine HF.out.mono ?_
          rintro e V1 ⟨rfl, hV1⟩
          go_wp2
          go_ret
          exact ⟨false, ts, F, rfl, HLY.out.later HI.out (hV1.alloc hV1.size _), by simp, fun _ => HN.out⟩
        · have k1 : ¬ (d : Int) < (tb : Int) := by omega
          by_cases hsd : size < d + to
          · have k2 : (size : Int) - (d : Int) < (to : Int) := by omega
            have HN : Hid (∀ us, ¬ Right size bs us) := by
              refine right_no HG.out.1 HG.out.2.1 HR0.out (fun t n e => ?_)
              rw [HT.out.1] at e
              cases e
              have := HG.out.2.2.2.1
              have := HT.out.2.2.2.2
              omega
            go_wp2_with fail
            refine HF.out.mono ?_
            rintro e V1 ⟨rfl, hV1⟩
            go_wp2_with fail
            refine (HTO.out _).mono ?_
            rintro e V2 ⟨rfl, hV2⟩
            go_wp2
            go_ret
            exact ⟨false, ts, F, rfl, HLY.out.later HI.out ((hV1.alloc hV1.size _).trans (hV2.mono (by simp; have := hV1.size; omega))), by simp, fun _ => HN.out⟩
          · have k2 : ¬ (size : Int) - (d : Int) < (to : Int) := by omega
            go_wp2_with fail
            refine HF.out.mono ?_
            rintro e V1 ⟨rfl, hV1⟩
            obtain ⟨C, hC⟩ : ∃ C, V1.heap.size = C := ⟨_, rfl⟩
            obtain ⟨W1, hW1⟩ : ∃ W, V1.alloc (.cells #[.int .i64 (tb : Int), .int .i64 (tds : Int), .string T] 51) = W := ⟨_, rfl⟩
            have hr1 : W1.heap[C]? = some (.cells #[.int .i64 (tb : Int), .int .i64 (tds : Int), .string T] 51 (0, 0)) := by rw [← hW1, ← hC]; exact heap_alloc_new V1 _
            have HW1 : Hid (Below wr.heap.size wr W1 ∧ W1.heap[C]? = some (.cells #[.int .i64 (tb : Int), .int .i64 (tds : Int), .string T] 51 (0, 0)) ∧ wr.heap.size ≤ C) := ⟨by rw [← hW1]; exact hV1.alloc hV1.size _, hr1, by rw [← hC]; exact hV1.size⟩
            have z0 : W1.cell? ⟨C, 0, none⟩ = some (.int .i64 (tb : Int)) := by rw [cell_of_row _ _ _ _ _ _ hr1]; rfl
            have z1 : W1.cell? ⟨C, 1, none⟩ = some (.int .i64 (tds : Int)) := by rw [cell_of_row _ _ _ _ _ _ hr1]; rfl
            have z2 : W1.cell? ⟨C, 2, none⟩ = some (.string T) := by rw [cell_of_row _ _ _ _ _ _ hr1]; rfl
            clear hr1 hV1
            go_wp2_with fail
            refine (HTO.out _).mono ?_
            clear hW1 hC
            rintro e V2 ⟨rfl, hV2⟩
            have y0 := keepc hV2 z0
            have y1 := keepc hV2 z1
            have y2 := keepc hV2 z2
            have HV2 : Hid (Inv V2 ts F ∧ (∀ x, F x → x < C) ∧ C < V2.heap.size) := by
              refine ⟨HLY.out.later HI.out (HW1.out.1.trans (hV2.mono (HW1.out.1.size))), fun x hx => ?_, ?_⟩
              · have := ((HLY.out.lt _ _ _ HI.out).2 x hx).2; have := HW1.out.2.2; omega
              · have := lt_of_some HW1.out.2.1; have := hV2.size; omega
            clear hV2 z0 z1 z2
            have HGO := HLY.out.go V2 ts ⟨tb, tds, td⟩ F HV2.out.1 (by
              rw [Goes.app]
              have h1 := HG.out.2.2.2.1
              have h2 := HT.out.2.2.2.2
              exact ⟨HG.out.2.1, HT.out.2.1, by simp only; omega, by omega, trivial⟩)
            rw [HTT.out] at HGO
            have HGO : Hid (Calls Try.prog f (#[.agg #[.int .i64 (tb : Int), .int .i64 (tds : Int), .string T]] ++ lb) V2 fun e w' => e = .returned (.tuple #[]) ∧ ∃ F', Inv w' (ts ++ [⟨tb, tds, td⟩]) F' ∧ (∀ x, F' x → F x ∨ V2.heap.size ≤ x) ∧ Upd F V2 w') := HGO
            go_wp2_with fail
            refine HGO.out.mono ?_
            rintro e V3 ⟨rfl, F3, hi3, hf3, hu3⟩
            have hb3 : V3.heap[C]? = V2.heap[C]? := hu3.block C HV2.out.2.2 (fun h => by have := HV2.out.2.1 C h; omega)
            have x0 : V3.cell? ⟨C, 0, none⟩ = some (.int .i64 (tb : Int)) := by rw [World.cell?_of_block (w := V2) hb3]; exact y0
            have x1 : V3.cell? ⟨C, 1, none⟩ = some (.int .i64 (tds : Int)) := by rw [World.cell?_of_block (w := V2) hb3]; exact y1
            have x2 : V3.cell? ⟨C, 2, none⟩ = some (.string T) := by rw [World.cell?_of_block (w := V2) hb3]; exact y2
            have HI3 : Hid (Inv V3 (ts ++ [⟨tb, tds, td⟩]) F3) := hi3
            clear hi3 hf3 hu3 hb3 y0 y1 y2 HGO
            go_wp2_with fail
            refine (HTO.out _).mono ?_
            rintro e V4 ⟨rfl, hV4⟩
            have HI4 : Hid (Inv V4 (ts ++ [⟨tb, tds, td⟩]) F3) := HLY.out.later HI3.out hV4
            have hcut := off_bytes a' L c' n hnL
            clear hV4 x0 x1 x2
            go_wp2
            have e1 : encL (ts ++ [⟨tb, tds, td⟩]) = encL ts ++ Tk.enc ⟨tb, tds, td⟩ := by rw [encL_app, encL_one]
            have e2 : (rest.drop n).length = L - n := by rw [List.length_drop, HG.out.2.2.1]
            refine ⟨⟨ts ++ [⟨tb, tds, td⟩], rest.drop n, cutA a' c' n 1, c' - n, by rw [e2], ?_, ?_, ?_, ?_, F3, HI4.out⟩, ?_⟩
            · rw [toldL_app, toldL_one, HG.out.2.2.2.1, HT.out.2.2.2.2, show ((d + to : Nat) : Int) = (d : Int) + (to : Int) by omega]
            · rw [e1, List.append_assoc, HT.out.2.2.1]; exact HG.out.1
            · rw [Goes.app]
              have h1 := HG.out.2.2.2.1
              have h2 := HT.out.2.2.2.2
              exact ⟨HG.out.2.1, HT.out.2.1, by simp only; omega, by omega, trivial⟩
            · rw [e2]; exact fun W us F h => (HG.out.2.2.2.2 W us F h).rest n hnL
            · show L - n < L
              omega
    · have h0 : rest = [] := List.eq_nil_of_length_eq_zero (by omega)
      have kk : ¬ (0 : Int) < (L : Int) := by omega
      have HE : Hid (rest = []) := h0
      clear hbs hg hrd hi hL hd h0
      by_cases hds2 : d = size
      · subst hds2
        go_wp2
        go_ret
        refine ⟨true, ts, F, rfl, HI.out, fun _ => ⟨by rw [HG.out.1, HE.out, List.append_nil], HG.out.2.1, HG.out.2.2.2.1⟩, by simp⟩
      · have k3 : ¬ (d : Int) = (size : Int) := by omega
        have k4 : ((d : Int) == (size : Int)) = false := by simpa using k3
        go_wp2
        go_ret
        refine ⟨false, ts, F, rfl, HI.out, by simp, fun _ => right_end (by rw [HG.out.1, HE.out, List.append_nil]) HG.out.2.1 (by rw [HG.out.2.2.2.1]; exact hds2)⟩
end Go.Proofs.Ytekbmdpokghmmaa
