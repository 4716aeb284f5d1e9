/- A walk over Decode. -/
import Derived.Test.YtbhnmjjfammlkaaDoorHT
namespace Go.Proofs.YtbhnmjjfammlkaaDoor
open Go.RowKit
/-- What the loop of Decode holds: i pieces are read, up to a place. -/
def DecI (bs : List UInt8) (cnt p0 i p : Nat) (ls : List Pc) : Prop := p ≤ bs.length ∧ ls.length = i ∧ i ≤ cnt ∧ decR cnt (bs.drop p0) = (decR (cnt - i) (bs.drop p)).map fun x => (ls ++ x.1, x.2)
theorem DecI.start {bs : List UInt8} {cnt p0 : Nat} (h : p0 ≤ bs.length) : DecI bs cnt p0 0 p0 [] := by
  refine ⟨h, rfl, Nat.zero_le _, ?_⟩
  rw [Nat.sub_zero]
  cases decR cnt (bs.drop p0) with
  | none => rfl
  | some x => rfl
theorem DecI.step {bs : List UInt8} {cnt p0 i p q : Nat} {ls : List Pc} {c : Pc} (h : DecI bs cnt p0 i p ls) (hi : i < cnt) (hp : pieceF bs p = some (c, q)) : DecI bs cnt p0 (i + 1) q (ls ++ [c]) := by
  obtain ⟨h1, h2, h3, h4⟩ := h
  refine ⟨(piece_le hp).1, by simp [h2], hi, ?_⟩
  rw [h4, show cnt - i = (cnt - (i + 1)) + 1 by omega, decR_some hp, Option.map_map]
  congr 1
  funext x
  simp
theorem DecI.stop {bs : List UInt8} {cnt p0 i p : Nat} {ls : List Pc} (h : DecI bs cnt p0 i p ls) (hi : i < cnt) (hp : pieceF bs p = none) : decR cnt (bs.drop p0) = none := by
  obtain ⟨h1, h2, h3, h4⟩ := h
  rw [h4, show cnt - i = (cnt - (i + 1)) + 1 by omega, decR_none hp]
  rfl
theorem DecI.end {bs : List UInt8} {cnt p0 p : Nat} {ls : List Pc} (h : DecI bs cnt p0 cnt p ls) : decR cnt (bs.drop p0) = some (ls, bs.drop p) := by
  obtain ⟨h1, h2, h3, h4⟩ := h
  rw [h4, Nat.sub_self]
  simp [decR]
/-- The pieces of bytes, or why there are none. -/
def decF (bs : List UInt8) : List Pc × Int := if 65536 < bs.length then ([], 2) else match decD bs with
  | some l => (l, 0)
  | none => ([], 4)
theorem decF_long {bs : List UInt8} (h : 65536 < bs.length) : decF bs = ([], 2) := by unfold decF; rw [if_pos h]
theorem decF_none {bs : List UInt8} (h : ¬ 65536 < bs.length) (hd : decD bs = none) : decF bs = ([], 4) := by unfold decF; rw [if_neg h, hd]
theorem decF_some {bs : List UInt8} {l : List Pc} (h : ¬ 65536 < bs.length) (hd : decD bs = some l) : decF bs = (l, 0) := by unfold decF; rw [if_neg h, hd]
theorem decD_bad {bs : List UInt8} (h : (getL bs 0 0).2.2 ≠ 0 ∨ 1024 < (getL bs 0 0).1) : decD bs = none := by unfold decD; rw [if_pos h]
theorem decD_stop {bs : List UInt8} (h : decR (getL bs 0 0).1 (bs.drop (getL bs 0 0).2.1) = none) : decD bs = none := by
  unfold decD
  split
  · rfl
  · rw [h]
theorem decD_more {bs : List UInt8} {ls : List Pc} {p : Nat} (h : decR (getL bs 0 0).1 (bs.drop (getL bs 0 0).2.1) = some (ls, bs.drop p)) (hp : p < bs.length) : decD bs = none := by
  unfold decD
  split
  · rfl
  · rw [h]
    cases hd : bs.drop p with
    | nil => have := congrArg List.length hd; rw [List.length_drop] at this; simp at this; omega
    | cons x r => rfl
theorem decD_end {bs : List UInt8} {ls : List Pc} {p : Nat} (h0 : ¬ ((getL bs 0 0).2.2 ≠ 0 ∨ 1024 < (getL bs 0 0).1)) (h : decR (getL bs 0 0).1 (bs.drop (getL bs 0 0).2.1) = some (ls, bs.drop p)) (hp : bs.length ≤ p) : decD bs = if mayP ls then some ls else none := by
  unfold decD
  rw [if_neg h0, h, List.drop_of_length_le hp]
/-- What Decode leaves. -/
def DcTo (w : World) (r : List Pc × Int) (e : Ending) (w' : World) : Prop := ∃ (a : Option Addr) (n c : Nat), e = .returned (.tuple #[.slice a n c, .int .i64 r.2]) ∧ w'.ownsRow w.heap.size 48 3 (.slice a n c) n (pcR r.1) ∧ Below w.heap.size w w'
theorem DcTo.nil {w w' : World} (er : Int) (h : Below w.heap.size w w') : DcTo w ([], er) (.returned (.tuple #[.slice none 0 0, .int .i64 er])) w' := ⟨none, 0, 0, rfl, World.ownsRow_nil _ _ _ _, h⟩
set_option maxRecDepth 100000 in
set_option maxHeartbeats 4000000 in
theorem ddec_any {w : World} {a : Option Addr} {len cap : Nat} {bs : List UInt8} (h : Bs w a len cap bs) : Calls Tryd.prog 23 #[.slice a len cap] w fun e w' => DcTo w (decF bs) e w' := by
  have hbl := h.1
  have hcm : len ≤ 9223372036854775807 := Nat.le_trans h.2.1 h.2.2.1
  by_cases hlong : 65536 < len
  · have kl : (65536 : Int) < (len : Int) := by omega
    rw [decF_long (by omega)]
    have HE : Hid (DcTo w ([], 2) (.returned (.tuple #[.slice none 0 0, .int .i64 2])) w) := DcTo.nil 2 (Below.refl _ _)
    clear h hbl
    go_enter Tryd.func23, Tryd.ntmps23
    go_wp2
    refine bodyPost_ret (v := .tuple #[.slice none 0 0, .int .i64 2]) ?_ rfl HE.out
    simp [results, go_sem]
  · have kl : ¬ (65536 : Int) < (len : Int) := by omega
    have hnl : ¬ 65536 < bs.length := by omega
    have HG := get_any a len cap bs (0 : Int) w h (by omega) (by omega)
    have h00 := getAt_in (bs := bs) (p := 0) (by omega)
    have h00 : getAt bs 0 = ((getL bs 0 0).1, if (getL bs 0 0).2.2 = 0 then (0 : Int) + (getL bs 0 0).2.1 else 0, (getL bs 0 0).2.2) := h00
    rw [h00] at HG
    have hrd := getL_read (bs := bs) (p := 0)
    rw [List.drop_zero] at hrd
    have hbad := decD_bad (bs := bs)
    have hstop := decD_stop (bs := bs)
    have hmore := fun ls p => decD_more (bs := bs) (ls := ls) (p := p)
    have hend := fun ls p => decD_end (bs := bs) (ls := ls) (p := p)
    obtain ⟨cnt, hn⟩ : ∃ n, (getL bs 0 0).1 = n := ⟨_, rfl⟩
    obtain ⟨q, hq⟩ : ∃ q, (getL bs 0 0).2.1 = q := ⟨_, rfl⟩
    obtain ⟨er, her⟩ : ∃ er, (getL bs 0 0).2.2 = er := ⟨_, rfl⟩
    rw [hn, hq, her] at HG hrd
    rw [hn, her] at hbad
    rw [hn, hq] at hstop
    simp only [hn, hq, her] at hmore hend
    have HW : Hid (∀ V, Below w.heap.size w V → Bs V a len cap bs) := fun V hV => h.below hV
    clear hn hq her h00 h
    have KN : Hid (∀ V, decD bs = none → Below w.heap.size w V → DcTo w (decF bs) (.returned (.tuple #[.slice none 0 0, .int .i64 4])) V) := fun V hd hV => by
      rw [decF_none hnl hd]
      exact DcTo.nil 4 hV
    by_cases he : er = 0
    · subst he
      obtain ⟨hq1, hq2, hn2⟩ := hrd rfl
      have HG2 : Calls Tryd.prog 42 #[.slice a len cap, .int .i64 0] w fun e w' => e = .returned (.tuple #[.int .u64 (cnt : Int), .int .i64 (q : Int), .int .i64 0]) ∧ w' = w := by
        simp only [if_true, Int.zero_add] at HG
        exact HG
      clear HG
      by_cases hc : 1024 < cnt
      · have kc : (1024 : Int) < (cnt : Int) := by omega
        have HE : Hid (DcTo w (decF bs) (.returned (.tuple #[.slice none 0 0, .int .i64 4])) w) := KN.out w (hbad (.inr hc)) (Below.refl _ _)
        clear hrd hbad hstop hmore hend
        go_enter Tryd.func23, Tryd.ntmps23
        go_wp2_with fail
        refine HG2.mono ?_
        rintro e V ⟨rfl, hV⟩
        subst V
        clear HG2
        go_wp2
        refine bodyPost_ret (v := .tuple #[.slice none 0 0, .int .i64 4]) ?_ rfl HE.out
        simp [results, go_sem]
      · have kc : ¬ (1024 : Int) < (cnt : Int) := by omega
        have HST : Hid ((decR cnt (bs.drop q) = none → decD bs = none) ∧ (∀ ls p, decR cnt (bs.drop q) = some (ls, bs.drop p) → p < bs.length → decD bs = none) ∧ (∀ ls p, decR cnt (bs.drop q) = some (ls, bs.drop p) → bs.length ≤ p → decD bs = if mayP ls then some ls else none)) := ⟨hstop, hmore, fun ls p h1 h2 => hend ls p (by omega) h1 h2⟩
        have HD0 : Hid (DecI bs cnt q 0 q []) := DecI.start (by omega)
        have HBL : Hid (bs.length = len) := hbl
        obtain ⟨B, hB⟩ : ∃ B, w.heap.size = B := ⟨_, rfl⟩
        have HB0 : Hid (w.heap.size = B) := hB
        have hql : q ≤ len := by omega
        clear hrd hbad hstop hmore hend hB hbl hq1 hq2
        go_enter Tryd.func23, Tryd.ntmps23
        go_wp2_with fail
        refine HG2.mono ?_
        rintro e V ⟨rfl, hV⟩
        subst V
        clear HG2
        go_wp2
        go_loopw [5, 7, 27] (fun va vl vi wr => ∃ (i p c' : Nat) (a' : Option Addr) (ls : List Pc), i ≤ cnt ∧ p ≤ len ∧ va = .int .i64 p ∧ vl = .slice a' i c' ∧ vi = .int .u64 i ∧ DecI bs cnt q i p ls ∧ wr.ownsRow B 48 3 (.slice a' i c') i (pcR ls) ∧ Below w.heap.size w wr) (fun _ _ vi _ => cnt - (intOf vi).toNat)
        case atStart => exact ⟨0, q, 0, none, [], by omega, hql, rfl, rfl, rfl, HD0.out, World.ownsRow_nil _ _ _ _, Below.refl _ _⟩
        case round =>
          obtain ⟨i, p, c', a', ls, hi, hp, rfl, rfl, rfl, hdi, hown, hbw⟩ := hrel
          by_cases hlt : i < cnt
          · have kk : (i : Int) < (cnt : Int) := by omega
            have HPI := piece_any (HW.out wr hbw) p hp (by omega)
            cases hpf : pieceF bs p with
            | none =>
              rw [hpf] at HPI
              have HPJ : Calls Tryd.prog 43 #[.slice a len cap, .int .i64 (p : Int)] wr fun e w' => e = .returned (.tuple #[.agg #[.bool false, .int .i64 0, .string ⟨#[]⟩], .int .i64 0, .bool false]) ∧ Below wr.heap.size wr w' := HPI
              clear HPI
              have HDN : Hid (decD bs = none ∧ Below w.heap.size w wr) := ⟨HST.out.1 (hdi.stop hlt hpf), hbw⟩
              clear hdi hown hbw hpf
              go_wp2_with fail
              refine HPJ.mono ?_
              rintro e V1 ⟨rfl, hb1⟩
              have hB1 := HDN.out.2.trans (hb1.mono HDN.out.2.size)
              have HE : Hid (DcTo w (decF bs) (.returned (.tuple #[.slice none 0 0, .int .i64 4])) (V1.alloc (.cells #[.bool false, .int .i64 0, .string ⟨#[]⟩] 48))) := KN.out _ HDN.out.1 (hB1.alloc hB1.size _)
              clear HPJ hb1 hB1
              go_wp2
              refine bodyPost_ret (v := .tuple #[.slice none 0 0, .int .i64 4]) ?_ rfl HE.out
              simp [results, go_sem]
            | some x =>
              obtain ⟨⟨p1, p2, p3⟩, q2⟩ := x
              rw [hpf] at HPI
              have HPJ : Calls Tryd.prog 43 #[.slice a len cap, .int .i64 (p : Int)] wr fun e w' => e = .returned (.tuple #[.agg #[.bool p1, .int .i64 p2, .string p3], .int .i64 (q2 : Int), .bool true]) ∧ Below wr.heap.size wr w' := HPI
              clear HPI
              have hq2 : q2 ≤ len := by have := (piece_le hpf).1; have := HBL.out; omega
              have HDN : Hid (DecI bs cnt q (i + 1) q2 (ls ++ [⟨p1, p2, p3⟩]) ∧ Below w.heap.size w wr ∧ wr.ownsRow B 48 3 (.slice a' i c') i (pcR ls)) := ⟨hdi.step hlt hpf, hbw, hown⟩
              clear hdi hown hbw hpf
              go_wp2_with fail
              refine HPJ.mono ?_
              rintro e V1 ⟨rfl, hb1⟩
              obtain ⟨V2, hV2, r2, hb2⟩ := box_pc (w := V1) p1 p2 p3
              obtain ⟨pb, hpb⟩ : ∃ pb, V1.heap.size = pb := ⟨_, rfl⟩
              rw [hpb] at r2
              have x0 : V2.cell? ⟨pb, 0, none⟩ = some (.bool p1) := by rw [cell_of_row _ _ _ _ _ _ r2]; rfl
              have x1 : V2.cell? ⟨pb, 1, none⟩ = some (.int .i64 p2) := by rw [cell_of_row _ _ _ _ _ _ r2]; rfl
              have x2 : V2.cell? ⟨pb, 2, none⟩ = some (.string p3) := by rw [cell_of_row _ _ _ _ _ _ r2]; rfl
              obtain ⟨V3, hV3, r3, hb3⟩ := box_pc (w := V2) p1 p2 p3
              have hB3 : Below wr.heap.size wr V3 := (hb1.trans (hb2.mono hb1.size)).trans (hb3.mono (Nat.le_trans hb1.size hb2.size))
              have ho3 := own_keep HDN.out.2.2 (W' := V3) (fun j hj => hB3.block j (HDN.out.2.2.lt j hj).2)
              have hBW : Below w.heap.size w V3 := HDN.out.2.1.trans (hB3.mono HDN.out.2.1.size)
              have hBs : B ≤ V3.heap.size := by have := HB0.out; have := hBW.size; omega
              obtain ⟨aA, cA, VA, hrA, hoA, hgA, _⟩ := addH_own V3 ho3 (pcRow (p := ⟨p1, p2, p3⟩) r3) (by omega) hBs
              have HE : Hid (VA.ownsRow B 48 3 (.slice aA (i + 1) cA) (i + 1) (pcR (ls ++ [⟨p1, p2, p3⟩])) ∧ Below w.heap.size w VA) := ⟨hoA, hBW.grown hgA hBW.size (fun j hj => by have := (ho3.lt j (by rw [ob_slice]; exact hj)).1; have := HB0.out; omega)⟩
              clear HPJ hb1 hb2 hb3 r2 r3 hB3 ho3 hBW hBs hoA hgA
              go_wp2_with ((at_builtin; refine wpList_app V3 rfl _ _ _ _ rfl rfl rfl (hrA _) ?_))
              exact ⟨⟨i + 1, q2, cA, aA, ls ++ [⟨p1, p2, p3⟩], by omega, hq2, by first | rfl | go_num, by first | rfl | go_num, by go_num, HDN.out.1, HE.out.1, HE.out.2⟩, by simp [intOf]; omega⟩
          · obtain rfl : i = cnt := by omega
            have kk : ¬ (i : Int) < (i : Int) := by omega
            have hde := hdi.end
            by_cases hpl : p < len
            · have kp : (p : Int) < (len : Int) := by omega
              have HE : Hid (DcTo w (decF bs) (.returned (.tuple #[.slice none 0 0, .int .i64 4])) wr) := KN.out wr (HST.out.2.1 ls p hde (by have := HBL.out; omega)) hbw
              clear hdi hown hbw hde
              go_wp2
              refine bodyPost_ret (v := .tuple #[.slice none 0 0, .int .i64 4]) ?_ rfl HE.out
              simp [results, go_sem]
            · have kp : ¬ (p : Int) < (len : Int) := by omega
              have hdd := HST.out.2.2 ls p hde (by have := HBL.out; omega)
              have HCK := dcheck_any (show Hw (fun _ => True) wr a' i c' ls from Rw.own hown (fun _ _ => trivial))
              have HH : Hid (Below w.heap.size w wr ∧ wr.ownsRow B 48 3 (.slice a' i c') i (pcR ls)) := ⟨hbw, hown⟩
              clear hdi hown hbw hde
              cases hm : mayP ls with
              | false =>
                rw [hm] at HCK
                rw [hm, if_neg (by decide)] at hdd
                have HDD : Hid (decD bs = none) := hdd
                clear hdd hm
                go_wp2_with fail
                refine HCK.mono ?_
                rintro e V1 ⟨rfl, hb1⟩
                have e1 : ckI false = 1 := rfl
                rw [e1]
                have HE : Hid (DcTo w (decF bs) (.returned (.tuple #[.slice none 0 0, .int .i64 4])) V1) := KN.out V1 HDD.out (HH.out.1.trans (hb1.mono HH.out.1.size))
                clear HCK hb1 e1
                go_wp2
                refine bodyPost_ret (v := .tuple #[.slice none 0 0, .int .i64 4]) ?_ rfl HE.out
                simp [results, go_sem]
              | true =>
                rw [hm] at HCK
                rw [hm, if_pos rfl] at hdd
                have HDD : Hid (decF bs = (ls, 0)) := decF_some hnl hdd
                clear hdd hm
                go_wp2_with fail
                refine HCK.mono ?_
                rintro e V1 ⟨rfl, hb1⟩
                have e1 : ckI true = 0 := rfl
                rw [e1]
                have HE : Hid (DcTo w (decF bs) (.returned (.tuple #[.slice a' i c', .int .i64 0])) V1) := by
                  rw [HDD.out]
                  exact ⟨a', i, c', rfl, by rw [HB0.out]; exact own_keep HH.out.2 (fun j hj => hb1.block j (HH.out.2.lt j hj).2), HH.out.1.trans (hb1.mono HH.out.1.size)⟩
                clear HCK hb1 e1
                go_wp2
                refine bodyPost_ret (v := .tuple #[.slice a' i c', .int .i64 0]) ?_ rfl HE.out
                simp [results, go_sem]
    · have ke : ((er : Int) == 0) = false := by simpa using (show ¬ (er : Int) = 0 by omega)
      have HG2 : Calls Tryd.prog 42 #[.slice a len cap, .int .i64 0] w fun e w' => e = .returned (.tuple #[.int .u64 (cnt : Int), .int .i64 0, .int .i64 (er : Int)]) ∧ w' = w := by
        rw [if_neg he] at HG
        exact HG
      clear HG
      have HE : Hid (DcTo w (decF bs) (.returned (.tuple #[.slice none 0 0, .int .i64 4])) w) := KN.out w (hbad (.inl he)) (Below.refl _ _)
      clear hrd hbad hstop hmore hend
      go_enter Tryd.func23, Tryd.ntmps23
      go_wp2_with fail
      refine HG2.mono ?_
      rintro e V ⟨rfl, hV⟩
      subst V
      clear HG2
      go_wp2
      refine bodyPost_ret (v := .tuple #[.slice none 0 0, .int .i64 4]) ?_ rfl HE.out
      simp [results, go_sem]
end Go.Proofs.YtbhnmjjfammlkaaDoor
