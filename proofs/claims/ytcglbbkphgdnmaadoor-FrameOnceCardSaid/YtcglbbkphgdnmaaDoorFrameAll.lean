/-
  Contract: takeAll, over the six parts of a page.
-/
import Derived.Test.YtcglbbkphgdnmaaDoorFrameTake
namespace Go.Proofs.YtcglbbkphgdnmaaDoor
open Go.RowKit
set_option linter.unusedVariables false

theorem okB_iff (P : List UInt8) : okB P = true ↔ P.length = 256 ∧ kindL P ≠ 0 ∧ lenL P ≤ 229 ∧ P.drop 240 = sumL (P.take 240) ∧ (P.take 240).drop (11 + lenL P) = List.replicate (229 - lenL P) 0 := by
  unfold okB
  simp only [Bool.and_eq_true, decide_eq_true_eq, Bool.not_eq_true', decide_eq_false_iff_not]
  constructor
  · rintro ⟨h1, h2, h3, h4⟩
    exact ⟨h1, h2, h3, (page_iff h1 h3).1 h4⟩
  · rintro ⟨h1, h2, h3, h4⟩
    exact ⟨h1, h2, h3, (page_iff h1 h3).2 h4⟩
theorem okB_no {P : List UInt8} (h : okB P = true → False) : okB P = false := by
  cases hb : okB P
  · rfl
  · exact absurd hb h

theorem take_at (P : List UInt8) (a b : Nat) (h : a + b ≤ 240) : ((P.take 240).drop a).take b = (P.drop a).take b := by
  rw [List.drop_take, List.take_take, Nat.min_eq_left (by omega)]

/-- How far a page is read: what is left, how many parts were taken, what they gave. -/
inductive Ph (w0 : World) (q : Nat) (P : List UInt8) : Value → Value → World → Prop
  | p0 (w : World) (h : Hid (GW w0 q 0 0 ByteArray.empty 0 w)) : Ph w0 q P (.string (bs P)) (.int .i64 0) w
  | p1 (w : World) (hl : P.length = 256) (hs : Hid (P.drop 240 = sumL (P.take 240))) (h : Hid (GW w0 q 0 0 ByteArray.empty 0 w)) : Ph w0 q P (.string (bs (P.take 240))) (.int .i64 1) w
  | p2 (w : World) (hl : P.length = 256) (hs : Hid (P.drop 240 = sumL (P.take 240))) (hk : Hid (kindL P ≠ 0)) (h : Hid (GW w0 q (kindL P) 0 ByteArray.empty 0 w)) : Ph w0 q P (.string (bs ((P.take 240).drop 1))) (.int .i64 2) w
  | p3 (w : World) (hl : P.length = 256) (hs : Hid (P.drop 240 = sumL (P.take 240))) (hk : Hid (kindL P ≠ 0)) (h : Hid (GW w0 q (kindL P) (seqL P) ByteArray.empty 0 w)) : Ph w0 q P (.string (bs ((P.take 240).drop 9))) (.int .i64 3) w
  | p4 (w : World) (hl : P.length = 256) (hs : Hid (P.drop 240 = sumL (P.take 240))) (hk : Hid (kindL P ≠ 0)) (hm : lenL P ≤ 229) (h : Hid (GW w0 q (kindL P) (seqL P) ByteArray.empty (lenL P) w)) : Ph w0 q P (.string (bs ((P.take 240).drop 11))) (.int .i64 4) w
  | p5 (w : World) (hl : P.length = 256) (hs : Hid (P.drop 240 = sumL (P.take 240))) (hk : Hid (kindL P ≠ 0)) (hm : lenL P ≤ 229) (h : Hid (GW w0 q (kindL P) (seqL P) (bs (textL P)) (lenL P) w)) : Ph w0 q P (.string (bs ((P.take 240).drop (11 + lenL P)))) (.int .i64 5) w
  | p6 (w : World) (hok : Hid (okB P = true)) (h : Hid (GW w0 q (kindL P) (seqL P) (bs (textL P)) (lenL P) w)) : Ph w0 q P (.string ByteArray.empty) (.int .i64 6) w

/-- What takeAll leaves. -/
def TakeEnd (w0 : World) (q : Nat) (P : List UInt8) (e : Ending) (w' : World) : Prop :=
  e = .returned (.bool (okB P)) ∧ ∃ K N T M, GW w0 q K N T M w' ∧ (okB P = true → K = kindL P ∧ N = seqL P ∧ T = bs (textL P))

theorem TakeEnd.no {w0 w' : World} {q K N M : Nat} {T : ByteArray} {P : List UInt8} (h : GW w0 q K N T M w') (hn : okB P = false) : TakeEnd w0 q P (.returned (.bool false)) w' :=
  ⟨by rw [hn], _, _, _, _, h, fun hh => by rw [hn] at hh; cases hh⟩

set_option maxHeartbeats 1000000 in
set_option maxRecDepth 8000 in
theorem takeAll_any (w0 : World) (q : Nat) (P : List UInt8) (hP : P.length ≤ 100000) (w : World) (hk : Hid (KRow w0)) (hq : Hid (0 < q)) (h : Hid (GW w0 q 0 0 ByteArray.empty 0 w)) :
    Calls Tryd.prog 17 #[.string (bs P), .slice (some ⟨q + 9, 0, none⟩) 6 6] w (TakeEnd w0 q P) := by
  go_enter Tryd.func17, Tryd.ntmps17
  go_wp2
  go_loopw [5, 13] (fun t i wr => Ph w0 q P t i wr) (fun _ i _ => 6 - (Lib.intOf i).toNat)
  case atStart => exact Ph.p0 w h
  case round =>
    clear h
    cases hrel with
    | p0 _ h =>
      have c := h.out.ps.one 0 rfl
      have KR : Hid (KRow wr) := hk.out.below h.out.rest hq.out h.out.rest.size
      by_cases hl : P.length = 256
      · cases hb : decide (P.drop 240 = sumL (P.take 240)) with
        | false =>
          have hno : Hid (okB P = false) := okB_no fun ho => by
            have := ((okB_iff P).1 ho).2.2.2.1
            rw [decide_eq_false_iff_not] at hb
            exact hb this
          have C := Lib.hid (takeSum_yes (bs P) (by rw [bs_size]; exact hl) false hb wr KR)
          clear hb hl
          go_wp2_with fail
          refine C.out.mono ?_
          rintro e w1 ⟨rfl, hb1⟩
          have h2 := h.out.after hb1
          clear C h hb1 c KR
          go_wp2
          go_ret
          exact TakeEnd.no h2 hno.out
        | true =>
          have hs : Hid (P.drop 240 = sumL (P.take 240)) := by
            unfold Hid
            exact of_decide_eq_true hb
          have C := Lib.hid (takeSum_yes (bs P) (by rw [bs_size]; exact hl) true hb wr KR)
          clear hb
          have HL := Lib.hid hl
          clear hl
          go_wp2_with fail
          refine C.out.mono ?_
          rintro e w1 ⟨rfl, hb1⟩
          have h2 := h.out.after hb1
          clear C h hb1 c KR
          go_wp2
          go_roundw
          case rel => exact Ph.p1 _ HL.out hs h2
          case measure => simp [Lib.intOf]
      · have hno : Hid (okB P = false) := okB_no fun ho => hl ((okB_iff P).1 ho).1
        have C := Lib.hid (takeSum_no (bs P) (by rw [bs_size]; exact hl) wr)
        clear hl
        go_wp2_with fail
        refine C.out.mono ?_
        rintro e w1 ⟨rfl, rfl⟩
        have h2 := h.out
        clear C h c KR
        go_wp2
        go_ret
        exact TakeEnd.no h2 hno.out
    | p1 _ hl hs h =>
      have c := h.out.ps.one 1 rfl
      cases hb : ((kindL P : Int) != 0) with
      | false =>
        have hno : Hid (okB P = false) := okB_no fun ho => by
          have := ((okB_iff P).1 ho).2.1
          simp at hb
          exact this hb
        have C := Lib.hid (partK w0 q 0 0 0 ByteArray.empty (bs (P.take 240)) (by rw [bs_size, List.length_take]; omega) (kindL P) (by unfold Hid kindL; show numV ((P.take 240).take 1) = _; rw [List.take_take]; rfl) false hb wr h)
        clear hb hl
        go_wp2_with fail
        refine C.out.mono ?_
        rintro e w1 ⟨rfl, h2⟩
        clear C h c
        go_wp2
        go_ret
        exact TakeEnd.no h2 hno.out
      | true =>
        have hkd : Hid (kindL P ≠ 0) := by
          simp at hb
          exact hb
        have C := Lib.hid (partK w0 q 0 0 0 ByteArray.empty (bs (P.take 240)) (by rw [bs_size, List.length_take]; omega) (kindL P) (by unfold Hid kindL; show numV ((P.take 240).take 1) = _; rw [List.take_take]; rfl) true hb wr h)
        clear hb
        have HL := Lib.hid hl
        clear hl
        have E : Hid (bs ((bs (P.take 240)).data.toList.drop 1) = bs ((P.take 240).drop 1)) := rfl
        rw [E.out] at C
        clear E
        generalize hR : bs ((P.take 240).drop 1) = R at C
        have HR := Lib.hid hR
        clear hR
        go_wp2_with fail
        refine C.out.mono ?_
        rintro e w1 ⟨rfl, h2⟩
        clear C h c
        go_wp2
        go_roundw
        case rel => rw [← HR.out]; exact Ph.p2 _ HL.out hs hkd h2
        case measure => simp [Lib.intOf]
    | p2 _ hl hs hkd h =>
      have c := h.out.ps.one 2 rfl
      have C := Lib.hid (partN w0 q (kindL P) 0 0 ByteArray.empty (bs ((P.take 240).drop 1)) (by rw [bs_size, List.length_drop, List.length_take]; omega) (seqL P) (by unfold Hid seqL; show numV (((P.take 240).drop 1).take 8) = _; rw [take_at P 1 8 (by decide)]) wr h)
      have HL := Lib.hid hl
      clear hl
      have E : Hid (bs ((bs ((P.take 240).drop 1)).data.toList.drop 8) = bs ((P.take 240).drop 9)) := by
        unfold Hid
        show bs (((P.take 240).drop 1).drop 8) = _
        rw [List.drop_drop]
      rw [E.out] at C
      clear E
      generalize hR : bs ((P.take 240).drop 9) = R at C
      have HR := Lib.hid hR
      clear hR
      generalize bs ((P.take 240).drop 1) = Q at *
      go_wp2_with fail
      refine C.out.mono ?_
      rintro e w1 ⟨rfl, h2⟩
      clear C h c
      go_wp2
      go_roundw
      case rel => rw [← HR.out]; exact Ph.p3 _ HL.out hs hkd h2
      case measure => simp [Lib.intOf]
    | p3 _ hl hs hkd h =>
      have c := h.out.ps.one 3 rfl
      have C : Hid (∀ b, decide ((lenL P : Int) ≤ 229) = b → Calls Tryd.prog 41 #[.string (bs ((P.take 240).drop 9)), .pointer (some ⟨q + 7, 0, none⟩), .pointer (some ⟨q + 8, 0, none⟩)] wr fun e w' => e = .returned (.tuple #[.string (bs ((P.take 240).drop 11)), .bool b]) ∧ GW w0 q (kindL P) (seqL P) ByteArray.empty (lenL P) w') := fun b hb => by
        have := partM w0 q (kindL P) (seqL P) 0 ByteArray.empty (bs ((P.take 240).drop 9)) (by rw [bs_size, List.length_drop, List.length_take]; omega) (lenL P) (by unfold Hid lenL; show numV (((P.take 240).drop 9).take 2) = _; rw [take_at P 9 2 (by decide)]) b hb wr h
        rwa [show (bs ((P.take 240).drop 9)).data.toList.drop 2 = (P.take 240).drop 11 from by show ((P.take 240).drop 9).drop 2 = _; rw [List.drop_drop]] at this
      generalize hR : bs ((P.take 240).drop 11) = R at C
      have HR := Lib.hid hR
      clear hR
      generalize bs ((P.take 240).drop 9) = Q at *
      have HL := Lib.hid hl
      clear hl
      cases hb : decide ((lenL P : Int) ≤ 229) with
      | false =>
        have hno : Hid (okB P = false) := okB_no fun ho => by
          have := ((okB_iff P).1 ho).2.2.1
          rw [decide_eq_false_iff_not] at hb
          omega
        replace C := Lib.hid (C.out false hb)
        clear hb
        go_wp2_with fail
        refine C.out.mono ?_
        rintro e w1 ⟨rfl, h2⟩
        clear C h c
        go_wp2
        go_ret
        exact TakeEnd.no h2 hno.out
      | true =>
        have hm : Hid (lenL P ≤ 229) := by
          unfold Hid
          rw [decide_eq_true_iff] at hb
          omega
        replace C := Lib.hid (C.out true hb)
        clear hb
        go_wp2_with fail
        refine C.out.mono ?_
        rintro e w1 ⟨rfl, h2⟩
        clear C h c
        go_wp2
        go_roundw
        case rel => rw [← HR.out]; exact Ph.p4 _ HL.out hs hkd hm.out h2
        case measure => simp [Lib.intOf]
    | p4 _ hl hs hkd hm h =>
      have c := h.out.ps.one 4 rfl
      have C : Hid (Calls Tryd.prog 23 #[.string (bs ((P.take 240).drop 11)), .pointer (some ⟨q + 2, 0, none⟩), .pointer (some ⟨q + 1, 0, none⟩)] wr fun e w' => e = .returned (.tuple #[.string (bs ((P.take 240).drop (11 + lenL P))), .bool true]) ∧ GW w0 q (kindL P) (seqL P) (bs (textL P)) (lenL P) w') := by
        have := partT w0 q (kindL P) (seqL P) (lenL P) ByteArray.empty (bs ((P.take 240).drop 11)) (by rw [bs_size, List.length_drop, List.length_take]; omega) (by rw [bs_size, List.length_drop, List.length_take]; omega) wr h
        rw [show (bs ((P.take 240).drop 11)).data.toList.drop (lenL P) = (P.take 240).drop (11 + lenL P) from by show ((P.take 240).drop 11).drop (lenL P) = _; rw [List.drop_drop],
          show (bs ((P.take 240).drop 11)).data.toList.take (lenL P) = textL P from by show ((P.take 240).drop 11).take (lenL P) = _; rw [take_at P 11 _ (by omega)]; rfl] at this
        exact this
      generalize hR : bs ((P.take 240).drop (11 + lenL P)) = R at C
      have HR := Lib.hid hR
      clear hR
      generalize bs ((P.take 240).drop 11) = Q at *
      have HL := Lib.hid hl
      have HM := Lib.hid hm
      clear hl hm
      go_wp2_with fail
      refine C.out.mono ?_
      rintro e w1 ⟨rfl, h2⟩
      clear C h c
      go_wp2
      go_roundw
      case rel => rw [← HR.out]; exact Ph.p5 _ HL.out hs hkd HM.out h2
      case measure => simp [Lib.intOf]
    | p5 _ hl hs hkd hm h =>
      have c := h.out.ps.one 5 rfl
      have zl : ((P.take 240).drop (11 + lenL P)).length = 229 - lenL P := by rw [List.length_drop, List.length_take]; omega
      have C : Hid (∀ b, decide ((P.take 240).drop (11 + lenL P) = List.replicate (229 - lenL P) 0) = b → Calls Tryd.prog 24 #[.string (bs ((P.take 240).drop (11 + lenL P)))] wr fun e w' => e = .returned (.tuple #[.string ByteArray.empty, .bool b]) ∧ Below wr.heap.size wr w') := fun b hb =>
        takeFilling_any _ (by rw [bs_size, zl]; omega) b (by rw [bs_size, zl]; exact hb) wr
      have hok : Hid (okB P = decide ((P.take 240).drop (11 + lenL P) = List.replicate (229 - lenL P) 0)) := by
        unfold Hid
        rw [Bool.eq_iff_iff, okB_iff, decide_eq_true_iff]
        exact ⟨fun ho => ho.2.2.2.2, fun hz => ⟨hl, hkd.out, hm, hs.out, hz⟩⟩
      clear zl hl hm
      generalize bs ((P.take 240).drop (11 + lenL P)) = Q at *
      cases hb : decide ((P.take 240).drop (11 + lenL P) = List.replicate (229 - lenL P) 0) with
      | false =>
        have hno : Hid (okB P = false) := hok.out.trans hb
        replace C := Lib.hid (C.out false hb)
        clear hb hok
        go_wp2_with fail
        refine C.out.mono ?_
        rintro e w1 ⟨rfl, hb1⟩
        have h2 := h.out.after hb1
        clear C h c hb1
        go_wp2
        go_ret
        exact TakeEnd.no h2 hno.out
      | true =>
        have hyes : Hid (okB P = true) := hok.out.trans hb
        replace C := Lib.hid (C.out true hb)
        clear hb hok
        go_wp2_with fail
        refine C.out.mono ?_
        rintro e w1 ⟨rfl, hb1⟩
        have h2 := h.out.after hb1
        clear C h c hb1
        go_wp2
        go_roundw
        case rel => exact Ph.p6 _ hyes h2
        case measure => simp [Lib.intOf]
    | p6 _ hok h =>
      go_wp2
      go_ret
      exact ⟨by rw [hok.out]; rfl, _, _, _, _, h.out, fun _ => ⟨rfl, rfl, rfl⟩⟩

end Go.Proofs.YtcglbbkphgdnmaaDoor
