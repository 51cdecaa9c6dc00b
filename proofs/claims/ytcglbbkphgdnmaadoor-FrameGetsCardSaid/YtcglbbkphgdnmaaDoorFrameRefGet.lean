/-
  Contract: the document's Get.
-/
import Derived.Test.YtcglbbkphgdnmaaDoorFrameGet
import Derived.Test.YtcglbbkphgdnmaaDoorFrameRefPut
import Derived.Test.YtcglbbkphgdnmaaDoorTake
import Derived.Test.YtcglbbkphgdnmaaDoorIndexOp
import Derived.Test.YtcglbbkphgdnmaaDoorRelyTail
import Derived.Test.YtcglbbkphgdnmaaDoorRelyFlat
import Derived.Test.YtcglbbkphgdnmaaDoorRelyMake
namespace Go.Proofs.YtcglbbkphgdnmaaDoor
open Go.RowKit
set_option linter.unusedVariables false

theorem size_refFrame (cs : Array Value) (h : cs.size = 3) : (Tryd.prog.info? 30).map (·.size) = some cs.size := by rw [h]; kernel_rfl

theorem refTake_nat (P : List UInt8) (k : Nat) (h1 : 1 ≤ k) (h2 : k ≤ 8) (hk : k ≤ P.length) (hP : P.length ≤ 100000) (w : World) :
    Calls Tryd.prog 25 #[.string (bs P), .int .i64 (k : Int)] w fun e w' => e = .returned (.tuple #[.int .u64 (numV (P.take k) : Int), .string (bs (P.drop k)), .int .i64 0]) ∧ Below w.heap.size w w' := by
  have h := refTakeNumber_any (bs P) (k : Int) (by rw [bs_size]; omega) w
  unfold tnN tnR tnE at h
  have c1 : ¬ ((k : Int) < 1 ∨ 8 < (k : Int)) := by omega
  have c2 : ¬ ((bs P).data.toList.length < (k : Int).toNat) := by show ¬ (P.length < _); omega
  rw [if_neg c1, if_neg c1, if_neg c1, if_neg c2, if_neg c2, if_neg c2] at h
  exact h

theorem kindL_byte (P : List UInt8) (h : P.length = 256) : kindL P = byteL P 0 := by
  unfold kindL byteL
  cases P with
  | nil => simp at h
  | cons b r => simp [numV]

/-- What stays while the document's Get goes on: the answer in block q. -/
theorem okB_split (P : List UInt8) (hl : P.length = 256) (hm : lenL P ≤ 229) : okB P = (!decide (kindL P = 0) && decide (pageL (kindL P) (seqL P) (textL P) = P)) := by
  unfold okB
  rw [decide_eq_true hl, decide_eq_true hm, Bool.true_and, Bool.true_and]

set_option maxHeartbeats 1000000 in
set_option maxRecDepth 8000 in
theorem refGet_list (P : List UInt8) (hs : P.length ≤ 100000) (w : World) :
    Calls Tryd.prog 10 #[.string (bs P)] w fun e w' => e = .returned (.tuple #[gotV P, .int .i64 (gotE P)]) ∧ Below w.heap.size w w' := by
  have zP : (bs P).size = P.length := bs_size P
  have r1 := Lib.hid (RowAt.new w 30 #[.int .u8 0, .int .u64 0, .string ByteArray.empty])
  have b1 : Below w.heap.size w (w.alloc (.cells #[.int .u8 0, .int .u64 0, .string ByteArray.empty] 30)) := (Below.refl _ _).alloc (Nat.le_refl _) _
  have z1 : Hid ((w.alloc (.cells #[.int .u8 0, .int .u64 0, .string ByteArray.empty] 30)).heap.size = w.heap.size + 1) := by unfold Hid; simp
  by_cases hl : P.length = 256
  · have d0 : (((bs P).size : Int) != 256) = false := by rw [zP, hl]; rfl
    have e1 : Hid ((bs P).extract 1 256 = bs (P.drop 1)) := by have := Lib.extract_from (bs P) 1; rw [zP, hl] at this; exact this
    have e9 : Hid ((bs P).extract 9 256 = bs (P.drop 9)) := by have := Lib.extract_from (bs P) 9; rw [zP, hl] at this; exact this
    have T8 : Hid (∀ w, Calls Tryd.prog 25 #[.string (bs (P.drop 1)), .int .i64 8] w fun e w' => e = .returned (.tuple #[.int .u64 (seqL P : Int), .string (bs ((P.drop 1).drop 8)), .int .i64 0]) ∧ Below w.heap.size w w') := fun w => refTake_nat (P.drop 1) 8 (by decide) (by decide) (by rw [List.length_drop]; omega) (by rw [List.length_drop]; omega) w
    have T2 : Hid (∀ w, Calls Tryd.prog 25 #[.string (bs (P.drop 9)), .int .i64 2] w fun e w' => e = .returned (.tuple #[.int .u64 (lenL P : Int), .string (bs ((P.drop 9).drop 2)), .int .i64 0]) ∧ Below w.heap.size w w') := fun w => refTake_nat (P.drop 9) 2 (by decide) (by decide) (by rw [List.length_drop]; omega) (by rw [List.length_drop]; omega) w
    generalize bs ((P.drop 1).drop 8) = R8 at *
    generalize bs ((P.drop 9).drop 2) = R2 at *
    have l1 : Hid (∀ w', (Instr.index 9 (.string (bs P)) (.int .i64 0)).run Tryd.prog w' = .ok (.int .u8 (kindL P : Int)) w') := fun w' => by
      rw [kindL_byte P hl]
      exact run_index_byte (bs P) 0 (by rw [zP]; omega) w'
    have HL := Lib.hid hl
    have hz : (bs P).size = 256 := zP.trans hl
    clear hl zP
    go_enter Tryd.func10, Tryd.ntmps10
    go_wp2_with fail
    rw [e1.out]
    generalize hq : w.heap.size = q at r1 b1 z1 ⊢
    rw [show (.string ⟨#[]⟩ : Value) = .string ByteArray.empty from rfl]
    generalize w.alloc (.cells #[.int .u8 0, .int .u64 0, .string ByteArray.empty] 30) = w0 at *
    have HQ := Lib.hid hq
    clear hq
    refine (T8.out w0).mono ?_
    rintro e w1 ⟨rfl, hb⟩
    replace r1 := Lib.hid (r1.out.below hb r1.out.lt)
    replace b1 : Below q w w1 := b1.trans (hb.mono (by rw [z1.out]; omega))
    have g1 : Hid (q + 1 ≤ w1.heap.size) := by have := hb.size; have := z1.out; unfold Hid; omega
    clear hb z1 T8 e1
    go_wp2_with fail
    rw [e9.out]
    refine (T2.out w1).mono ?_
    rintro e w2 ⟨rfl, hb⟩
    replace r1 := Lib.hid (r1.out.below hb r1.out.lt)
    replace b1 : Below q w w2 := b1.trans (hb.mono (by have := g1.out; omega))
    replace g1 : Hid (q + 1 ≤ w2.heap.size) := by have := hb.size; have := g1.out; unfold Hid; omega
    clear hb T2 e9
    cases hd : decide ((229 : Int) < (lenL P : Int)) with
    | true =>
      have e1 : Hid (gotV P = .agg #[.int .u8 0, .int .u64 0, .string ByteArray.empty] ∧ gotE P = 120) := by
        have hno : okB P = false := okB_no fun ho => by
          have := ((okB_iff P).1 ho).2.2.1
          rw [decide_eq_true_iff] at hd
          omega
        unfold Hid gotV gotE
        rw [hno]
        exact ⟨rfl, rfl⟩
      go_wp2_with (refine wpList_store_row rfl 30 _ _ rfl q #[.int .u8 0, .int .u64 0, .string ⟨#[]⟩] rfl rfl 30 _ r1.out (size_refFrame _ rfl) rfl (by simp [Value.oneCell']) ?_)
      refine bodyPost_ret (v := .tuple #[.agg #[.int .u8 0, .int .u64 0, .string ByteArray.empty], .int .i64 120]) ?_ rfl ⟨by rw [e1.out.1, e1.out.2], by rw [HQ.out]; exact below_setRow' b1 (Nat.le_refl _) _⟩
      exact results_row_one Tryd.results10 _ _ q 30 #[.int .u8 0, .int .u64 0, .string ByteArray.empty] (0, 0) _ rfl (r1.out.setRow _) Tryd.underlying30 rfl (size_refFrame _ rfl)
    | false =>
      have hm : lenL P ≤ 229 := by
        rw [decide_eq_false_iff_not] at hd
        omega
      have HOK : Hid (okB P = (!decide (kindL P = 0) && decide (pageL (kindL P) (seqL P) (textL P) = P))) := okB_split P HL.out hm
      have e3 : Hid ((bs P).extract 11 (11 + lenL P) = bs (textL P)) := by
        rw [← bs_data ((bs P).extract 11 (11 + lenL P))]
        congr 1
        rw [Lib.extract_data]
        show (P.drop 11).take (11 + lenL P - 11) = _
        rw [Nat.add_sub_cancel_left]
        rfl
      have hlen : 11 + lenL P ≤ 240 := by omega
      have wc : Hid (IntKind.i64.wrap (lenL P : Int) = (lenL P : Int)) := by unfold Hid; rw [IntWalk.i64_in _ (by omega)]
      have wa : Hid (IntKind.i64.wrap (11 + (lenL P : Int)) = ((11 + lenL P : Nat) : Int)) := by unfold Hid; rw [IntWalk.i64_in _ (by omega)]; omega
      have HC : Hid (RowC w2 q 30 #[.int .u8 0, .int .u64 0, .string ByteArray.empty] w2.drew) := ⟨(Below.refl _ _).drew, r1.out⟩
      have ht : (textL P).length = lenL P := by unfold textL; rw [List.length_take, List.length_drop]; have := HL.out; omega
      clear hd
      go_wp2_with fail
      refine wp_region_rely_tail 10 (RowC w2 q 30 #[.int .u8 0, .int .u64 0, .string ByteArray.empty]) [eqv (.string (bs P)), eqv (.int .u8 (kindL P : Int)), eqv (.int .u64 (seqL P : Int)), eqv (.string (bs P)), eqv (.int .u64 (lenL P : Int)), eqv (.int .i64 (lenL P : Int)), eqv (.int .i64 ((11 + lenL P : Nat) : Int)), eqv (.string ((bs P).extract 11 (11 + lenL P))), eqv (.agg #[.int .u8 (kindL P : Int), .int .u64 (seqL P : Int), .string ((bs P).extract 11 (11 + lenL P))]), freshv (q + 1) 30 #[.int .u8 0, .int .u64 0, .string ByteArray.empty]] (by kernel_rfl) (by kernel_rfl) HC.out (.cons (steady_eqv _) (.cons (steady_eqv _) (.cons (steady_eqv _) (.cons (steady_eqv _) (.cons (steady_eqv _) (.cons (steady_eqv _) (.cons (steady_eqv _) (.cons (steady_eqv _) (.cons (steady_eqv _) (.cons (steady_freshv _ _ _) .nil)))))))))) ?_
      intro R hR
      simp only [List.take_succ_cons, List.take_zero, List.drop_succ_cons, List.drop_zero]
      refine wpRely_cons (fun w' hC hf => ?_) (fun v => ?_)
      · (repeat (first | (obtain ⟨rfl, hf⟩ := hf) | (obtain ⟨⟨x, rfl, hx⟩, hf⟩ := hf) | (obtain ⟨_, hf⟩ := hf)))
        exact grows_eqv (by rfl) hC (by go_simp)
      simp only [Act.put, List.setIfInBounds_toArray, List.set_cons_succ, List.set_cons_zero, List.nil_append]
      refine wpRely_cons (fun w' hC hf => ?_) (fun v => ?_)
      · (repeat (first | (obtain ⟨rfl, hf⟩ := hf) | (obtain ⟨⟨x, rfl, hx⟩, hf⟩ := hf) | (obtain ⟨_, hf⟩ := hf)))
        exact grows_eqv (by rfl) hC (run_index_op l1.out rfl rfl rfl _)
      simp only [Act.put, List.setIfInBounds_toArray, List.set_cons_succ, List.set_cons_zero, List.nil_append, List.cons_append]
      refine wpRely_cons (fun w' hC hf => ?_) (fun v => ?_)
      · (repeat (first | (obtain ⟨rfl, hf⟩ := hf) | (obtain ⟨⟨x, rfl, hx⟩, hf⟩ := hf) | (obtain ⟨_, hf⟩ := hf)))
        exact grows_eqv (by rfl) hC (by go_simp)
      simp only [Act.put, List.setIfInBounds_toArray, List.set_cons_succ, List.set_cons_zero, List.nil_append, List.cons_append]
      refine wpRely_cons (fun w' hC hf => ?_) (fun v => ?_)
      · (repeat (first | (obtain ⟨rfl, hf⟩ := hf) | (obtain ⟨⟨x, rfl, hx⟩, hf⟩ := hf) | (obtain ⟨_, hf⟩ := hf)))
        exact grows_eqv (by rfl) hC (by go_simp)
      simp only [Act.put, List.setIfInBounds_toArray, List.set_cons_succ, List.set_cons_zero, List.nil_append, List.cons_append]
      refine wpRely_cons (fun w' hC hf => ?_) (fun v => ?_)
      · (repeat (first | (obtain ⟨rfl, hf⟩ := hf) | (obtain ⟨⟨x, rfl, hx⟩, hf⟩ := hf) | (obtain ⟨_, hf⟩ := hf)))
        exact grows_eqv (by rfl) hC (by go_simp)
      simp only [Act.put, List.setIfInBounds_toArray, List.set_cons_succ, List.set_cons_zero, List.nil_append, List.cons_append]
      refine wpRely_cons (fun w' hC hf => ?_) (fun v => ?_)
      · (repeat (first | (obtain ⟨rfl, hf⟩ := hf) | (obtain ⟨⟨x, rfl, hx⟩, hf⟩ := hf) | (obtain ⟨_, hf⟩ := hf)))
        exact grows_eqv (by rfl) hC (by (go_simp; try first | omega | exact wc.out))
      simp only [Act.put, List.setIfInBounds_toArray, List.set_cons_succ, List.set_cons_zero, List.nil_append, List.cons_append]
      refine wpRely_cons (fun w' hC hf => ?_) (fun v => ?_)
      · (repeat (first | (obtain ⟨rfl, hf⟩ := hf) | (obtain ⟨⟨x, rfl, hx⟩, hf⟩ := hf) | (obtain ⟨_, hf⟩ := hf)))
        exact grows_eqv (by rfl) hC (by (go_simp; try first | omega | exact wa.out))
      simp only [Act.put, List.setIfInBounds_toArray, List.set_cons_succ, List.set_cons_zero, List.nil_append, List.cons_append]
      refine wpRely_cons (fun w' hC hf => ?_) (fun v => ?_)
      · (repeat (first | (obtain ⟨rfl, hf⟩ := hf) | (obtain ⟨⟨x, rfl, hx⟩, hf⟩ := hf) | (obtain ⟨_, hf⟩ := hf)))
        exact grows_eqv (by rfl) hC (by (go_simp; rw [if_pos ⟨by omega, by omega⟩, if_pos (by omega), show (11 + (lenL P : Int)).toNat = 11 + lenL P by omega]))
      simp only [Act.put, List.setIfInBounds_toArray, List.set_cons_succ, List.set_cons_zero, List.nil_append, List.cons_append]
      refine wpRely_cons (fun w' hC hf => ?_) (fun v => ?_)
      · (repeat (first | (obtain ⟨rfl, hf⟩ := hf) | (obtain ⟨⟨x, rfl, hx⟩, hf⟩ := hf) | (obtain ⟨_, hf⟩ := hf)))
        exact grows_eqv (by rfl) hC (by (go_simp; try omega))
      simp only [Act.put, List.setIfInBounds_toArray, List.set_cons_succ, List.set_cons_zero, List.nil_append, List.cons_append]
      refine wpRely_cons (fun w' hC hf => ?_) (fun v => ?_)
      · (repeat (first | (obtain ⟨rfl, hf⟩ := hf) | (obtain ⟨⟨x, rfl, hx⟩, hf⟩ := hf) | (obtain ⟨_, hf⟩ := hf)))
        exact grows_fresh hR (fun _ _ hb h => h.after hb) hC (by rfl) (by go_simp; rfl) (by have := hC.1.size; have := g1.out; omega)
      simp only [Act.put, List.setIfInBounds_toArray, List.set_cons_succ, List.set_cons_zero, List.nil_append, List.cons_append]
      refine wpRely_nil fun w9 hC hf => ?_
      obtain ⟨_, _, _, _, _, _, _, _, rfl, ⟨x, rfl, hx, hr⟩, _⟩ := hf
      have r2 : Hid (RowAt (w9.setRow x #[.int .u8 (kindL P : Int), .int .u64 (seqL P : Int), .string ((bs P).extract 11 (11 + lenL P))]) x 30 #[.int .u8 (kindL P : Int), .int .u64 (seqL P : Int), .string ((bs P).extract 11 (11 + lenL P))]) := hr.setRow _
      have r1 : Hid (RowAt (w9.setRow x #[.int .u8 (kindL P : Int), .int .u64 (seqL P : Int), .string ((bs P).extract 11 (11 + lenL P))]) q 30 #[.int .u8 0, .int .u64 0, .string ByteArray.empty]) := hC.2.setRowOther _ _ (by omega)
      have b9 : Below q w (w9.setRow x #[.int .u8 (kindL P : Int), .int .u64 (seqL P : Int), .string ((bs P).extract 11 (11 + lenL P))]) := below_setRow' (b1.trans (hC.1.mono (by have := g1.out; omega))) (by omega) _
      clear hC HC hR b1 g1
      refine wpList_store_row rfl 30 _ _ rfl x #[.int .u8 (kindL P : Int), .int .u64 (seqL P : Int), .string ((bs P).extract 11 (11 + lenL P))] rfl rfl 30 _ hr (size_refFrame _ rfl) rfl (by simp [Value.oneCell']) ?_
      clear hr
      generalize w9.setRow x #[.int .u8 (kindL P : Int), .int .u64 (seqL P : Int), .string ((bs P).extract 11 (11 + lenL P))] = w3 at *
      rw [e3.out] at r2 ⊢
      clear l1 e3 wc wa
      have g9 : Hid (q + 1 ≤ w3.heap.size) := by have := r1.out.lt; unfold Hid; omega
      simp only [Act.put]
      have C : Hid (Calls Tryd.prog 8 #[.agg #[.int .u8 (kindL P : Int), .int .u64 (seqL P : Int), .string (bs (textL P))]] w3 fun e w' => e = .returned (.tuple #[.string (putS (kindL P) (seqL P) (bs (textL P))), .int .i64 (putE (kindL P) (bs (textL P)) : Int)]) ∧ Below w3.heap.size w3 w') :=
        refPut_any (kindL P) (seqL P) (kindL_lt P) (seqL_lt P) (bs (textL P)) (by rw [bs_size]; omega) w3
      have CS : Hid (∃ S E, (Calls Tryd.prog 8 #[.agg #[.int .u8 (kindL P : Int), .int .u64 (seqL P : Int), .string (bs (textL P))]] w3 fun e w' => e = .returned (.tuple #[.string S, .int .i64 E]) ∧ Below w3.heap.size w3 w') ∧ ((okB P = false ∧ E = 1) ∨ (okB P = false ∧ E = 0 ∧ (S.toList == (bs P).toList) = false) ∨ (okB P = true ∧ E = 0 ∧ S = bs P))) := by
        have hb : Hid ((bs (textL P)).size = lenL P) := by unfold Hid; rw [bs_size, ht]
        by_cases h0 : kindL P = 0
        · refine ⟨_, _, C.out, .inl ⟨?_, ?_⟩⟩
          · rw [HOK.out, h0]; rfl
          · unfold putE; rw [if_pos h0]; rfl
        · have hE : putE (kindL P) (bs (textL P)) = 0 := by unfold putE; rw [if_neg h0, if_neg (by rw [hb.out]; omega)]
          have hS : putS (kindL P) (seqL P) (bs (textL P)) = bs (pageL (kindL P) (seqL P) (textL P)) := by unfold putS; rw [if_neg h0, if_neg (by rw [hb.out]; omega)]; rfl
          have h3 := C.out
          rw [hE, hS] at h3
          by_cases hp : pageL (kindL P) (seqL P) (textL P) = P
          · refine ⟨_, _, h3, .inr (.inr ⟨?_, rfl, by rw [hp]⟩)⟩
            rw [HOK.out, decide_eq_true hp, decide_eq_false h0]; rfl
          · refine ⟨_, _, h3, .inr (.inl ⟨?_, rfl, ?_⟩)⟩
            · rw [HOK.out, decide_eq_false hp, Bool.and_false]
            · rw [beq_eq_false_iff_ne, ByteArray.toList_eq, ByteArray.toList_eq]
              exact hp
      clear C HOK ht
      obtain ⟨S, E, C, hcase⟩ := CS.out
      clear CS
      rcases hcase with ⟨ho, rfl⟩ | ⟨ho, rfl, hne⟩ | ⟨ho, rfl, rfl⟩
      · have e1 : Hid (gotV P = .agg #[.int .u8 0, .int .u64 0, .string ByteArray.empty] ∧ gotE P = 120) := by unfold Hid gotV gotE; rw [ho]; exact ⟨rfl, rfl⟩
        clear ho
        go_wp2_with (refine wpList_load_row rfl 30 _ rfl x rfl 30 _ (0, 0) _ r2.out Tryd.underlying30 rfl (size_refFrame _ rfl) ?_)
        refine C.mono ?_
        rintro e w4 ⟨rfl, hb⟩
        replace r1 := Lib.hid (r1.out.below hb r1.out.lt)
        have b1 : Below q w w4 := b9.trans (hb.mono (by have := g9.out; omega))
        clear b9 C
        go_wp2_with (refine wpList_store_row rfl 30 _ _ rfl q #[.int .u8 0, .int .u64 0, .string ⟨#[]⟩] rfl rfl 30 _ r1.out (size_refFrame _ rfl) rfl (by simp [Value.oneCell']) ?_)
        refine bodyPost_ret (v := .tuple #[.agg #[.int .u8 0, .int .u64 0, .string ByteArray.empty], .int .i64 120]) ?_ rfl ⟨by rw [e1.out.1, e1.out.2], by rw [HQ.out]; exact below_setRow' b1 (Nat.le_refl _) _⟩
        exact results_row_one Tryd.results10 _ _ q 30 #[.int .u8 0, .int .u64 0, .string ByteArray.empty] (0, 0) _ rfl (r1.out.setRow _) Tryd.underlying30 rfl (size_refFrame _ rfl)
      · have e1 : Hid (gotV P = .agg #[.int .u8 0, .int .u64 0, .string ByteArray.empty] ∧ gotE P = 120) := by unfold Hid gotV gotE; rw [ho]; exact ⟨rfl, rfl⟩
        clear ho
        go_wp2_with (refine wpList_load_row rfl 30 _ rfl x rfl 30 _ (0, 0) _ r2.out Tryd.underlying30 rfl (size_refFrame _ rfl) ?_)
        refine C.mono ?_
        rintro e w4 ⟨rfl, hb⟩
        replace r1 := Lib.hid (r1.out.below hb r1.out.lt)
        have b1 : Below q w w4 := b9.trans (hb.mono (by have := g9.out; omega))
        clear b9 C
        go_wp2_with (refine wpList_store_row rfl 30 _ _ rfl q #[.int .u8 0, .int .u64 0, .string ⟨#[]⟩] rfl rfl 30 _ r1.out (size_refFrame _ rfl) rfl (by simp [Value.oneCell']) ?_)
        refine bodyPost_ret (v := .tuple #[.agg #[.int .u8 0, .int .u64 0, .string ByteArray.empty], .int .i64 120]) ?_ rfl ⟨by rw [e1.out.1, e1.out.2], by rw [HQ.out]; exact below_setRow' b1 (Nat.le_refl _) _⟩
        exact results_row_one Tryd.results10 _ _ q 30 #[.int .u8 0, .int .u64 0, .string ByteArray.empty] (0, 0) _ rfl (r1.out.setRow _) Tryd.underlying30 rfl (size_refFrame _ rfl)
      · have e1 : Hid (gotV P = .agg #[.int .u8 (kindL P : Int), .int .u64 (seqL P : Int), .string (bs (textL P))] ∧ gotE P = 0) := by unfold Hid gotV gotE; rw [ho]; exact ⟨rfl, rfl⟩
        clear ho
        go_wp2_with (refine wpList_load_row rfl 30 _ rfl x rfl 30 _ (0, 0) _ r2.out Tryd.underlying30 rfl (size_refFrame _ rfl) ?_)
        refine C.mono ?_
        rintro e w4 ⟨rfl, hb⟩
        replace r1 := Lib.hid (r1.out.below hb r1.out.lt)
        have b1 : Below q w w4 := b9.trans (hb.mono (by have := g9.out; omega))
        clear b9 C
        replace r2 := Lib.hid (r2.out.below hb r2.out.lt)
        go_wp2_with (first | (refine wpList_load_row rfl 30 _ rfl x rfl 30 _ (0, 0) _ r2.out Tryd.underlying30 rfl (size_refFrame _ rfl) ?_) | (refine wpList_store_row rfl 30 _ _ rfl q #[.int .u8 (kindL P : Int), .int .u64 (seqL P : Int), .string (bs (textL P))] rfl rfl 30 _ r1.out (size_refFrame _ rfl) rfl (by simp [Value.oneCell']) ?_))
        refine bodyPost_ret (v := .tuple #[.agg #[.int .u8 (kindL P : Int), .int .u64 (seqL P : Int), .string (bs (textL P))], .int .i64 0]) ?_ rfl ⟨by rw [e1.out.1, e1.out.2], by rw [HQ.out]; exact below_setRow' b1 (Nat.le_refl _) _⟩
        exact results_row_one Tryd.results10 _ _ q 30 #[.int .u8 (kindL P : Int), .int .u64 (seqL P : Int), .string (bs (textL P))] (0, 0) _ rfl (r1.out.setRow _) Tryd.underlying30 rfl (size_refFrame _ rfl)
  · have e1 : Hid (gotV P = .agg #[.int .u8 0, .int .u64 0, .string ByteArray.empty] ∧ gotE P = 120) := by
      have hno : okB P = false := okB_no fun ho => hl ((okB_iff P).1 ho).1
      unfold Hid gotV gotE
      rw [hno]
      exact ⟨rfl, rfl⟩
    have d0 : (((bs P).size : Int) != 256) = true := by rw [zP]; simp; omega
    clear hl zP
    go_enter Tryd.func10, Tryd.ntmps10
    go_wp2_with (refine wpList_store_row rfl 30 _ _ rfl w.heap.size #[.int .u8 0, .int .u64 0, .string ⟨#[]⟩] rfl rfl 30 _ (RowAt.new _ _ _) (size_refFrame _ rfl) rfl (by simp [Value.oneCell']) ?_)
    refine bodyPost_ret (v := .tuple #[.agg #[.int .u8 0, .int .u64 0, .string ByteArray.empty], .int .i64 120]) ?_ rfl ⟨by rw [e1.out.1, e1.out.2], below_setRow' b1 (Nat.le_refl _) _⟩
    exact results_row_one Tryd.results10 _ _ w.heap.size 30 #[.int .u8 0, .int .u64 0, .string ByteArray.empty] (0, 0) _ rfl ((RowAt.new _ _ _).setRow _) Tryd.underlying30 rfl (size_refFrame _ rfl)

theorem refGet_any (s : ByteArray) (hs : s.size ≤ 100000) (w : World) :
    Calls Tryd.prog 10 #[.string s] w fun e w' => e = .returned (.tuple #[gotV s.data.toList, .int .i64 (gotE s.data.toList)]) ∧ Below w.heap.size w w' := by
  have := refGet_list s.data.toList (by rw [ba_size]; exact hs) w
  rwa [bs_data] at this

end Go.Proofs.YtcglbbkphgdnmaaDoor
