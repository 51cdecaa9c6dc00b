/-
  Contracts: the document's change, Write, Erase.
-/
import Derived.Test.YtopajipagacmkaaSlotRef
namespace Go.Proofs.Ytopajipagacmkaa
open Go.RowKit
set_option linter.unusedVariables false

theorem run_eql1 {x : Int} {b : Bool} (h : (x == 1) = b) {o : Oper} {a : Act} {s c : Operand} (ho : o.op = .binOp .eql 3 s c 3) (hs : a.eval s = .int .i64 x) (hc : a.eval c = .int .i64 1) (w : World) : (execOp a.eval o).run Try.prog w = .ok (.value (.bool b)) w := by
  unfold execOp
  simp only [ho, hs, hc]
  simp [go_sem, ← h]

set_option maxHeartbeats 4000000 in
set_option maxRecDepth 8000 in
theorem refChange_any (S : SS) (i : Nat) (hi : i < 2) (x : Cel) (w : World) (hu : S.p.up = true) (hh : S.p.left < 9223372036854775808) :
    Calls Try.prog 31 #[.agg (rowOf 40 (rsF S)), .int .i64 (i : Nat), .agg (rowOf 18 (celF x))] w (RsEnd (turnS S i x) (turnE S.p) w) := by
  obtain ⟨w3, hw3⟩ : ∃ w3, w3 = ((w.alloc (.cells (rowOf 40 (rsF S)) 37)).alloc (.cells (rowOf 18 (celF x)) 34)).alloc (.cells (rowOf 40 (rsF noneSS)) 37) := ⟨_, rfl⟩
  have b0 : Below w.heap.size w w3 := by rw [hw3]; exact allocs_below [.cells (rowOf 40 (rsF S)) 37, .cells (rowOf 18 (celF x)) 34, .cells (rowOf 40 (rsF noneSS)) 37] w
  have r1 : Hid (RowAt w3 w.heap.size 37 (rowOf 40 (rsF S))) := by rw [hw3]; exact allocs_row [.cells (rowOf 40 (rsF S)) 37, .cells (rowOf 18 (celF x)) 34, .cells (rowOf 40 (rsF noneSS)) 37] w 0 _ _ rfl
  have r2 : Hid (RowAt w3 (w.heap.size + 1) 34 (rowOf 18 (celF x))) := by rw [hw3]; exact allocs_row [.cells (rowOf 40 (rsF S)) 37, .cells (rowOf 18 (celF x)) 34, .cells (rowOf 40 (rsF noneSS)) 37] w 1 _ _ rfl
  have r3 : Hid (RowAt w3 (w.heap.size + 2) 37 (rowOf 40 (rsF noneSS))) := by rw [hw3]; exact allocs_row [.cells (rowOf 40 (rsF S)) 37, .cells (rowOf 18 (celF x)) 34, .cells (rowOf 40 (rsF noneSS)) 37] w 2 _ _ rfl
  have i1 := (cell_no i hi).2
  have hw3' := Lib.hid hw3
  clear hw3
  obtain ⟨b, hb⟩ : ∃ b, (S.p.left - 1 != 0) = b := ⟨_, rfl⟩
  have A := Lib.hid (refA_act S.p w3 hu hh b hb)
  obtain ⟨p1, hp1⟩ : ∃ p1, p1 = actS S.p b (S.p.left - 1) := ⟨_, rfl⟩
  rw [← hp1] at A
  have kp : Hid (p1.keep = S.p.keep) := by unfold Hid; rw [hp1]; rfl
  obtain ⟨o, ho⟩ : ∃ o, decide (S.p.keep % 2 = 1) = o := ⟨_, rfl⟩
  have hm : Hid (((Int.tmod ((S.p.keep : Nat) : Int) 2) == 1) = o) := by
    unfold Hid
    rw [← ho, Int.tmod_eq_emod_of_nonneg (by omega), Bool.eq_iff_iff, beq_iff_eq, decide_eq_true_iff]
    omega
  have eE : Hid (turnE S.p = if b = true then 0 else 4) := by unfold Hid turnE; rw [hb]
  have eS : Hid (turnS S i x = ⟨p1, if (b || o) = true then updC S.c i x else S.c⟩) := by unfold Hid turnS doneB; rw [hb, ho, hp1]
  clear hu hh hb hp1 ho
  go_enter Try.func31, Try.ntmps31
  go_wp2_with (first | (refine wpList_new rfl (run_allocRef rfl _) ?_; rw [← hw3'.out]) | (refine wpList_load_at rfl 29 _ rfl w.heap.size 0 rfl 37 _ _ 4 (pwF S.p) r1.out (rs_pw S) Try.underlying29 rfl infoPow4 ?_))
  refine A.out.mono ?_
  rintro e w4 ⟨rfl, b4⟩
  clear A hw3'
  replace r1 := Lib.hid (r1.out.below b4 r1.out.lt)
  replace r2 := Lib.hid (r2.out.below b4 r2.out.lt)
  replace r3 := Lib.hid (r3.out.below b4 r3.out.lt)
  replace b0 := b0.trans (b4.mono b0.size)
  clear b4
  have l1 := r1.out.lt
  have l2 := r2.out.lt
  have l3 := r3.out.lt
  have l4 := b0.size
  have q4 := Lib.hid (RowAt.new w4 29 (rowOf 4 (pwF noneS)))
  have ba : Below w4.heap.size w4 (w4.alloc (.cells (rowOf 4 (pwF noneS)) 29)) := (Below.refl _ _).alloc (Nat.le_refl _) _
  have bs := below_setRow' (b0.alloc l4 (.cells (rowOf 4 (pwF noneS)) 29)) l4 (rowOf 4 (pwF p1))
  have s1 := Lib.hid (((r1.out.below ba l1).setRowOther w4.heap.size (rowOf 4 (pwF p1)) (by omega)))
  have s2 := Lib.hid (((r2.out.below ba l2).setRowOther w4.heap.size (rowOf 4 (pwF p1)) (by omega)))
  have s3 := Lib.hid (((r3.out.below ba l3).setRowOther w4.heap.size (rowOf 4 (pwF p1)) (by omega)))
  have q5 := Lib.hid (q4.out.setRow (rowOf 4 (pwF p1)))
  obtain ⟨w5, hw5⟩ : ∃ w5, w5 = (w4.alloc (.cells (rowOf 4 (pwF noneS)) 29)).setRow w4.heap.size (rowOf 4 (pwF p1)) := ⟨_, rfl⟩
  rw [← hw5] at bs s1 s2 s3 q5
  have t1 := Lib.hid (s1.out.setRow (rowOf 40 (rsF { S with p := p1 })))
  have t2 := Lib.hid (s2.out.setRowOther w.heap.size (rowOf 40 (rsF { S with p := p1 })) (by omega))
  have t3 := Lib.hid (s3.out.setRowOther w.heap.size (rowOf 40 (rsF { S with p := p1 })) (by omega))
  have q6 := Lib.hid (q5.out.setRowOther w.heap.size (rowOf 40 (rsF { S with p := p1 })) (by omega))
  have b6 := below_setRow' bs (Nat.le_refl _) (rowOf 40 (rsF { S with p := p1 }))
  obtain ⟨w6, hw6⟩ : ∃ w6, w6 = w5.setRow w.heap.size (rowOf 40 (rsF { S with p := p1 })) := ⟨_, rfl⟩
  rw [← hw6] at b6 t1 t2 t3 q6
  rw [← rs_pow] at hw6
  replace hw5 := Lib.hid hw5
  replace hw6 := Lib.hid hw6
  have ck := pf2 q6.out
  rw [kp.out] at ck
  clear ba l4 bs s2 s3 kp l1 l2 l3 r1 r2 r3 b0
  cases b with
  | true =>
    rw [if_pos rfl] at eE
    rw [Bool.true_or, if_pos rfl] at eS
    have u1 := Lib.hid (t1.out.setRow (rowOf 40 (rsF ⟨p1, updC S.c i x⟩)))
    have u3 := Lib.hid (t3.out.setRowOther w.heap.size (rowOf 40 (rsF ⟨p1, updC S.c i x⟩)) (by omega))
    have u4 := below_setRow' b6 (Nat.le_refl _) (rowOf 40 (rsF ⟨p1, updC S.c i x⟩))
    go_wp2_with (first | (refine wpList_new rfl (run_allocPow rfl _) ?_) | (refine wpList_store_row rfl 29 _ _ rfl w4.heap.size (rowOf 4 (pwF p1)) rfl rfl 29 (rowOf 4 (pwF noneS)) q4.out (infoPow _) (by rw [rowOf_size, rowOf_size]) (pwF_all _) ?_; rw [← hw5.out]) | (refine wpList_load_row rfl 29 _ rfl w4.heap.size rfl 29 (rowOf 4 (pwF p1)) (0, 0) _ q5.out Try.underlying29 rfl (infoPow _) ?_) | (refine wpList_store_at rfl 29 _ _ rfl w.heap.size 0 40 4 (rsF S) (pwF p1) rfl rfl 37 s1.out infoPow4 (pwF_all _) (by decide) ?_; rw [← hw6.out]) | (refine wpList_wknown (by rfl) (run_eql1 hm.out rfl rfl rfl _) ?_) | (refine wpList_load_row rfl 34 _ rfl (w.heap.size + 1) rfl 34 (rowOf 18 (celF x)) (0, 0) _ t2.out Try.underlying34 rfl (infoRCell' _) ?_) | (refine wpList_store_at rfl 34 _ _ rfl w.heap.size (4 + i * 18) 40 18 (rsF { S with p := p1 }) (celF x) rfl rfl 37 t1.out infoRCell (celF_all _) (by omega) ?_; rw [rs_cell]) | (refine wpList_load_row rfl 37 _ rfl w.heap.size rfl 37 (rowOf 40 (rsF ⟨p1, updC S.c i x⟩)) (0, 0) _ u1.out Try.underlying37 rfl (infoRef _) ?_) | (refine wpList_store_row rfl 37 _ _ rfl (w.heap.size + 2) (rowOf 40 (rsF ⟨p1, updC S.c i x⟩)) rfl rfl 37 (rowOf 40 (rsF noneSS)) u3.out (infoRef _) (by rw [rowOf_size, rowOf_size]) (rsF_all _) ?_))
    refine bodyPost_ret (v := .tuple #[.agg (rowOf 40 (rsF ⟨p1, updC S.c i x⟩)), .int .i64 0]) ?_ rfl ⟨by rw [eS.out, eE.out]; rfl, below_setRow' u4 (by omega) _⟩
    exact results_row_one Try.results31 _ _ (w.heap.size + 2) 37 (rowOf 40 (rsF ⟨p1, updC S.c i x⟩)) (0, 0) _ rfl (u3.out.setRow _) Try.underlying37 rfl (infoRef _)
  | false =>
    rw [if_neg (by decide)] at eE
    rw [Bool.false_or] at eS
    cases o with
    | true =>
      rw [if_pos rfl] at eS
      have u1 := Lib.hid (t1.out.setRow (rowOf 40 (rsF ⟨p1, updC S.c i x⟩)))
      have u3 := Lib.hid (t3.out.setRowOther w.heap.size (rowOf 40 (rsF ⟨p1, updC S.c i x⟩)) (by omega))
      have u4 := below_setRow' b6 (Nat.le_refl _) (rowOf 40 (rsF ⟨p1, updC S.c i x⟩))
      go_wp2_with (first | (refine wpList_new rfl (run_allocPow rfl _) ?_) | (refine wpList_store_row rfl 29 _ _ rfl w4.heap.size (rowOf 4 (pwF p1)) rfl rfl 29 (rowOf 4 (pwF noneS)) q4.out (infoPow _) (by rw [rowOf_size, rowOf_size]) (pwF_all _) ?_; rw [← hw5.out]) | (refine wpList_load_row rfl 29 _ rfl w4.heap.size rfl 29 (rowOf 4 (pwF p1)) (0, 0) _ q5.out Try.underlying29 rfl (infoPow _) ?_) | (refine wpList_store_at rfl 29 _ _ rfl w.heap.size 0 40 4 (rsF S) (pwF p1) rfl rfl 37 s1.out infoPow4 (pwF_all _) (by decide) ?_; rw [← hw6.out]) | (refine wpList_wknown (by rfl) (run_eql1 hm.out rfl rfl rfl _) ?_) | (refine wpList_load_row rfl 34 _ rfl (w.heap.size + 1) rfl 34 (rowOf 18 (celF x)) (0, 0) _ t2.out Try.underlying34 rfl (infoRCell' _) ?_) | (refine wpList_store_at rfl 34 _ _ rfl w.heap.size (4 + i * 18) 40 18 (rsF { S with p := p1 }) (celF x) rfl rfl 37 t1.out infoRCell (celF_all _) (by omega) ?_; rw [rs_cell]) | (refine wpList_load_row rfl 37 _ rfl w.heap.size rfl 37 (rowOf 40 (rsF ⟨p1, updC S.c i x⟩)) (0, 0) _ u1.out Try.underlying37 rfl (infoRef _) ?_) | (refine wpList_store_row rfl 37 _ _ rfl (w.heap.size + 2) (rowOf 40 (rsF ⟨p1, updC S.c i x⟩)) rfl rfl 37 (rowOf 40 (rsF noneSS)) u3.out (infoRef _) (by rw [rowOf_size, rowOf_size]) (rsF_all _) ?_))
      refine bodyPost_ret (v := .tuple #[.agg (rowOf 40 (rsF ⟨p1, updC S.c i x⟩)), .int .i64 4]) ?_ rfl ⟨by rw [eS.out, eE.out]; rfl, below_setRow' u4 (by omega) _⟩
      exact results_row_one Try.results31 _ _ (w.heap.size + 2) 37 (rowOf 40 (rsF ⟨p1, updC S.c i x⟩)) (0, 0) _ rfl (u3.out.setRow _) Try.underlying37 rfl (infoRef _)
    | false =>
      rw [if_neg (by decide)] at eS
      have u1 : Hid (RowAt w6 w.heap.size 37 (rowOf 40 (rsF ⟨p1, S.c⟩))) := t1
      have u3 := t3
      have u4 := b6
      go_wp2_with (first | (refine wpList_new rfl (run_allocPow rfl _) ?_) | (refine wpList_store_row rfl 29 _ _ rfl w4.heap.size (rowOf 4 (pwF p1)) rfl rfl 29 (rowOf 4 (pwF noneS)) q4.out (infoPow _) (by rw [rowOf_size, rowOf_size]) (pwF_all _) ?_; rw [← hw5.out]) | (refine wpList_load_row rfl 29 _ rfl w4.heap.size rfl 29 (rowOf 4 (pwF p1)) (0, 0) _ q5.out Try.underlying29 rfl (infoPow _) ?_) | (refine wpList_store_at rfl 29 _ _ rfl w.heap.size 0 40 4 (rsF S) (pwF p1) rfl rfl 37 s1.out infoPow4 (pwF_all _) (by decide) ?_; rw [← hw6.out]) | (refine wpList_wknown (by rfl) (run_eql1 hm.out rfl rfl rfl _) ?_) | (refine wpList_load_row rfl 37 _ rfl w.heap.size rfl 37 (rowOf 40 (rsF ⟨p1, S.c⟩)) (0, 0) _ u1.out Try.underlying37 rfl (infoRef _) ?_) | (refine wpList_store_row rfl 37 _ _ rfl (w.heap.size + 2) (rowOf 40 (rsF ⟨p1, S.c⟩)) rfl rfl 37 (rowOf 40 (rsF noneSS)) u3.out (infoRef _) (by rw [rowOf_size, rowOf_size]) (rsF_all _) ?_))
      refine bodyPost_ret (v := .tuple #[.agg (rowOf 40 (rsF ⟨p1, S.c⟩)), .int .i64 4]) ?_ rfl ⟨by rw [eS.out, eE.out]; rfl, below_setRow' u4 (by omega) _⟩
      exact results_row_one Try.results31 _ _ (w.heap.size + 2) 37 (rowOf 40 (rsF ⟨p1, S.c⟩)) (0, 0) _ rfl (u3.out.setRow _) Try.underlying37 rfl (infoRef _)

end Go.Proofs.Ytopajipagacmkaa
