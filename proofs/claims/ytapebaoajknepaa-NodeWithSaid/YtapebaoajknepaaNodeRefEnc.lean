/-
  Contracts: the document's flag, Encode.
-/
import Derived.Test.YtapebaoajknepaaNodeRefMay
import Derived.Test.YtapebaoajknepaaNodeEnc
import Derived.Test.YtapebaoajknepaaRelyCells
namespace Go.Proofs.Ytapebaoajknepaa
open Go.RowKit
set_option linter.unusedVariables false

theorem run_conv_pair {a b : Nat} (ha : a < 256) (hb : b < 256) {o : Oper} {c : Act} {x : Operand} {p : Nat} (ho : o.op = .convert 58 9 x) (hx : c.eval x = .slice (some ⟨p, 0, none⟩) 2 2) {w : World} (h : RowAt w p 5 #[.int .u8 (a : Int), .int .u8 (b : Int)]) :
    (execOp c.eval o).run Try.prog w = .ok (.value (.string (bs (numB 1 a ++ numB 1 b)))) w := by
  have e := part_string (P := Try.prog) (src := 58) (dst := 9) (o := 0) (n := 2) (cap := 2) (f := fun j => if j = 0 then a else b) (fun j hj => by split <;> omega) Try.underlying58 Try.underlying5 Try.underlying9 h (fun j hj => by
    match j, hj with
    | 0, _ => rfl
    | 1, _ => rfl)
  have e2 : listB 2 (fun j => if j = 0 then a else b) = numB 1 a ++ numB 1 b := rfl
  rw [e2] at e
  unfold execOp
  simp only [ho, hx, Sem.run_bind, e, Result.andThen_ok, Sem.run_pure]
theorem refFlag_any (b : Bool) (w : World) :
    Calls Try.prog 26 #[.bool b] w fun e w' => e = .returned (.string (bs (flagB b))) ∧ w' = w := by
  cases b with
  | true =>
    go_enter Try.func26, Try.ntmps26
    go_wp2
    go_ret
    exact ⟨rfl, rfl⟩
  | false =>
    go_enter Try.func26, Try.ntmps26
    go_wp2
    go_ret
    exact ⟨rfl, rfl⟩
theorem encU_has2 {N : Nod} {i : Nat} (h : (N.c i).h = true) (hl : N.l = false) : bs (encU N i) ++ bs (flagB true) ++ bs (numB 1 (N.c i).s.toNat ++ numB 1 (N.c i).p.toNat) ++ bs (listB 16 (N.c i).k) = bs (encU N (i + 1)) := by
  show _ = bs (encU N i ++ encC N.l (N.c i))
  unfold encC bodyB
  rw [hl, h]
  simp only [bs_add, if_true, Bool.false_eq_true, if_false, List.append_nil, List.append_assoc]
theorem encU_leaf2 {N : Nod} {i : Nat} (h : (N.c i).h = true) (hl : N.l = true) : bs (encU N i) ++ bs (flagB true) ++ bs (numB 1 (N.c i).s.toNat ++ numB 1 (N.c i).p.toNat) ++ bs (listB 16 (N.c i).k) ++ bs (numB 8 (N.c i).x) ++ bs (numB 8 (N.c i).v) = bs (encU N (i + 1)) := by
  show _ = bs (encU N i ++ encC N.l (N.c i))
  unfold encC bodyB tailB
  rw [hl, h]
  simp only [bs_add, if_true, List.append_assoc]

set_option maxHeartbeats 4000000 in
set_option maxRecDepth 8000 in
theorem refEncode_any (N : Nod) (hb : ∀ i, i < 4 → BndC (N.c i)) (w : World) :
    Calls Try.prog 11 #[.agg (rowOf 85 (nF N))] w fun e w' => e = .returned (.tuple #[.string (encS N), .int .i64 (encE N)]) ∧ Below w.heap.size w w' := by
  have b0 := Lib.hid ((Below.refl _ w).alloc (Nat.le_refl _) (.cells (rowOf 85 (nF N)) 37))
  have r0 := Lib.hid (RowAt.new w 37 (rowOf 85 (nF N)))
  have M := Lib.hid (refMay_node N (w.alloc (.cells (rowOf 85 (nF N)) 37)))
  cases hm : mayN N with
  | false =>
    have e1 : Hid (encS N = bs [] ∧ encE N = 1) := by unfold Hid encS encE; rw [hm]; exact ⟨rfl, rfl⟩
    rw [hm] at M
    clear hm
    go_enter Try.func11, Try.ntmps11
    go_wp2_with (refine wpList_load_row rfl 37 _ rfl w.heap.size rfl 37 (rowOf 85 (nF N)) (0, 0) _ r0.out Try.underlying37 rfl (infoNodRef' _) ?_)
    refine M.out.mono ?_
    rintro e w1 ⟨rfl, b1⟩
    go_wp2
    go_ret2
    exact ⟨by rw [e1.out.1, e1.out.2]; rfl, b0.out.trans (b1.mono b0.out.size)⟩
  | true =>
    have e1 : Hid (encS N = bs (encU N 4) ∧ encE N = 0) := by unfold Hid encS encE; rw [hm]; exact ⟨rfl, rfl⟩
    have hmc := Lib.hid ((mayN_iff N).1 hm)
    rw [hm] at M
    clear hm
    go_enter Try.func11, Try.ntmps11
    go_wp2_with (refine wpList_load_row rfl 37 _ rfl w.heap.size rfl 37 (rowOf 85 (nF N)) (0, 0) _ r0.out Try.underlying37 rfl (infoNodRef' _) ?_)
    generalize w.alloc (.cells (rowOf 85 (nF N)) 37) = w0 at *
    refine M.out.mono ?_
    rintro e w1 ⟨rfl, b1⟩
    replace r0 := Lib.hid (r0.out.below b1 r0.out.lt)
    replace b0 := Lib.hid (b0.out.trans (b1.mono b0.out.size))
    have n0 : w1.cell? ⟨w.heap.size, 0, none⟩ = some (.bool N.l) := r0.out.cell 0 (by decide)
    have F := Lib.hid (refFlag_any N.l w1)
    clear M b1
    go_wp2_with fail
    refine F.out.mono ?_
    rintro e w2 ⟨rfl, rfl⟩
    clear F n0
    go_wp2
    go_loopw [4, 5] (fun u v wr => ∃ i : Nat, i ≤ 4 ∧ v = .int .i64 (i : Int) ∧ u = .string (bs (encU N i)) ∧ Hid (RowAt wr w.heap.size 37 (rowOf 85 (nF N))) ∧ Hid (Below w.heap.size w wr)) (fun _ v _ => 4 - (intOf v).toNat)
    case atStart => exact ⟨0, by decide, rfl, rfl, r0, b0⟩
    case round =>
      clear r0 b0
      obtain ⟨i, hi, rfl, rfl, rr, bb⟩ := hrel
      by_cases hi4 : i < 4
      · have l0 : (i : Int) < 4 := by omega
        have rc := Lib.hid (RowAt.new wr 34 (rowOf 21 (chF (N.c i))))
        have bc := Lib.hid ((Below.refl _ wr).alloc (Nat.le_refl _) (.cells (rowOf 21 (chF (N.c i))) 34))
        go_wp2_with (first | (refine wpList_load_at rfl 34 _ rfl w.heap.size (1 + i * 21) rfl 37 _ _ 21 (chF (N.c i)) rr.out (fun j hj => by rw [rowOf_get _ _ _ (by omega), nF_at _ _ _ hj]) Try.underlying34 rfl infoChdRef ?_) | (refine wpList_store_row rfl 34 _ _ rfl wr.heap.size (rowOf 21 (chF (N.c i))) rfl rfl 34 _ (RowAt.new _ _ _) (infoChdRef' _) (by rw [rowOf_size]; rfl) (rowOf_oneC (chF_one _)) ?_; rw [World.setRow_alloc_new]; refine Hid.out ?_))
        unfold Hid
        have rn := Lib.hid (rr.out.below bc.out rr.out.lt)
        have bn := Lib.hid (bb.out.trans (bc.out.mono bb.out.size))
        have x0 : (wr.alloc (.cells (rowOf 21 (chF (N.c i))) 34)).cell? ⟨wr.heap.size, 0, none⟩ = some (.bool (N.c i).h) := rc.out.cell 0 (by decide)
        clear rr bb bc
        have FL := Lib.hid (refFlag_any (N.c i).h (wr.alloc (.cells (rowOf 21 (chF (N.c i))) 34)))
        generalize wr.alloc (.cells (rowOf 21 (chF (N.c i))) 34) = w2 at *
        generalize wr.heap.size = g at *
        have zX : (bs (encU N i)).size ≤ 200 := by rw [bs_size]; have := encU_le N i; omega
        have zF : (bs (flagB (N.c i).h)).size = 1 := by rw [bs_size, flagB_length]
        go_wp2_with fail
        refine FL.out.mono ?_
        rintro e w2 ⟨rfl, rfl⟩
        clear FL
        cases hh : (N.c i).h with
        | false =>
          have eU := encU_no hh
          rw [hh] at x0 zF
          generalize bs (encU N i) = X at *
          generalize bs (flagB false) = Fb at *
          replace eU := Lib.hid eU
          go_wp2
          rw [eU.out]
          go_roundw
          case rel => exact ⟨i + 1, by omega, by go_num, rfl, rn, bn⟩
          case measure => simp [intOf]; omega
        | true =>
          obtain ⟨_, hs0, hs1, hp0, hp1⟩ := mayC_has (hmc.out i hi4) hh
          have hbi := hb i hi4
          obtain ⟨sn, hsn⟩ : ∃ sn : Nat, (N.c i).s = (sn : Int) := ⟨(N.c i).s.toNat, by omega⟩
          obtain ⟨pn, hpn⟩ : ∃ pn : Nat, (N.c i).p = (pn : Int) := ⟨(N.c i).p.toNat, by omega⟩
          obtain ⟨xn, hxn⟩ : ∃ xn : Nat, (N.c i).x = xn := ⟨_, rfl⟩
          obtain ⟨vn, hvn⟩ : ∃ vn : Nat, (N.c i).v = vn := ⟨_, rfl⟩
          have hx64 := hbi.2.1
          have hv64 := hbi.2.2
          have cs : Hid ((rowOf 21 (chF (N.c i)))[1]? = some (.int .i64 (sn : Int))) := by unfold Hid; rw [rowOf_get _ _ _ (by decide), ← hsn]; rfl
          have cp : Hid ((rowOf 21 (chF (N.c i)))[2]? = some (.int .i64 (pn : Int))) := by unfold Hid; rw [rowOf_get _ _ _ (by decide), ← hpn]; rfl
          have cx : Hid ((rowOf 21 (chF (N.c i)))[19]? = some (.int .u64 (xn : Int))) := by unfold Hid; rw [rowOf_get _ _ _ (by decide), ← hxn]; rfl
          have cv : Hid ((rowOf 21 (chF (N.c i)))[20]? = some (.int .u64 (vn : Int))) := by unfold Hid; rw [rowOf_get _ _ _ (by decide), ← hvn]; rfl
          rw [hsn] at hs0 hs1
          rw [hpn] at hp0 hp1
          rw [hxn] at hx64
          rw [hvn] at hv64
          have NX : Hid (∀ W, Calls Try.prog 27 #[.int .u64 (xn : Int), .int .i64 8] W fun e w' => e = .returned (.tuple #[.string (bs (numB 8 xn)), .int .i64 0]) ∧ Below W.heap.size W w') := fun W => refNumber_nat xn 8 (by decide) (by decide) (by omega) W
          have NV : Hid (∀ W, Calls Try.prog 27 #[.int .u64 (vn : Int), .int .i64 8] W fun e w' => e = .returned (.tuple #[.string (bs (numB 8 vn)), .int .i64 0]) ∧ Below W.heap.size W w') := fun W => refNumber_nat vn 8 (by decide) (by decide) (by omega) W
          have hY : Hid (∀ (o : Oper) (a : Act) (x : Operand), o.op = .convert 58 9 x → a.eval x = .slice (some ⟨g, 3, none⟩) 16 16 → ∀ {W : World}, RowAt W g 34 (rowOf 21 (chF (N.c i))) → (execOp a.eval o).run Try.prog W = .ok (.value (.string (bs (listB 16 (N.c i).k)))) W) := fun o a x h1 h2 W h3 => run_conv_key hbi h1 h2 h3
          have hZ : Hid (∀ (o : Oper) (a : Act) (x : Operand) (q : Nat), o.op = .convert 58 9 x → a.eval x = .slice (some ⟨q, 0, none⟩) 2 2 → ∀ {W : World}, RowAt W q 5 #[.int .u8 (sn : Int), .int .u8 (pn : Int)] → (execOp a.eval o).run Try.prog W = .ok (.value (.string (bs (numB 1 sn ++ numB 1 pn)))) W) := fun o a x q h1 h2 W h3 => run_conv_pair (by omega) (by omega) h1 h2 h3
          have z2 : (bs (numB 1 sn ++ numB 1 pn)).size = 2 := by rw [bs_size, List.length_append, numB_length, numB_length]
          have z3 : (bs (listB 16 (N.c i).k)).size = 16 := by rw [bs_size, listB_length]
          have z4 : (bs (numB 8 xn)).size = 8 := by rw [bs_size, numB_length]
          have z5 : (bs (numB 8 vn)).size = 8 := by rw [bs_size, numB_length]
          have eH : N.l = false → bs (encU N i) ++ bs (flagB true) ++ bs (numB 1 sn ++ numB 1 pn) ++ bs (listB 16 (N.c i).k) = bs (encU N (i + 1)) := fun hl => by
            have := encU_has2 hh hl
            rwa [hsn, hpn, Int.toNat_natCast, Int.toNat_natCast] at this
          have eL : N.l = true → bs (encU N i) ++ bs (flagB true) ++ bs (numB 1 sn ++ numB 1 pn) ++ bs (listB 16 (N.c i).k) ++ bs (numB 8 xn) ++ bs (numB 8 vn) = bs (encU N (i + 1)) := fun hl => by
            have := encU_leaf2 hh hl
            rwa [hsn, hpn, hxn, hvn, Int.toNat_natCast, Int.toNat_natCast] at this
          rw [hh] at x0 zF
          go_wp2_with fail
          have zX1 : (bs (encU N i) ++ bs (flagB true)).size ≤ 201 := by rw [ByteArray.size_append, zF]; omega
          have WS : Hid (IntKind.u8.wrap (sn : Int) = (sn : Int)) := IntWalk.u8_in _ (by omega)
          have WP : Hid (IntKind.u8.wrap (pn : Int) = (pn : Int)) := IntWalk.u8_in _ (by omega)
          clear hsn hpn hxn hvn hbi hh
          generalize bs (encU N i) ++ bs (flagB true) = X1 at *
          generalize bs (numB 1 sn ++ numB 1 pn) = Z at *
          generalize bs (listB 16 (N.c i).k) = Y at *
          generalize bs (numB 8 xn) = A at *
          generalize bs (numB 8 vn) = B at *
          clear zX zF
          have zX0 : (X1 ++ Z).size ≤ 203 := by simp only [ByteArray.size_append]; omega
          have zX2 : (X1 ++ Z ++ Y).size ≤ 219 := by simp only [ByteArray.size_append]; omega
          have HC : Hid (RowC w2 g 34 (rowOf 21 (chF (N.c i))) w2.drew) := ⟨(Below.refl _ _).drew, rc.out⟩
          refine wp_region_steady (RowC w2 g 34 (rowOf 21 (chF (N.c i)))) [eqv (.string X1), eqv (.pointer (some ⟨g, 1, none⟩)), eqv (.int .i64 (sn : Int)), eqv (.int .u8 (sn : Int)), eqv (.pointer (some ⟨g, 2, none⟩)), eqv (.int .i64 (pn : Int)), eqv (.int .u8 (pn : Int)), heldv 5 2 #[.int .u8 (sn : Int), .int .u8 (pn : Int)], eqv (.string Z), eqv (.string (X1 ++ Z)), eqv (.pointer (some ⟨g, 3, none⟩)), eqv (.slice (some ⟨g, 3, none⟩) 16 16), eqv (.string Y), eqv (.string (X1 ++ Z ++ Y)), eqv (.string (X1 ++ Z ++ Y))] (by kernel_rfl) (by kernel_rfl) HC.out
            (.cons (steady_eqv _) (.cons (steady_eqv _) (.cons (steady_eqv _) (.cons (steady_eqv _) (.cons (steady_eqv _) (.cons (steady_eqv _) (.cons (steady_eqv _) (.cons (steady_heldv _ _ _) (.cons (steady_eqv _) (.cons (steady_eqv _) (.cons (steady_eqv _) (.cons (steady_eqv _) (.cons (steady_eqv _) (.cons (steady_eqv _) (.cons (steady_eqv _) .nil))))))))))))))) ?_
          intro R hR
          refine wpRely_cons (fun w' hC hf => ?_) (fun v0 => ?_)
          · (repeat (first | (obtain ⟨rfl, hf⟩ := hf) | (obtain ⟨⟨q, rfl, hq⟩, hf⟩ := hf) | (obtain ⟨_, hf⟩ := hf)))
            exact grows_eqv (by rfl) hC (by (go_simp; try first | omega | exact WS.out | exact WP.out))
          simp only [Act.put, List.setIfInBounds_toArray, List.set_cons_succ, List.set_cons_zero, List.nil_append]
          refine wpRely_cons (fun w' hC hf => ?_) (fun v1 => ?_)
          · (repeat (first | (obtain ⟨rfl, hf⟩ := hf) | (obtain ⟨⟨q, rfl, hq⟩, hf⟩ := hf) | (obtain ⟨_, hf⟩ := hf)))
            exact grows_eqv (by rfl) hC (by (go_simp; try first | omega | exact WS.out | exact WP.out))
          simp only [Act.put, List.setIfInBounds_toArray, List.set_cons_succ, List.set_cons_zero, List.nil_append, List.cons_append]
          refine wpRely_cons (fun w' hC hf => ?_) (fun v2 => ?_)
          · (repeat (first | (obtain ⟨rfl, hf⟩ := hf) | (obtain ⟨⟨q, rfl, hq⟩, hf⟩ := hf) | (obtain ⟨_, hf⟩ := hf)))
            exact grows_eqv (by rfl) hC (get_cell hC.2 cs.out rfl Try.underlying3 rfl rfl)
          simp only [Act.put, List.setIfInBounds_toArray, List.set_cons_succ, List.set_cons_zero, List.nil_append, List.cons_append]
          refine wpRely_cons (fun w' hC hf => ?_) (fun v3 => ?_)
          · (repeat (first | (obtain ⟨rfl, hf⟩ := hf) | (obtain ⟨⟨q, rfl, hq⟩, hf⟩ := hf) | (obtain ⟨_, hf⟩ := hf)))
            exact grows_eqv (by rfl) hC (by (go_simp; try first | omega | exact WS.out | exact WP.out))
          simp only [Act.put, List.setIfInBounds_toArray, List.set_cons_succ, List.set_cons_zero, List.nil_append, List.cons_append]
          refine wpRely_cons (fun w' hC hf => ?_) (fun v4 => ?_)
          · (repeat (first | (obtain ⟨rfl, hf⟩ := hf) | (obtain ⟨⟨q, rfl, hq⟩, hf⟩ := hf) | (obtain ⟨_, hf⟩ := hf)))
            exact grows_eqv (by rfl) hC (by (go_simp; try first | omega | exact WS.out | exact WP.out))
          simp only [Act.put, List.setIfInBounds_toArray, List.set_cons_succ, List.set_cons_zero, List.nil_append, List.cons_append]
          refine wpRely_cons (fun w' hC hf => ?_) (fun v5 => ?_)
          · (repeat (first | (obtain ⟨rfl, hf⟩ := hf) | (obtain ⟨⟨q, rfl, hq⟩, hf⟩ := hf) | (obtain ⟨_, hf⟩ := hf)))
            exact grows_eqv (by rfl) hC (get_cell hC.2 cp.out rfl Try.underlying3 rfl rfl)
          simp only [Act.put, List.setIfInBounds_toArray, List.set_cons_succ, List.set_cons_zero, List.nil_append, List.cons_append]
          refine wpRely_cons (fun w' hC hf => ?_) (fun v6 => ?_)
          · (repeat (first | (obtain ⟨rfl, hf⟩ := hf) | (obtain ⟨⟨q, rfl, hq⟩, hf⟩ := hf) | (obtain ⟨_, hf⟩ := hf)))
            exact grows_eqv (by rfl) hC (by (go_simp; try first | omega | exact WS.out | exact WP.out))
          simp only [Act.put, List.setIfInBounds_toArray, List.set_cons_succ, List.set_cons_zero, List.nil_append, List.cons_append]
          refine wpRely_cons (fun w' hC hf => ?_) (fun v7 => ?_)
          · (repeat (first | (obtain ⟨rfl, hf⟩ := hf) | (obtain ⟨⟨q, rfl, hq⟩, hf⟩ := hf) | (obtain ⟨_, hf⟩ := hf)))
            exact grows_held hR (fun _ _ hb h => RowC.after hb h) hC (by rfl) (by go_simp)
          simp only [Act.put, List.setIfInBounds_toArray, List.set_cons_succ, List.set_cons_zero, List.nil_append, List.cons_append]
          refine wpRely_cons (fun w' hC hf => ?_) (fun v8 => ?_)
          · (repeat (first | (obtain ⟨rfl, hf⟩ := hf) | (obtain ⟨⟨q, rfl, hq⟩, hf⟩ := hf) | (obtain ⟨_, hf⟩ := hf)))
            exact grows_eqv (by rfl) hC (hZ.out _ _ _ _ rfl rfl hq)
          simp only [Act.put, List.setIfInBounds_toArray, List.set_cons_succ, List.set_cons_zero, List.nil_append, List.cons_append]
          refine wpRely_cons (fun w' hC hf => ?_) (fun v9 => ?_)
          · (repeat (first | (obtain ⟨rfl, hf⟩ := hf) | (obtain ⟨⟨q, rfl, hq⟩, hf⟩ := hf) | (obtain ⟨_, hf⟩ := hf)))
            exact grows_eqv (by rfl) hC (by (go_simp; try first | omega | exact WS.out | exact WP.out))
          simp only [Act.put, List.setIfInBounds_toArray, List.set_cons_succ, List.set_cons_zero, List.nil_append, List.cons_append]
          refine wpRely_cons (fun w' hC hf => ?_) (fun v10 => ?_)
          · (repeat (first | (obtain ⟨rfl, hf⟩ := hf) | (obtain ⟨⟨q, rfl, hq⟩, hf⟩ := hf) | (obtain ⟨_, hf⟩ := hf)))
            exact grows_eqv (by rfl) hC (by (go_simp; try first | omega | exact WS.out | exact WP.out))
          simp only [Act.put, List.setIfInBounds_toArray, List.set_cons_succ, List.set_cons_zero, List.nil_append, List.cons_append]
          refine wpRely_cons (fun w' hC hf => ?_) (fun v11 => ?_)
          · (repeat (first | (obtain ⟨rfl, hf⟩ := hf) | (obtain ⟨⟨q, rfl, hq⟩, hf⟩ := hf) | (obtain ⟨_, hf⟩ := hf)))
            exact grows_eqv (by rfl) hC (by (go_simp; try first | omega | exact WS.out | exact WP.out))
          simp only [Act.put, List.setIfInBounds_toArray, List.set_cons_succ, List.set_cons_zero, List.nil_append, List.cons_append]
          refine wpRely_cons (fun w' hC hf => ?_) (fun v12 => ?_)
          · (repeat (first | (obtain ⟨rfl, hf⟩ := hf) | (obtain ⟨⟨q, rfl, hq⟩, hf⟩ := hf) | (obtain ⟨_, hf⟩ := hf)))
            exact grows_eqv (by rfl) hC (hY.out _ _ _ rfl rfl hC.2)
          simp only [Act.put, List.setIfInBounds_toArray, List.set_cons_succ, List.set_cons_zero, List.nil_append, List.cons_append]
          refine wpRely_cons (fun w' hC hf => ?_) (fun v13 => ?_)
          · (repeat (first | (obtain ⟨rfl, hf⟩ := hf) | (obtain ⟨⟨q, rfl, hq⟩, hf⟩ := hf) | (obtain ⟨_, hf⟩ := hf)))
            exact grows_eqv (by rfl) hC (by (go_simp; try first | omega | exact WS.out | exact WP.out))
          simp only [Act.put, List.setIfInBounds_toArray, List.set_cons_succ, List.set_cons_zero, List.nil_append, List.cons_append]
          refine wpRely_cons (fun w' hC hf => ?_) (fun v14 => ?_)
          · (repeat (first | (obtain ⟨rfl, hf⟩ := hf) | (obtain ⟨⟨q, rfl, hq⟩, hf⟩ := hf) | (obtain ⟨_, hf⟩ := hf)))
            exact grows_eqv (by rfl) hC (by (go_simp; try first | omega | exact WS.out | exact WP.out))
          simp only [Act.put, List.setIfInBounds_toArray, List.set_cons_succ, List.set_cons_zero, List.nil_append, List.cons_append]
          refine wpRely_nil fun w9 hC hf => ?_
          (repeat (first | (obtain ⟨rfl, hf⟩ := hf) | (obtain ⟨⟨q, rfl, hq⟩, hf⟩ := hf) | (obtain ⟨_, hf⟩ := hf)))
          have rn3 := Lib.hid (rn.out.below hC.1 rn.out.lt)
          have bn3 := Lib.hid (bn.out.trans (hC.1.mono bn.out.size))
          have rc3 := Lib.hid hC.2
          generalize w9 = w3 at *
          have n3 : w3.cell? ⟨w.heap.size, 0, none⟩ = some (.bool N.l) := rn3.out.cell 0 (by decide)
          clear hC HC hR R rc rn bn x0
          have hl2 : N.l = false ∨ N.l = true := by cases N.l <;> simp
          rcases hl2 with hl | hl
          · have eU := Lib.hid (eH hl)
            rw [hl] at n3
            clear eH eL hl
            go_wp2
            rw [eU.out]
            go_roundw
            case rel => exact ⟨i + 1, by omega, by go_num, rfl, rn3, bn3⟩
            case measure => simp [intOf]; omega
          · have eU := Lib.hid (eL hl)
            rw [hl] at n3
            clear eH eL hl
            generalize X1 ++ Z ++ Y = X2 at *
            have c4 : w3.cell? ⟨g, 19, none⟩ = some (.int .u64 (xn : Int)) := rc3.out.one 19 cx.out
            have KX := Lib.hid (NX.out w3)
            skip
            go_wp2_with fail
            refine KX.out.mono ?_
            rintro e w4 ⟨rfl, b4⟩
            have rn4 := Lib.hid (rn3.out.below b4 rn3.out.lt)
            have bn4 := Lib.hid (bn3.out.trans (b4.mono bn3.out.size))
            have rc4 := Lib.hid (rc3.out.below b4 rc3.out.lt)
            have c5 : w4.cell? ⟨g, 20, none⟩ = some (.int .u64 (vn : Int)) := rc4.out.one 20 cv.out
            have KV := Lib.hid (NV.out w4)
            clear b4 rn3 bn3 rc3 c4 KX n3
            go_wp2_with fail
            refine KV.out.mono ?_
            rintro e w5 ⟨rfl, b5⟩
            have rn5 := Lib.hid (rn4.out.below b5 rn4.out.lt)
            have bn5 := Lib.hid (bn4.out.trans (b5.mono bn4.out.size))
            have zA : (X2 ++ A).size ≤ 227 := by simp only [ByteArray.size_append]; omega
            clear b5 rn4 bn4 rc4 c5 KV
            go_wp2
            rw [eU.out]
            go_roundw
            case rel => exact ⟨i + 1, by omega, by go_num, rfl, rn5, bn5⟩
            case measure => simp [intOf]; omega
      · have ei : i = 4 := by omega
        subst ei
        have l0 : ¬ ((4 : Nat) : Int) < 4 := by omega
        go_wp2
        go_ret2
        exact ⟨by rw [e1.out.1, e1.out.2]; rfl, bb.out⟩

end Go.Proofs.Ytapebaoajknepaa
