/-
  Contracts: the document's May, Empty.
-/
import Derived.Test.YtapebaoajknepaaNodeMay
import Derived.Test.YtapebaoajknepaaAdvStep
namespace Go.Proofs.Ytapebaoajknepaa
open Go.RowKit
set_option linter.unusedVariables false

set_option maxHeartbeats 4000000 in
set_option maxRecDepth 8000 in
theorem refMay_node (N : Nod) (w : World) :
    Calls Try.prog 14 #[.agg (rowOf 85 (nF N))] w fun e w' => e = .returned (.bool (mayN N)) ∧ Below w.heap.size w w' := by
  have b0 := Lib.hid ((Below.refl _ w).alloc (Nat.le_refl _) (.cells (rowOf 85 (nF N)) 37))
  have r0 := Lib.hid (RowAt.new w 37 (rowOf 85 (nF N)))
  go_enter Try.func14, Try.ntmps14
  go_wp2_with fail
  generalize w.alloc (.cells (rowOf 85 (nF N)) 37) = w0 at *
  go_loopw [3] (fun v wr => ∃ i : Nat, i ≤ 4 ∧ v = .int .i64 (i : Int) ∧ Hid (∀ j, j < i → mayC (N.c j) N.l = true) ∧ Hid (RowAt wr w.heap.size 37 (rowOf 85 (nF N))) ∧ Hid (Below w.heap.size w wr)) (fun v _ => 4 - (intOf v).toNat)
  case atStart => exact ⟨0, by decide, rfl, fun j hj => by omega, r0, b0⟩
  case round =>
    clear r0 b0
    obtain ⟨i, hi, rfl, ok, rr, bb⟩ := hrel
    by_cases hi4 : i < 4
    · have l0 : (i : Int) < 4 := by omega
      have rc := Lib.hid (RowAt.new wr 34 (rowOf 21 (chF (N.c i))))
      have bc := Lib.hid ((Below.refl _ wr).alloc (Nat.le_refl _) (.cells (rowOf 21 (chF (N.c i))) 34))
      go_wp2_with (first | (refine wpList_load_at rfl 34 _ rfl w.heap.size (1 + i * 21) rfl 37 _ _ 21 (chF (N.c i)) rr.out (fun j hj => by rw [rowOf_get _ _ _ (by omega), nF_at _ _ _ hj]) Try.underlying34 rfl infoChdRef ?_) | (refine wpList_store_row rfl 34 _ _ rfl wr.heap.size (rowOf 21 (chF (N.c i))) rfl rfl 34 _ (RowAt.new _ _ _) (infoChdRef' _) (by rw [rowOf_size]; rfl) (rowOf_oneC (chF_one _)) ?_; rw [World.setRow_alloc_new]; refine Hid.out ?_))
      unfold Hid
      have rn := Lib.hid (rr.out.below bc.out rr.out.lt)
      have bn := Lib.hid (bb.out.trans (bc.out.mono bb.out.size))
      have n1 : (wr.alloc (.cells (rowOf 21 (chF (N.c i))) 34)).cell? ⟨w.heap.size, 0, none⟩ = some (.bool N.l) := rn.out.cell 0 (by decide)
      have x0 : (wr.alloc (.cells (rowOf 21 (chF (N.c i))) 34)).cell? ⟨wr.heap.size, 0, none⟩ = some (.bool (N.c i).h) := rc.out.cell 0 (by decide)
      have x1 : (wr.alloc (.cells (rowOf 21 (chF (N.c i))) 34)).cell? ⟨wr.heap.size, 1, none⟩ = some (.int .i64 (N.c i).s) := rc.out.cell 1 (by decide)
      have x2 : (wr.alloc (.cells (rowOf 21 (chF (N.c i))) 34)).cell? ⟨wr.heap.size, 2, none⟩ = some (.int .i64 (N.c i).p) := rc.out.cell 2 (by decide)
      have x4 : (wr.alloc (.cells (rowOf 21 (chF (N.c i))) 34)).cell? ⟨wr.heap.size, 19, none⟩ = some (.int .u64 ((N.c i).x : Nat)) := rc.out.cell 19 (by decide)
      have x5 : (wr.alloc (.cells (rowOf 21 (chF (N.c i))) 34)).cell? ⟨wr.heap.size, 20, none⟩ = some (.int .u64 ((N.c i).v : Nat)) := rc.out.cell 20 (by decide)
      clear rr bb bc
      generalize wr.alloc (.cells (rowOf 21 (chF (N.c i))) 34) = w1 at *
      repeat (first | (with_reducible refine wp_stop (id := 5) ?_) | go_values | go_skip | go_guarded | go_step | go_upon | go_back)
      unfold Hid
      refine wp_region_lit ?_
      cases hh : (N.c i).h with
      | false =>
        rw [hh] at x0
        cases hs : sameC (N.c i) noChd with
        | false =>
          have em : Hid (mayN N = false) := mayN_no hi4 (by unfold mayC; rw [if_pos hh]; exact hs)
          have SM : (!sameC (N.c i) noChd) = true := by rw [hs]; rfl
          clear hs hh
          refine wpList_val (.pointer (some ⟨wr.heap.size, 0, none⟩)) (by kernel_rfl) (by go_simp) ?_
          simp only [Act.put, List.setIfInBounds_toArray, List.set_cons_succ, List.set_cons_zero]
          refine wpList_val (.bool false) (by kernel_rfl) (by go_simp) ?_
          simp only [Act.put, List.setIfInBounds_toArray, List.set_cons_succ, List.set_cons_zero]
          refine wpList_val (.bool true) (by kernel_rfl) (by go_simp) ?_
          simp only [Act.put, List.setIfInBounds_toArray, List.set_cons_succ, List.set_cons_zero]
          refine wpList_val (.bool true) (by kernel_rfl) (by go_simp) ?_
          simp only [Act.put, List.setIfInBounds_toArray, List.set_cons_succ, List.set_cons_zero]
          refine wpList_wload_row (by kernel_rfl) 34 _ rfl wr.heap.size rfl 34 (rowOf 21 (chF (N.c i))) _ rc.out Try.underlying34 rfl (infoChdRef' _) ?_
          simp only [Act.put, List.setIfInBounds_toArray, List.set_cons_succ, List.set_cons_zero]
          refine wpList_unguard (by kernel_rfl) ?_
          refine wpList_buildTo rfl 34 _ rfl _ rfl (rowOf 21 (chF noChd)) (by kernel_rfl) ?_
          simp only [Act.put, List.setIfInBounds_toArray, List.set_cons_succ, List.set_cons_zero]
          refine wpList_wknown (by kernel_rfl) (run_neq_chdRef SM rfl rfl rfl _) ?_
          simp only [Act.put, List.setIfInBounds_toArray, List.set_cons_succ, List.set_cons_zero]
          refine wpList_val (.bool true) (by kernel_rfl) (by go_simp) ?_
          simp only [Act.put, List.setIfInBounds_toArray, List.set_cons_succ, List.set_cons_zero]
          go_wp2
          go_ret
          exact ⟨by rw [em.out]; rfl, bn.out⟩
        | true =>
          obtain ⟨_, e1, e2, _, e4, e5⟩ := (sameC_iff _ _).1 hs
          rw [e1] at x1
          rw [e2] at x2
          rw [e4] at x4
          rw [e5] at x5
          have SM : (!sameC (N.c i) noChd) = false := by rw [hs]; rfl
          have ok2 : Hid (∀ j, j < i + 1 → mayC (N.c j) N.l = true) := fun j hj => by
            by_cases e : j = i
            · rw [e]; unfold mayC; rw [if_pos hh]; exact hs
            · exact ok.out j (by omega)
          clear hs hh ok e1 e2 e4 e5
          replace x1 : w1.cell? ⟨wr.heap.size, 1, none⟩ = some (.int .i64 0) := x1
          replace x2 : w1.cell? ⟨wr.heap.size, 2, none⟩ = some (.int .i64 0) := x2
          replace x4 : w1.cell? ⟨wr.heap.size, 19, none⟩ = some (.int .u64 0) := x4
          replace x5 : w1.cell? ⟨wr.heap.size, 20, none⟩ = some (.int .u64 0) := x5
          refine wpList_val (.pointer (some ⟨wr.heap.size, 0, none⟩)) (by kernel_rfl) (by go_simp) ?_
          simp only [Act.put, List.setIfInBounds_toArray, List.set_cons_succ, List.set_cons_zero]
          refine wpList_val (.bool false) (by kernel_rfl) (by go_simp) ?_
          simp only [Act.put, List.setIfInBounds_toArray, List.set_cons_succ, List.set_cons_zero]
          refine wpList_val (.bool true) (by kernel_rfl) (by go_simp) ?_
          simp only [Act.put, List.setIfInBounds_toArray, List.set_cons_succ, List.set_cons_zero]
          refine wpList_val (.bool true) (by kernel_rfl) (by go_simp) ?_
          simp only [Act.put, List.setIfInBounds_toArray, List.set_cons_succ, List.set_cons_zero]
          refine wpList_wload_row (by kernel_rfl) 34 _ rfl wr.heap.size rfl 34 (rowOf 21 (chF (N.c i))) _ rc.out Try.underlying34 rfl (infoChdRef' _) ?_
          simp only [Act.put, List.setIfInBounds_toArray, List.set_cons_succ, List.set_cons_zero]
          refine wpList_unguard (by kernel_rfl) ?_
          refine wpList_buildTo rfl 34 _ rfl _ rfl (rowOf 21 (chF noChd)) (by kernel_rfl) ?_
          simp only [Act.put, List.setIfInBounds_toArray, List.set_cons_succ, List.set_cons_zero]
          refine wpList_wknown (by kernel_rfl) (run_neq_chdRef SM rfl rfl rfl _) ?_
          simp only [Act.put, List.setIfInBounds_toArray, List.set_cons_succ, List.set_cons_zero]
          refine wpList_val (.bool false) (by kernel_rfl) (by go_simp) ?_
          simp only [Act.put, List.setIfInBounds_toArray, List.set_cons_succ, List.set_cons_zero]
          repeat (first | (with_reducible refine wp_stop (id := 7) ?_) | go_values | go_skip | go_guarded | go_step | go_upon | go_back)
          unfold Hid
          refine wp_region_lit ?_
          cases hl : N.l with
          | true =>
            rw [hl] at n1 ok2
            refine wpList_val (.pointer (some ⟨wr.heap.size, 1, none⟩)) (by kernel_rfl) (by go_simp) ?_
            simp only [Act.put, List.setIfInBounds_toArray, List.set_cons_succ, List.set_cons_zero]
            refine wpList_val (.int .i64 0) (by kernel_rfl) (by go_simp) ?_
            simp only [Act.put, List.setIfInBounds_toArray, List.set_cons_succ, List.set_cons_zero]
            refine wpList_val (.bool false) (by kernel_rfl) (by go_simp) ?_
            simp only [Act.put, List.setIfInBounds_toArray, List.set_cons_succ, List.set_cons_zero]
            refine wpList_val (.bool false) (by kernel_rfl) (by go_simp) ?_
            simp only [Act.put, List.setIfInBounds_toArray, List.set_cons_succ, List.set_cons_zero]
            refine wpList_val (.pointer (some ⟨wr.heap.size, 1, none⟩)) (by kernel_rfl) (by go_simp) ?_
            simp only [Act.put, List.setIfInBounds_toArray, List.set_cons_succ, List.set_cons_zero]
            refine wpList_val (.int .i64 0) (by kernel_rfl) (by go_simp) ?_
            simp only [Act.put, List.setIfInBounds_toArray, List.set_cons_succ, List.set_cons_zero]
            refine wpList_val (.bool false) (by kernel_rfl) (by go_simp) ?_
            simp only [Act.put, List.setIfInBounds_toArray, List.set_cons_succ, List.set_cons_zero]
            refine wpList_val (.bool false) (by kernel_rfl) (by go_simp) ?_
            simp only [Act.put, List.setIfInBounds_toArray, List.set_cons_succ, List.set_cons_zero]
            refine wpList_val (.bool false) (by kernel_rfl) (by go_simp) ?_
            simp only [Act.put, List.setIfInBounds_toArray, List.set_cons_succ, List.set_cons_zero]
            refine wpList_val (.pointer (some ⟨wr.heap.size, 2, none⟩)) (by kernel_rfl) (by go_simp) ?_
            simp only [Act.put, List.setIfInBounds_toArray, List.set_cons_succ, List.set_cons_zero]
            refine wpList_val (.int .i64 0) (by kernel_rfl) (by go_simp) ?_
            simp only [Act.put, List.setIfInBounds_toArray, List.set_cons_succ, List.set_cons_zero]
            refine wpList_val (.bool false) (by kernel_rfl) (by go_simp) ?_
            simp only [Act.put, List.setIfInBounds_toArray, List.set_cons_succ, List.set_cons_zero]
            refine wpList_val (.bool false) (by kernel_rfl) (by go_simp) ?_
            simp only [Act.put, List.setIfInBounds_toArray, List.set_cons_succ, List.set_cons_zero]
            refine wpList_val (.bool false) (by kernel_rfl) (by go_simp) ?_
            simp only [Act.put, List.setIfInBounds_toArray, List.set_cons_succ, List.set_cons_zero]
            refine wpList_val (.pointer (some ⟨wr.heap.size, 2, none⟩)) (by kernel_rfl) (by go_simp) ?_
            simp only [Act.put, List.setIfInBounds_toArray, List.set_cons_succ, List.set_cons_zero]
            refine wpList_val (.int .i64 0) (by kernel_rfl) (by go_simp) ?_
            simp only [Act.put, List.setIfInBounds_toArray, List.set_cons_succ, List.set_cons_zero]
            refine wpList_val (.bool false) (by kernel_rfl) (by go_simp) ?_
            simp only [Act.put, List.setIfInBounds_toArray, List.set_cons_succ, List.set_cons_zero]
            refine wpList_val (.bool false) (by kernel_rfl) (by go_simp) ?_
            simp only [Act.put, List.setIfInBounds_toArray, List.set_cons_succ, List.set_cons_zero]
            refine wpList_val (.bool false) (by kernel_rfl) (by go_simp) ?_
            simp only [Act.put, List.setIfInBounds_toArray, List.set_cons_succ, List.set_cons_zero]
            refine wpList_val (.pointer (some ⟨w.heap.size, 0, none⟩)) (by kernel_rfl) (by go_simp) ?_
            simp only [Act.put, List.setIfInBounds_toArray, List.set_cons_succ, List.set_cons_zero]
            refine wpList_val (.bool true) (by kernel_rfl) (by go_simp) ?_
            simp only [Act.put, List.setIfInBounds_toArray, List.set_cons_succ, List.set_cons_zero]
            refine wpList_val (.bool false) (by kernel_rfl) (by go_simp) ?_
            simp only [Act.put, List.setIfInBounds_toArray, List.set_cons_succ, List.set_cons_zero]
            refine wpList_val (.bool false) (by kernel_rfl) (by go_simp) ?_
            simp only [Act.put, List.setIfInBounds_toArray, List.set_cons_succ, List.set_cons_zero]
            with_reducible refine wpList_skip (by kernel_rfl) ?_
            simp only [Act.put, List.setIfInBounds_toArray, List.set_cons_succ, List.set_cons_zero]
            with_reducible refine wpList_skip (by kernel_rfl) ?_
            simp only [Act.put, List.setIfInBounds_toArray, List.set_cons_succ, List.set_cons_zero]
            with_reducible refine wpList_skip (by kernel_rfl) ?_
            simp only [Act.put, List.setIfInBounds_toArray, List.set_cons_succ, List.set_cons_zero]
            with_reducible refine wpList_skip (by kernel_rfl) ?_
            simp only [Act.put, List.setIfInBounds_toArray, List.set_cons_succ, List.set_cons_zero]
            with_reducible refine wpList_skip (by kernel_rfl) ?_
            simp only [Act.put, List.setIfInBounds_toArray, List.set_cons_succ, List.set_cons_zero]
            with_reducible refine wpList_skip (by kernel_rfl) ?_
            simp only [Act.put, List.setIfInBounds_toArray, List.set_cons_succ, List.set_cons_zero]
            with_reducible refine wpList_skip (by kernel_rfl) ?_
            simp only [Act.put, List.setIfInBounds_toArray, List.set_cons_succ, List.set_cons_zero]
            with_reducible refine wpList_skip (by kernel_rfl) ?_
            simp only [Act.put, List.setIfInBounds_toArray, List.set_cons_succ, List.set_cons_zero]
            refine wpList_val (.bool false) (by kernel_rfl) (by go_simp) ?_
            simp only [Act.put, List.setIfInBounds_toArray, List.set_cons_succ, List.set_cons_zero]
            refine wpList_val (.bool false) (by kernel_rfl) (by go_simp) ?_
            simp only [Act.put, List.setIfInBounds_toArray, List.set_cons_succ, List.set_cons_zero]
            go_wp2
            go_roundw
            case rel => exact ⟨i + 1, by omega, by go_num, by rw [hl]; exact ok2, rn, bn⟩
            case measure => simp [intOf]; omega
          | false =>
            rw [hl] at n1 ok2
            refine wpList_val (.pointer (some ⟨wr.heap.size, 1, none⟩)) (by kernel_rfl) (by go_simp) ?_
            simp only [Act.put, List.setIfInBounds_toArray, List.set_cons_succ, List.set_cons_zero]
            refine wpList_val (.int .i64 0) (by kernel_rfl) (by go_simp) ?_
            simp only [Act.put, List.setIfInBounds_toArray, List.set_cons_succ, List.set_cons_zero]
            refine wpList_val (.bool false) (by kernel_rfl) (by go_simp) ?_
            simp only [Act.put, List.setIfInBounds_toArray, List.set_cons_succ, List.set_cons_zero]
            refine wpList_val (.bool false) (by kernel_rfl) (by go_simp) ?_
            simp only [Act.put, List.setIfInBounds_toArray, List.set_cons_succ, List.set_cons_zero]
            refine wpList_val (.pointer (some ⟨wr.heap.size, 1, none⟩)) (by kernel_rfl) (by go_simp) ?_
            simp only [Act.put, List.setIfInBounds_toArray, List.set_cons_succ, List.set_cons_zero]
            refine wpList_val (.int .i64 0) (by kernel_rfl) (by go_simp) ?_
            simp only [Act.put, List.setIfInBounds_toArray, List.set_cons_succ, List.set_cons_zero]
            refine wpList_val (.bool false) (by kernel_rfl) (by go_simp) ?_
            simp only [Act.put, List.setIfInBounds_toArray, List.set_cons_succ, List.set_cons_zero]
            refine wpList_val (.bool false) (by kernel_rfl) (by go_simp) ?_
            simp only [Act.put, List.setIfInBounds_toArray, List.set_cons_succ, List.set_cons_zero]
            refine wpList_val (.bool false) (by kernel_rfl) (by go_simp) ?_
            simp only [Act.put, List.setIfInBounds_toArray, List.set_cons_succ, List.set_cons_zero]
            refine wpList_val (.pointer (some ⟨wr.heap.size, 2, none⟩)) (by kernel_rfl) (by go_simp) ?_
            simp only [Act.put, List.setIfInBounds_toArray, List.set_cons_succ, List.set_cons_zero]
            refine wpList_val (.int .i64 0) (by kernel_rfl) (by go_simp) ?_
            simp only [Act.put, List.setIfInBounds_toArray, List.set_cons_succ, List.set_cons_zero]
            refine wpList_val (.bool false) (by kernel_rfl) (by go_simp) ?_
            simp only [Act.put, List.setIfInBounds_toArray, List.set_cons_succ, List.set_cons_zero]
            refine wpList_val (.bool false) (by kernel_rfl) (by go_simp) ?_
            simp only [Act.put, List.setIfInBounds_toArray, List.set_cons_succ, List.set_cons_zero]
            refine wpList_val (.bool false) (by kernel_rfl) (by go_simp) ?_
            simp only [Act.put, List.setIfInBounds_toArray, List.set_cons_succ, List.set_cons_zero]
            refine wpList_val (.pointer (some ⟨wr.heap.size, 2, none⟩)) (by kernel_rfl) (by go_simp) ?_
            simp only [Act.put, List.setIfInBounds_toArray, List.set_cons_succ, List.set_cons_zero]
            refine wpList_val (.int .i64 0) (by kernel_rfl) (by go_simp) ?_
            simp only [Act.put, List.setIfInBounds_toArray, List.set_cons_succ, List.set_cons_zero]
            refine wpList_val (.bool false) (by kernel_rfl) (by go_simp) ?_
            simp only [Act.put, List.setIfInBounds_toArray, List.set_cons_succ, List.set_cons_zero]
            refine wpList_val (.bool false) (by kernel_rfl) (by go_simp) ?_
            simp only [Act.put, List.setIfInBounds_toArray, List.set_cons_succ, List.set_cons_zero]
            refine wpList_val (.bool false) (by kernel_rfl) (by go_simp) ?_
            simp only [Act.put, List.setIfInBounds_toArray, List.set_cons_succ, List.set_cons_zero]
            refine wpList_val (.pointer (some ⟨w.heap.size, 0, none⟩)) (by kernel_rfl) (by go_simp) ?_
            simp only [Act.put, List.setIfInBounds_toArray, List.set_cons_succ, List.set_cons_zero]
            refine wpList_val (.bool false) (by kernel_rfl) (by go_simp) ?_
            simp only [Act.put, List.setIfInBounds_toArray, List.set_cons_succ, List.set_cons_zero]
            refine wpList_val (.bool true) (by kernel_rfl) (by go_simp) ?_
            simp only [Act.put, List.setIfInBounds_toArray, List.set_cons_succ, List.set_cons_zero]
            refine wpList_val (.bool true) (by kernel_rfl) (by go_simp) ?_
            simp only [Act.put, List.setIfInBounds_toArray, List.set_cons_succ, List.set_cons_zero]
            refine wpList_val (.pointer (some ⟨wr.heap.size, 19, none⟩)) (by kernel_rfl) (by go_simp) ?_
            simp only [Act.put, List.setIfInBounds_toArray, List.set_cons_succ, List.set_cons_zero]
            refine wpList_val (.int .u64 0) (by kernel_rfl) (by go_simp) ?_
            simp only [Act.put, List.setIfInBounds_toArray, List.set_cons_succ, List.set_cons_zero]
            refine wpList_val (.bool false) (by kernel_rfl) (by go_simp) ?_
            simp only [Act.put, List.setIfInBounds_toArray, List.set_cons_succ, List.set_cons_zero]
            refine wpList_val (.bool false) (by kernel_rfl) (by go_simp) ?_
            simp only [Act.put, List.setIfInBounds_toArray, List.set_cons_succ, List.set_cons_zero]
            refine wpList_val (.pointer (some ⟨wr.heap.size, 20, none⟩)) (by kernel_rfl) (by go_simp) ?_
            simp only [Act.put, List.setIfInBounds_toArray, List.set_cons_succ, List.set_cons_zero]
            refine wpList_val (.int .u64 0) (by kernel_rfl) (by go_simp) ?_
            simp only [Act.put, List.setIfInBounds_toArray, List.set_cons_succ, List.set_cons_zero]
            refine wpList_val (.bool false) (by kernel_rfl) (by go_simp) ?_
            simp only [Act.put, List.setIfInBounds_toArray, List.set_cons_succ, List.set_cons_zero]
            refine wpList_val (.bool false) (by kernel_rfl) (by go_simp) ?_
            simp only [Act.put, List.setIfInBounds_toArray, List.set_cons_succ, List.set_cons_zero]
            refine wpList_val (.bool false) (by kernel_rfl) (by go_simp) ?_
            simp only [Act.put, List.setIfInBounds_toArray, List.set_cons_succ, List.set_cons_zero]
            refine wpList_val (.bool false) (by kernel_rfl) (by go_simp) ?_
            simp only [Act.put, List.setIfInBounds_toArray, List.set_cons_succ, List.set_cons_zero]
            go_wp2
            go_roundw
            case rel => exact ⟨i + 1, by omega, by go_num, by rw [hl]; exact ok2, rn, bn⟩
            case measure => simp [intOf]; omega
      | true =>
        rw [hh] at x0
        have mc : Hid (mayC (N.c i) N.l = ((N.l || (decide ((N.c i).x = 0) && decide ((N.c i).v = 0))) && ((decide (0 ≤ (N.c i).s) && decide ((N.c i).s < 64)) && (decide (0 ≤ (N.c i).p) && decide ((N.c i).p < 16))))) := if_neg (by rw [hh]; decide)
        clear hh
        refine wpList_val (.pointer (some ⟨wr.heap.size, 0, none⟩)) (by kernel_rfl) (by go_simp) ?_
        simp only [Act.put, List.setIfInBounds_toArray, List.set_cons_succ, List.set_cons_zero]
        refine wpList_val (.bool true) (by kernel_rfl) (by go_simp) ?_
        simp only [Act.put, List.setIfInBounds_toArray, List.set_cons_succ, List.set_cons_zero]
        refine wpList_val (.bool false) (by kernel_rfl) (by go_simp) ?_
        simp only [Act.put, List.setIfInBounds_toArray, List.set_cons_succ, List.set_cons_zero]
        refine wpList_val (.bool false) (by kernel_rfl) (by go_simp) ?_
        simp only [Act.put, List.setIfInBounds_toArray, List.set_cons_succ, List.set_cons_zero]
        with_reducible refine wpList_skip (by kernel_rfl) ?_
        simp only [Act.put, List.setIfInBounds_toArray, List.set_cons_succ, List.set_cons_zero]
        with_reducible refine wpList_skip (by kernel_rfl) ?_
        simp only [Act.put, List.setIfInBounds_toArray, List.set_cons_succ, List.set_cons_zero]
        with_reducible refine wpList_skip (by kernel_rfl) ?_
        simp only [Act.put, List.setIfInBounds_toArray, List.set_cons_succ, List.set_cons_zero]
        refine wpList_val (.bool false) (by kernel_rfl) (by go_simp) ?_
        simp only [Act.put, List.setIfInBounds_toArray, List.set_cons_succ, List.set_cons_zero]
        repeat (first | (with_reducible refine wp_stop (id := 7) ?_) | go_values | go_skip | go_guarded | go_step | go_upon | go_back)
        unfold Hid
        refine wp_region_lit ?_
        cases d1 : decide ((N.c i).s < 0) with
        | true =>
          have d1p := of_decide_eq_true d1
          have d1' : decide (0 > (N.c i).s) = true := d1
          have em : Hid (mayN N = false) := mayN_no hi4 (by rw [mc.out, Bool.eq_false_iff]; intro h; simp only [Bool.and_eq_true, decide_eq_true_eq] at h; omega)
          refine wpList_val (.pointer (some ⟨wr.heap.size, 1, none⟩)) (by kernel_rfl) (by go_simp) ?_
          simp only [Act.put, List.setIfInBounds_toArray, List.set_cons_succ, List.set_cons_zero]
          refine wpList_val (.int .i64 (N.c i).s) (by kernel_rfl) (by go_simp) ?_
          simp only [Act.put, List.setIfInBounds_toArray, List.set_cons_succ, List.set_cons_zero]
          refine wpList_val (.bool true) (by kernel_rfl) (by go_simp) ?_
          simp only [Act.put, List.setIfInBounds_toArray, List.set_cons_succ, List.set_cons_zero]
          refine wpList_val (.bool true) (by kernel_rfl) (by go_simp) ?_
          simp only [Act.put, List.setIfInBounds_toArray, List.set_cons_succ, List.set_cons_zero]
          with_reducible refine wpList_skip (by kernel_rfl) ?_
          simp only [Act.put, List.setIfInBounds_toArray, List.set_cons_succ, List.set_cons_zero]
          with_reducible refine wpList_skip (by kernel_rfl) ?_
          simp only [Act.put, List.setIfInBounds_toArray, List.set_cons_succ, List.set_cons_zero]
          with_reducible refine wpList_skip (by kernel_rfl) ?_
          simp only [Act.put, List.setIfInBounds_toArray, List.set_cons_succ, List.set_cons_zero]
          refine wpList_val (.bool true) (by kernel_rfl) (by go_simp) ?_
          simp only [Act.put, List.setIfInBounds_toArray, List.set_cons_succ, List.set_cons_zero]
          refine wpList_val (.bool true) (by kernel_rfl) (by go_simp) ?_
          simp only [Act.put, List.setIfInBounds_toArray, List.set_cons_succ, List.set_cons_zero]
          with_reducible refine wpList_skip (by kernel_rfl) ?_
          simp only [Act.put, List.setIfInBounds_toArray, List.set_cons_succ, List.set_cons_zero]
          with_reducible refine wpList_skip (by kernel_rfl) ?_
          simp only [Act.put, List.setIfInBounds_toArray, List.set_cons_succ, List.set_cons_zero]
          with_reducible refine wpList_skip (by kernel_rfl) ?_
          simp only [Act.put, List.setIfInBounds_toArray, List.set_cons_succ, List.set_cons_zero]
          refine wpList_val (.bool true) (by kernel_rfl) (by go_simp) ?_
          simp only [Act.put, List.setIfInBounds_toArray, List.set_cons_succ, List.set_cons_zero]
          refine wpList_val (.bool true) (by kernel_rfl) (by go_simp) ?_
          simp only [Act.put, List.setIfInBounds_toArray, List.set_cons_succ, List.set_cons_zero]
          with_reducible refine wpList_skip (by kernel_rfl) ?_
          simp only [Act.put, List.setIfInBounds_toArray, List.set_cons_succ, List.set_cons_zero]
          with_reducible refine wpList_skip (by kernel_rfl) ?_
          simp only [Act.put, List.setIfInBounds_toArray, List.set_cons_succ, List.set_cons_zero]
          with_reducible refine wpList_skip (by kernel_rfl) ?_
          simp only [Act.put, List.setIfInBounds_toArray, List.set_cons_succ, List.set_cons_zero]
          refine wpList_val (.bool true) (by kernel_rfl) (by go_simp) ?_
          simp only [Act.put, List.setIfInBounds_toArray, List.set_cons_succ, List.set_cons_zero]
          refine wpList_val (.bool true) (by kernel_rfl) (by go_simp) ?_
          simp only [Act.put, List.setIfInBounds_toArray, List.set_cons_succ, List.set_cons_zero]
          with_reducible refine wpList_skip (by kernel_rfl) ?_
          simp only [Act.put, List.setIfInBounds_toArray, List.set_cons_succ, List.set_cons_zero]
          with_reducible refine wpList_skip (by kernel_rfl) ?_
          simp only [Act.put, List.setIfInBounds_toArray, List.set_cons_succ, List.set_cons_zero]
          with_reducible refine wpList_skip (by kernel_rfl) ?_
          simp only [Act.put, List.setIfInBounds_toArray, List.set_cons_succ, List.set_cons_zero]
          with_reducible refine wpList_skip (by kernel_rfl) ?_
          simp only [Act.put, List.setIfInBounds_toArray, List.set_cons_succ, List.set_cons_zero]
          with_reducible refine wpList_skip (by kernel_rfl) ?_
          simp only [Act.put, List.setIfInBounds_toArray, List.set_cons_succ, List.set_cons_zero]
          with_reducible refine wpList_skip (by kernel_rfl) ?_
          simp only [Act.put, List.setIfInBounds_toArray, List.set_cons_succ, List.set_cons_zero]
          with_reducible refine wpList_skip (by kernel_rfl) ?_
          simp only [Act.put, List.setIfInBounds_toArray, List.set_cons_succ, List.set_cons_zero]
          with_reducible refine wpList_skip (by kernel_rfl) ?_
          simp only [Act.put, List.setIfInBounds_toArray, List.set_cons_succ, List.set_cons_zero]
          with_reducible refine wpList_skip (by kernel_rfl) ?_
          simp only [Act.put, List.setIfInBounds_toArray, List.set_cons_succ, List.set_cons_zero]
          with_reducible refine wpList_skip (by kernel_rfl) ?_
          simp only [Act.put, List.setIfInBounds_toArray, List.set_cons_succ, List.set_cons_zero]
          with_reducible refine wpList_skip (by kernel_rfl) ?_
          simp only [Act.put, List.setIfInBounds_toArray, List.set_cons_succ, List.set_cons_zero]
          with_reducible refine wpList_skip (by kernel_rfl) ?_
          simp only [Act.put, List.setIfInBounds_toArray, List.set_cons_succ, List.set_cons_zero]
          with_reducible refine wpList_skip (by kernel_rfl) ?_
          simp only [Act.put, List.setIfInBounds_toArray, List.set_cons_succ, List.set_cons_zero]
          refine wpList_val (.bool true) (by kernel_rfl) (by go_simp) ?_
          simp only [Act.put, List.setIfInBounds_toArray, List.set_cons_succ, List.set_cons_zero]
          go_wp2
          go_ret
          exact ⟨by rw [em.out]; rfl, bn.out⟩
        | false =>
          have d1p := of_decide_eq_false d1
          have d1' : decide (0 > (N.c i).s) = false := d1
          cases d2 : decide ((N.c i).s > 63) with
          | true =>
            have d2p := of_decide_eq_true d2
            have d2' : decide (63 < (N.c i).s) = true := d2
            have em : Hid (mayN N = false) := mayN_no hi4 (by rw [mc.out, Bool.eq_false_iff]; intro h; simp only [Bool.and_eq_true, decide_eq_true_eq] at h; omega)
            refine wpList_val (.pointer (some ⟨wr.heap.size, 1, none⟩)) (by kernel_rfl) (by go_simp) ?_
            simp only [Act.put, List.setIfInBounds_toArray, List.set_cons_succ, List.set_cons_zero]
            refine wpList_val (.int .i64 (N.c i).s) (by kernel_rfl) (by go_simp) ?_
            simp only [Act.put, List.setIfInBounds_toArray, List.set_cons_succ, List.set_cons_zero]
            refine wpList_val (.bool false) (by kernel_rfl) (by go_simp) ?_
            simp only [Act.put, List.setIfInBounds_toArray, List.set_cons_succ, List.set_cons_zero]
            refine wpList_val (.bool false) (by kernel_rfl) (by go_simp) ?_
            simp only [Act.put, List.setIfInBounds_toArray, List.set_cons_succ, List.set_cons_zero]
            refine wpList_val (.pointer (some ⟨wr.heap.size, 1, none⟩)) (by kernel_rfl) (by go_simp) ?_
            simp only [Act.put, List.setIfInBounds_toArray, List.set_cons_succ, List.set_cons_zero]
            refine wpList_val (.int .i64 (N.c i).s) (by kernel_rfl) (by go_simp) ?_
            simp only [Act.put, List.setIfInBounds_toArray, List.set_cons_succ, List.set_cons_zero]
            refine wpList_val (.bool true) (by kernel_rfl) (by go_simp) ?_
            simp only [Act.put, List.setIfInBounds_toArray, List.set_cons_succ, List.set_cons_zero]
            refine wpList_val (.bool true) (by kernel_rfl) (by go_simp) ?_
            simp only [Act.put, List.setIfInBounds_toArray, List.set_cons_succ, List.set_cons_zero]
            refine wpList_val (.bool true) (by kernel_rfl) (by go_simp) ?_
            simp only [Act.put, List.setIfInBounds_toArray, List.set_cons_succ, List.set_cons_zero]
            with_reducible refine wpList_skip (by kernel_rfl) ?_
            simp only [Act.put, List.setIfInBounds_toArray, List.set_cons_succ, List.set_cons_zero]
            with_reducible refine wpList_skip (by kernel_rfl) ?_
            simp only [Act.put, List.setIfInBounds_toArray, List.set_cons_succ, List.set_cons_zero]
            with_reducible refine wpList_skip (by kernel_rfl) ?_
            simp only [Act.put, List.setIfInBounds_toArray, List.set_cons_succ, List.set_cons_zero]
            refine wpList_val (.bool true) (by kernel_rfl) (by go_simp) ?_
            simp only [Act.put, List.setIfInBounds_toArray, List.set_cons_succ, List.set_cons_zero]
            refine wpList_val (.bool true) (by kernel_rfl) (by go_simp) ?_
            simp only [Act.put, List.setIfInBounds_toArray, List.set_cons_succ, List.set_cons_zero]
            with_reducible refine wpList_skip (by kernel_rfl) ?_
            simp only [Act.put, List.setIfInBounds_toArray, List.set_cons_succ, List.set_cons_zero]
            with_reducible refine wpList_skip (by kernel_rfl) ?_
            simp only [Act.put, List.setIfInBounds_toArray, List.set_cons_succ, List.set_cons_zero]
            with_reducible refine wpList_skip (by kernel_rfl) ?_
            simp only [Act.put, List.setIfInBounds_toArray, List.set_cons_succ, List.set_cons_zero]
            refine wpList_val (.bool true) (by kernel_rfl) (by go_simp) ?_
            simp only [Act.put, List.setIfInBounds_toArray, List.set_cons_succ, List.set_cons_zero]
            refine wpList_val (.bool true) (by kernel_rfl) (by go_simp) ?_
            simp only [Act.put, List.setIfInBounds_toArray, List.set_cons_succ, List.set_cons_zero]
            with_reducible refine wpList_skip (by kernel_rfl) ?_
            simp only [Act.put, List.setIfInBounds_toArray, List.set_cons_succ, List.set_cons_zero]
            with_reducible refine wpList_skip (by kernel_rfl) ?_
            simp only [Act.put, List.setIfInBounds_toArray, List.set_cons_succ, List.set_cons_zero]
            with_reducible refine wpList_skip (by kernel_rfl) ?_
            simp only [Act.put, List.setIfInBounds_toArray, List.set_cons_succ, List.set_cons_zero]
            with_reducible refine wpList_skip (by kernel_rfl) ?_
            simp only [Act.put, List.setIfInBounds_toArray, List.set_cons_succ, List.set_cons_zero]
            with_reducible refine wpList_skip (by kernel_rfl) ?_
            simp only [Act.put, List.setIfInBounds_toArray, List.set_cons_succ, List.set_cons_zero]
            with_reducible refine wpList_skip (by kernel_rfl) ?_
            simp only [Act.put, List.setIfInBounds_toArray, List.set_cons_succ, List.set_cons_zero]
            with_reducible refine wpList_skip (by kernel_rfl) ?_
            simp only [Act.put, List.setIfInBounds_toArray, List.set_cons_succ, List.set_cons_zero]
            with_reducible refine wpList_skip (by kernel_rfl) ?_
            simp only [Act.put, List.setIfInBounds_toArray, List.set_cons_succ, List.set_cons_zero]
            with_reducible refine wpList_skip (by kernel_rfl) ?_
            simp only [Act.put, List.setIfInBounds_toArray, List.set_cons_succ, List.set_cons_zero]
            with_reducible refine wpList_skip (by kernel_rfl) ?_
            simp only [Act.put, List.setIfInBounds_toArray, List.set_cons_succ, List.set_cons_zero]
            with_reducible refine wpList_skip (by kernel_rfl) ?_
            simp only [Act.put, List.setIfInBounds_toArray, List.set_cons_succ, List.set_cons_zero]
            with_reducible refine wpList_skip (by kernel_rfl) ?_
            simp only [Act.put, List.setIfInBounds_toArray, List.set_cons_succ, List.set_cons_zero]
            with_reducible refine wpList_skip (by kernel_rfl) ?_
            simp only [Act.put, List.setIfInBounds_toArray, List.set_cons_succ, List.set_cons_zero]
            refine wpList_val (.bool true) (by kernel_rfl) (by go_simp) ?_
            simp only [Act.put, List.setIfInBounds_toArray, List.set_cons_succ, List.set_cons_zero]
            go_wp2
            go_ret
            exact ⟨by rw [em.out]; rfl, bn.out⟩
          | false =>
            have d2p := of_decide_eq_false d2
            have d2' : decide (63 < (N.c i).s) = false := d2
            cases d3 : decide ((N.c i).p < 0) with
            | true =>
              have d3p := of_decide_eq_true d3
              have d3' : decide (0 > (N.c i).p) = true := d3
              have em : Hid (mayN N = false) := mayN_no hi4 (by rw [mc.out, Bool.eq_false_iff]; intro h; simp only [Bool.and_eq_true, decide_eq_true_eq] at h; omega)
              refine wpList_val (.pointer (some ⟨wr.heap.size, 1, none⟩)) (by kernel_rfl) (by go_simp) ?_
              simp only [Act.put, List.setIfInBounds_toArray, List.set_cons_succ, List.set_cons_zero]
              refine wpList_val (.int .i64 (N.c i).s) (by kernel_rfl) (by go_simp) ?_
              simp only [Act.put, List.setIfInBounds_toArray, List.set_cons_succ, List.set_cons_zero]
              refine wpList_val (.bool false) (by kernel_rfl) (by go_simp) ?_
              simp only [Act.put, List.setIfInBounds_toArray, List.set_cons_succ, List.set_cons_zero]
              refine wpList_val (.bool false) (by kernel_rfl) (by go_simp) ?_
              simp only [Act.put, List.setIfInBounds_toArray, List.set_cons_succ, List.set_cons_zero]
              refine wpList_val (.pointer (some ⟨wr.heap.size, 1, none⟩)) (by kernel_rfl) (by go_simp) ?_
              simp only [Act.put, List.setIfInBounds_toArray, List.set_cons_succ, List.set_cons_zero]
              refine wpList_val (.int .i64 (N.c i).s) (by kernel_rfl) (by go_simp) ?_
              simp only [Act.put, List.setIfInBounds_toArray, List.set_cons_succ, List.set_cons_zero]
              refine wpList_val (.bool false) (by kernel_rfl) (by go_simp) ?_
              simp only [Act.put, List.setIfInBounds_toArray, List.set_cons_succ, List.set_cons_zero]
              refine wpList_val (.bool false) (by kernel_rfl) (by go_simp) ?_
              simp only [Act.put, List.setIfInBounds_toArray, List.set_cons_succ, List.set_cons_zero]
              refine wpList_val (.bool false) (by kernel_rfl) (by go_simp) ?_
              simp only [Act.put, List.setIfInBounds_toArray, List.set_cons_succ, List.set_cons_zero]
              refine wpList_val (.pointer (some ⟨wr.heap.size, 2, none⟩)) (by kernel_rfl) (by go_simp) ?_
              simp only [Act.put, List.setIfInBounds_toArray, List.set_cons_succ, List.set_cons_zero]
              refine wpList_val (.int .i64 (N.c i).p) (by kernel_rfl) (by go_simp) ?_
              simp only [Act.put, List.setIfInBounds_toArray, List.set_cons_succ, List.set_cons_zero]
              refine wpList_val (.bool true) (by kernel_rfl) (by go_simp) ?_
              simp only [Act.put, List.setIfInBounds_toArray, List.set_cons_succ, List.set_cons_zero]
              refine wpList_val (.bool true) (by kernel_rfl) (by go_simp) ?_
              simp only [Act.put, List.setIfInBounds_toArray, List.set_cons_succ, List.set_cons_zero]
              refine wpList_val (.bool true) (by kernel_rfl) (by go_simp) ?_
              simp only [Act.put, List.setIfInBounds_toArray, List.set_cons_succ, List.set_cons_zero]
              with_reducible refine wpList_skip (by kernel_rfl) ?_
              simp only [Act.put, List.setIfInBounds_toArray, List.set_cons_succ, List.set_cons_zero]
              with_reducible refine wpList_skip (by kernel_rfl) ?_
              simp only [Act.put, List.setIfInBounds_toArray, List.set_cons_succ, List.set_cons_zero]
              with_reducible refine wpList_skip (by kernel_rfl) ?_
              simp only [Act.put, List.setIfInBounds_toArray, List.set_cons_succ, List.set_cons_zero]
              refine wpList_val (.bool true) (by kernel_rfl) (by go_simp) ?_
              simp only [Act.put, List.setIfInBounds_toArray, List.set_cons_succ, List.set_cons_zero]
              refine wpList_val (.bool true) (by kernel_rfl) (by go_simp) ?_
              simp only [Act.put, List.setIfInBounds_toArray, List.set_cons_succ, List.set_cons_zero]
              with_reducible refine wpList_skip (by kernel_rfl) ?_
              simp only [Act.put, List.setIfInBounds_toArray, List.set_cons_succ, List.set_cons_zero]
              with_reducible refine wpList_skip (by kernel_rfl) ?_
              simp only [Act.put, List.setIfInBounds_toArray, List.set_cons_succ, List.set_cons_zero]
              with_reducible refine wpList_skip (by kernel_rfl) ?_
              simp only [Act.put, List.setIfInBounds_toArray, List.set_cons_succ, List.set_cons_zero]
              with_reducible refine wpList_skip (by kernel_rfl) ?_
              simp only [Act.put, List.setIfInBounds_toArray, List.set_cons_succ, List.set_cons_zero]
              with_reducible refine wpList_skip (by kernel_rfl) ?_
              simp only [Act.put, List.setIfInBounds_toArray, List.set_cons_succ, List.set_cons_zero]
              with_reducible refine wpList_skip (by kernel_rfl) ?_
              simp only [Act.put, List.setIfInBounds_toArray, List.set_cons_succ, List.set_cons_zero]
              with_reducible refine wpList_skip (by kernel_rfl) ?_
              simp only [Act.put, List.setIfInBounds_toArray, List.set_cons_succ, List.set_cons_zero]
              with_reducible refine wpList_skip (by kernel_rfl) ?_
              simp only [Act.put, List.setIfInBounds_toArray, List.set_cons_succ, List.set_cons_zero]
              with_reducible refine wpList_skip (by kernel_rfl) ?_
              simp only [Act.put, List.setIfInBounds_toArray, List.set_cons_succ, List.set_cons_zero]
              with_reducible refine wpList_skip (by kernel_rfl) ?_
              simp only [Act.put, List.setIfInBounds_toArray, List.set_cons_succ, List.set_cons_zero]
              with_reducible refine wpList_skip (by kernel_rfl) ?_
              simp only [Act.put, List.setIfInBounds_toArray, List.set_cons_succ, List.set_cons_zero]
              with_reducible refine wpList_skip (by kernel_rfl) ?_
              simp only [Act.put, List.setIfInBounds_toArray, List.set_cons_succ, List.set_cons_zero]
              with_reducible refine wpList_skip (by kernel_rfl) ?_
              simp only [Act.put, List.setIfInBounds_toArray, List.set_cons_succ, List.set_cons_zero]
              refine wpList_val (.bool true) (by kernel_rfl) (by go_simp) ?_
              simp only [Act.put, List.setIfInBounds_toArray, List.set_cons_succ, List.set_cons_zero]
              go_wp2
              go_ret
              exact ⟨by rw [em.out]; rfl, bn.out⟩
            | false =>
              have d3p := of_decide_eq_false d3
              have d3' : decide (0 > (N.c i).p) = false := d3
              cases d4 : decide ((N.c i).p > 15) with
              | true =>
                have d4p := of_decide_eq_true d4
                have d4' : decide (15 < (N.c i).p) = true := d4
                have em : Hid (mayN N = false) := mayN_no hi4 (by rw [mc.out, Bool.eq_false_iff]; intro h; simp only [Bool.and_eq_true, decide_eq_true_eq] at h; omega)
                refine wpList_val (.pointer (some ⟨wr.heap.size, 1, none⟩)) (by kernel_rfl) (by go_simp) ?_
                simp only [Act.put, List.setIfInBounds_toArray, List.set_cons_succ, List.set_cons_zero]
                refine wpList_val (.int .i64 (N.c i).s) (by kernel_rfl) (by go_simp) ?_
                simp only [Act.put, List.setIfInBounds_toArray, List.set_cons_succ, List.set_cons_zero]
                refine wpList_val (.bool false) (by kernel_rfl) (by go_simp) ?_
                simp only [Act.put, List.setIfInBounds_toArray, List.set_cons_succ, List.set_cons_zero]
                refine wpList_val (.bool false) (by kernel_rfl) (by go_simp) ?_
                simp only [Act.put, List.setIfInBounds_toArray, List.set_cons_succ, List.set_cons_zero]
                refine wpList_val (.pointer (some ⟨wr.heap.size, 1, none⟩)) (by kernel_rfl) (by go_simp) ?_
                simp only [Act.put, List.setIfInBounds_toArray, List.set_cons_succ, List.set_cons_zero]
                refine wpList_val (.int .i64 (N.c i).s) (by kernel_rfl) (by go_simp) ?_
                simp only [Act.put, List.setIfInBounds_toArray, List.set_cons_succ, List.set_cons_zero]
                refine wpList_val (.bool false) (by kernel_rfl) (by go_simp) ?_
                simp only [Act.put, List.setIfInBounds_toArray, List.set_cons_succ, List.set_cons_zero]
                refine wpList_val (.bool false) (by kernel_rfl) (by go_simp) ?_
                simp only [Act.put, List.setIfInBounds_toArray, List.set_cons_succ, List.set_cons_zero]
                refine wpList_val (.bool false) (by kernel_rfl) (by go_simp) ?_
                simp only [Act.put, List.setIfInBounds_toArray, List.set_cons_succ, List.set_cons_zero]
                refine wpList_val (.pointer (some ⟨wr.heap.size, 2, none⟩)) (by kernel_rfl) (by go_simp) ?_
                simp only [Act.put, List.setIfInBounds_toArray, List.set_cons_succ, List.set_cons_zero]
                refine wpList_val (.int .i64 (N.c i).p) (by kernel_rfl) (by go_simp) ?_
                simp only [Act.put, List.setIfInBounds_toArray, List.set_cons_succ, List.set_cons_zero]
                refine wpList_val (.bool false) (by kernel_rfl) (by go_simp) ?_
                simp only [Act.put, List.setIfInBounds_toArray, List.set_cons_succ, List.set_cons_zero]
                refine wpList_val (.bool false) (by kernel_rfl) (by go_simp) ?_
                simp only [Act.put, List.setIfInBounds_toArray, List.set_cons_succ, List.set_cons_zero]
                refine wpList_val (.bool false) (by kernel_rfl) (by go_simp) ?_
                simp only [Act.put, List.setIfInBounds_toArray, List.set_cons_succ, List.set_cons_zero]
                refine wpList_val (.pointer (some ⟨wr.heap.size, 2, none⟩)) (by kernel_rfl) (by go_simp) ?_
                simp only [Act.put, List.setIfInBounds_toArray, List.set_cons_succ, List.set_cons_zero]
                refine wpList_val (.int .i64 (N.c i).p) (by kernel_rfl) (by go_simp) ?_
                simp only [Act.put, List.setIfInBounds_toArray, List.set_cons_succ, List.set_cons_zero]
                refine wpList_val (.bool true) (by kernel_rfl) (by go_simp) ?_
                simp only [Act.put, List.setIfInBounds_toArray, List.set_cons_succ, List.set_cons_zero]
                refine wpList_val (.bool true) (by kernel_rfl) (by go_simp) ?_
                simp only [Act.put, List.setIfInBounds_toArray, List.set_cons_succ, List.set_cons_zero]
                refine wpList_val (.bool true) (by kernel_rfl) (by go_simp) ?_
                simp only [Act.put, List.setIfInBounds_toArray, List.set_cons_succ, List.set_cons_zero]
                with_reducible refine wpList_skip (by kernel_rfl) ?_
                simp only [Act.put, List.setIfInBounds_toArray, List.set_cons_succ, List.set_cons_zero]
                with_reducible refine wpList_skip (by kernel_rfl) ?_
                simp only [Act.put, List.setIfInBounds_toArray, List.set_cons_succ, List.set_cons_zero]
                with_reducible refine wpList_skip (by kernel_rfl) ?_
                simp only [Act.put, List.setIfInBounds_toArray, List.set_cons_succ, List.set_cons_zero]
                with_reducible refine wpList_skip (by kernel_rfl) ?_
                simp only [Act.put, List.setIfInBounds_toArray, List.set_cons_succ, List.set_cons_zero]
                with_reducible refine wpList_skip (by kernel_rfl) ?_
                simp only [Act.put, List.setIfInBounds_toArray, List.set_cons_succ, List.set_cons_zero]
                with_reducible refine wpList_skip (by kernel_rfl) ?_
                simp only [Act.put, List.setIfInBounds_toArray, List.set_cons_succ, List.set_cons_zero]
                with_reducible refine wpList_skip (by kernel_rfl) ?_
                simp only [Act.put, List.setIfInBounds_toArray, List.set_cons_succ, List.set_cons_zero]
                with_reducible refine wpList_skip (by kernel_rfl) ?_
                simp only [Act.put, List.setIfInBounds_toArray, List.set_cons_succ, List.set_cons_zero]
                with_reducible refine wpList_skip (by kernel_rfl) ?_
                simp only [Act.put, List.setIfInBounds_toArray, List.set_cons_succ, List.set_cons_zero]
                with_reducible refine wpList_skip (by kernel_rfl) ?_
                simp only [Act.put, List.setIfInBounds_toArray, List.set_cons_succ, List.set_cons_zero]
                with_reducible refine wpList_skip (by kernel_rfl) ?_
                simp only [Act.put, List.setIfInBounds_toArray, List.set_cons_succ, List.set_cons_zero]
                with_reducible refine wpList_skip (by kernel_rfl) ?_
                simp only [Act.put, List.setIfInBounds_toArray, List.set_cons_succ, List.set_cons_zero]
                with_reducible refine wpList_skip (by kernel_rfl) ?_
                simp only [Act.put, List.setIfInBounds_toArray, List.set_cons_succ, List.set_cons_zero]
                refine wpList_val (.bool true) (by kernel_rfl) (by go_simp) ?_
                simp only [Act.put, List.setIfInBounds_toArray, List.set_cons_succ, List.set_cons_zero]
                go_wp2
                go_ret
                exact ⟨by rw [em.out]; rfl, bn.out⟩
              | false =>
                have d4p := of_decide_eq_false d4
                have d4' : decide (15 < (N.c i).p) = false := d4
                cases hl : N.l with
                | true =>
                  rw [hl] at n1
                  have hm : Hid (mayC (N.c i) N.l = true) := by unfold Hid; rw [mc.out, hl]; simp only [Bool.true_or, Bool.true_and, Bool.and_eq_true, decide_eq_true_eq]; omega
                  have ok2 : Hid (∀ j, j < i + 1 → mayC (N.c j) N.l = true) := fun j hj => by
                    by_cases e : j = i
                    · rw [e]; exact hm.out
                    · exact ok.out j (by omega)
                  clear hm ok
                  refine wpList_val (.pointer (some ⟨wr.heap.size, 1, none⟩)) (by kernel_rfl) (by go_simp) ?_
                  simp only [Act.put, List.setIfInBounds_toArray, List.set_cons_succ, List.set_cons_zero]
                  refine wpList_val (.int .i64 (N.c i).s) (by kernel_rfl) (by go_simp) ?_
                  simp only [Act.put, List.setIfInBounds_toArray, List.set_cons_succ, List.set_cons_zero]
                  refine wpList_val (.bool false) (by kernel_rfl) (by go_simp) ?_
                  simp only [Act.put, List.setIfInBounds_toArray, List.set_cons_succ, List.set_cons_zero]
                  refine wpList_val (.bool false) (by kernel_rfl) (by go_simp) ?_
                  simp only [Act.put, List.setIfInBounds_toArray, List.set_cons_succ, List.set_cons_zero]
                  refine wpList_val (.pointer (some ⟨wr.heap.size, 1, none⟩)) (by kernel_rfl) (by go_simp) ?_
                  simp only [Act.put, List.setIfInBounds_toArray, List.set_cons_succ, List.set_cons_zero]
                  refine wpList_val (.int .i64 (N.c i).s) (by kernel_rfl) (by go_simp) ?_
                  simp only [Act.put, List.setIfInBounds_toArray, List.set_cons_succ, List.set_cons_zero]
                  refine wpList_val (.bool false) (by kernel_rfl) (by go_simp) ?_
                  simp only [Act.put, List.setIfInBounds_toArray, List.set_cons_succ, List.set_cons_zero]
                  refine wpList_val (.bool false) (by kernel_rfl) (by go_simp) ?_
                  simp only [Act.put, List.setIfInBounds_toArray, List.set_cons_succ, List.set_cons_zero]
                  refine wpList_val (.bool false) (by kernel_rfl) (by go_simp) ?_
                  simp only [Act.put, List.setIfInBounds_toArray, List.set_cons_succ, List.set_cons_zero]
                  refine wpList_val (.pointer (some ⟨wr.heap.size, 2, none⟩)) (by kernel_rfl) (by go_simp) ?_
                  simp only [Act.put, List.setIfInBounds_toArray, List.set_cons_succ, List.set_cons_zero]
                  refine wpList_val (.int .i64 (N.c i).p) (by kernel_rfl) (by go_simp) ?_
                  simp only [Act.put, List.setIfInBounds_toArray, List.set_cons_succ, List.set_cons_zero]
                  refine wpList_val (.bool false) (by kernel_rfl) (by go_simp) ?_
                  simp only [Act.put, List.setIfInBounds_toArray, List.set_cons_succ, List.set_cons_zero]
                  refine wpList_val (.bool false) (by kernel_rfl) (by go_simp) ?_
                  simp only [Act.put, List.setIfInBounds_toArray, List.set_cons_succ, List.set_cons_zero]
                  refine wpList_val (.bool false) (by kernel_rfl) (by go_simp) ?_
                  simp only [Act.put, List.setIfInBounds_toArray, List.set_cons_succ, List.set_cons_zero]
                  refine wpList_val (.pointer (some ⟨wr.heap.size, 2, none⟩)) (by kernel_rfl) (by go_simp) ?_
                  simp only [Act.put, List.setIfInBounds_toArray, List.set_cons_succ, List.set_cons_zero]
                  refine wpList_val (.int .i64 (N.c i).p) (by kernel_rfl) (by go_simp) ?_
                  simp only [Act.put, List.setIfInBounds_toArray, List.set_cons_succ, List.set_cons_zero]
                  refine wpList_val (.bool false) (by kernel_rfl) (by go_simp) ?_
                  simp only [Act.put, List.setIfInBounds_toArray, List.set_cons_succ, List.set_cons_zero]
                  refine wpList_val (.bool false) (by kernel_rfl) (by go_simp) ?_
                  simp only [Act.put, List.setIfInBounds_toArray, List.set_cons_succ, List.set_cons_zero]
                  refine wpList_val (.bool false) (by kernel_rfl) (by go_simp) ?_
                  simp only [Act.put, List.setIfInBounds_toArray, List.set_cons_succ, List.set_cons_zero]
                  refine wpList_val (.pointer (some ⟨w.heap.size, 0, none⟩)) (by kernel_rfl) (by go_simp) ?_
                  simp only [Act.put, List.setIfInBounds_toArray, List.set_cons_succ, List.set_cons_zero]
                  refine wpList_val (.bool true) (by kernel_rfl) (by go_simp) ?_
                  simp only [Act.put, List.setIfInBounds_toArray, List.set_cons_succ, List.set_cons_zero]
                  refine wpList_val (.bool false) (by kernel_rfl) (by go_simp) ?_
                  simp only [Act.put, List.setIfInBounds_toArray, List.set_cons_succ, List.set_cons_zero]
                  refine wpList_val (.bool false) (by kernel_rfl) (by go_simp) ?_
                  simp only [Act.put, List.setIfInBounds_toArray, List.set_cons_succ, List.set_cons_zero]
                  with_reducible refine wpList_skip (by kernel_rfl) ?_
                  simp only [Act.put, List.setIfInBounds_toArray, List.set_cons_succ, List.set_cons_zero]
                  with_reducible refine wpList_skip (by kernel_rfl) ?_
                  simp only [Act.put, List.setIfInBounds_toArray, List.set_cons_succ, List.set_cons_zero]
                  with_reducible refine wpList_skip (by kernel_rfl) ?_
                  simp only [Act.put, List.setIfInBounds_toArray, List.set_cons_succ, List.set_cons_zero]
                  with_reducible refine wpList_skip (by kernel_rfl) ?_
                  simp only [Act.put, List.setIfInBounds_toArray, List.set_cons_succ, List.set_cons_zero]
                  with_reducible refine wpList_skip (by kernel_rfl) ?_
                  simp only [Act.put, List.setIfInBounds_toArray, List.set_cons_succ, List.set_cons_zero]
                  with_reducible refine wpList_skip (by kernel_rfl) ?_
                  simp only [Act.put, List.setIfInBounds_toArray, List.set_cons_succ, List.set_cons_zero]
                  with_reducible refine wpList_skip (by kernel_rfl) ?_
                  simp only [Act.put, List.setIfInBounds_toArray, List.set_cons_succ, List.set_cons_zero]
                  with_reducible refine wpList_skip (by kernel_rfl) ?_
                  simp only [Act.put, List.setIfInBounds_toArray, List.set_cons_succ, List.set_cons_zero]
                  refine wpList_val (.bool false) (by kernel_rfl) (by go_simp) ?_
                  simp only [Act.put, List.setIfInBounds_toArray, List.set_cons_succ, List.set_cons_zero]
                  refine wpList_val (.bool false) (by kernel_rfl) (by go_simp) ?_
                  simp only [Act.put, List.setIfInBounds_toArray, List.set_cons_succ, List.set_cons_zero]
                  go_wp2
                  go_roundw
                  case rel => exact ⟨i + 1, by omega, by go_num, ok2, rn, bn⟩
                  case measure => simp [intOf]; omega
                | false =>
                  rw [hl] at n1
                  cases hx : (((N.c i).x : Int) != 0) with
                  | true =>
                    have h1 : (N.c i).x ≠ 0 := by simpa using hx
                    have em : Hid (mayN N = false) := mayN_no hi4 (by rw [mc.out, hl]; simp [h1])
                    refine wpList_val (.pointer (some ⟨wr.heap.size, 1, none⟩)) (by kernel_rfl) (by go_simp) ?_
                    simp only [Act.put, List.setIfInBounds_toArray, List.set_cons_succ, List.set_cons_zero]
                    refine wpList_val (.int .i64 (N.c i).s) (by kernel_rfl) (by go_simp) ?_
                    simp only [Act.put, List.setIfInBounds_toArray, List.set_cons_succ, List.set_cons_zero]
                    refine wpList_val (.bool false) (by kernel_rfl) (by go_simp) ?_
                    simp only [Act.put, List.setIfInBounds_toArray, List.set_cons_succ, List.set_cons_zero]
                    refine wpList_val (.bool false) (by kernel_rfl) (by go_simp) ?_
                    simp only [Act.put, List.setIfInBounds_toArray, List.set_cons_succ, List.set_cons_zero]
                    refine wpList_val (.pointer (some ⟨wr.heap.size, 1, none⟩)) (by kernel_rfl) (by go_simp) ?_
                    simp only [Act.put, List.setIfInBounds_toArray, List.set_cons_succ, List.set_cons_zero]
                    refine wpList_val (.int .i64 (N.c i).s) (by kernel_rfl) (by go_simp) ?_
                    simp only [Act.put, List.setIfInBounds_toArray, List.set_cons_succ, List.set_cons_zero]
                    refine wpList_val (.bool false) (by kernel_rfl) (by go_simp) ?_
                    simp only [Act.put, List.setIfInBounds_toArray, List.set_cons_succ, List.set_cons_zero]
                    refine wpList_val (.bool false) (by kernel_rfl) (by go_simp) ?_
                    simp only [Act.put, List.setIfInBounds_toArray, List.set_cons_succ, List.set_cons_zero]
                    refine wpList_val (.bool false) (by kernel_rfl) (by go_simp) ?_
                    simp only [Act.put, List.setIfInBounds_toArray, List.set_cons_succ, List.set_cons_zero]
                    refine wpList_val (.pointer (some ⟨wr.heap.size, 2, none⟩)) (by kernel_rfl) (by go_simp) ?_
                    simp only [Act.put, List.setIfInBounds_toArray, List.set_cons_succ, List.set_cons_zero]
                    refine wpList_val (.int .i64 (N.c i).p) (by kernel_rfl) (by go_simp) ?_
                    simp only [Act.put, List.setIfInBounds_toArray, List.set_cons_succ, List.set_cons_zero]
                    refine wpList_val (.bool false) (by kernel_rfl) (by go_simp) ?_
                    simp only [Act.put, List.setIfInBounds_toArray, List.set_cons_succ, List.set_cons_zero]
                    refine wpList_val (.bool false) (by kernel_rfl) (by go_simp) ?_
                    simp only [Act.put, List.setIfInBounds_toArray, List.set_cons_succ, List.set_cons_zero]
                    refine wpList_val (.bool false) (by kernel_rfl) (by go_simp) ?_
                    simp only [Act.put, List.setIfInBounds_toArray, List.set_cons_succ, List.set_cons_zero]
                    refine wpList_val (.pointer (some ⟨wr.heap.size, 2, none⟩)) (by kernel_rfl) (by go_simp) ?_
                    simp only [Act.put, List.setIfInBounds_toArray, List.set_cons_succ, List.set_cons_zero]
                    refine wpList_val (.int .i64 (N.c i).p) (by kernel_rfl) (by go_simp) ?_
                    simp only [Act.put, List.setIfInBounds_toArray, List.set_cons_succ, List.set_cons_zero]
                    refine wpList_val (.bool false) (by kernel_rfl) (by go_simp) ?_
                    simp only [Act.put, List.setIfInBounds_toArray, List.set_cons_succ, List.set_cons_zero]
                    refine wpList_val (.bool false) (by kernel_rfl) (by go_simp) ?_
                    simp only [Act.put, List.setIfInBounds_toArray, List.set_cons_succ, List.set_cons_zero]
                    refine wpList_val (.bool false) (by kernel_rfl) (by go_simp) ?_
                    simp only [Act.put, List.setIfInBounds_toArray, List.set_cons_succ, List.set_cons_zero]
                    refine wpList_val (.pointer (some ⟨w.heap.size, 0, none⟩)) (by kernel_rfl) (by go_simp) ?_
                    simp only [Act.put, List.setIfInBounds_toArray, List.set_cons_succ, List.set_cons_zero]
                    refine wpList_val (.bool false) (by kernel_rfl) (by go_simp) ?_
                    simp only [Act.put, List.setIfInBounds_toArray, List.set_cons_succ, List.set_cons_zero]
                    refine wpList_val (.bool true) (by kernel_rfl) (by go_simp) ?_
                    simp only [Act.put, List.setIfInBounds_toArray, List.set_cons_succ, List.set_cons_zero]
                    refine wpList_val (.bool true) (by kernel_rfl) (by go_simp) ?_
                    simp only [Act.put, List.setIfInBounds_toArray, List.set_cons_succ, List.set_cons_zero]
                    refine wpList_val (.pointer (some ⟨wr.heap.size, 19, none⟩)) (by kernel_rfl) (by go_simp) ?_
                    simp only [Act.put, List.setIfInBounds_toArray, List.set_cons_succ, List.set_cons_zero]
                    refine wpList_val (.int .u64 ((N.c i).x : Nat)) (by kernel_rfl) (by go_simp) ?_
                    simp only [Act.put, List.setIfInBounds_toArray, List.set_cons_succ, List.set_cons_zero]
                    refine wpList_val (.bool true) (by kernel_rfl) (by go_simp) ?_
                    simp only [Act.put, List.setIfInBounds_toArray, List.set_cons_succ, List.set_cons_zero]
                    refine wpList_val (.bool true) (by kernel_rfl) (by go_simp) ?_
                    simp only [Act.put, List.setIfInBounds_toArray, List.set_cons_succ, List.set_cons_zero]
                    with_reducible refine wpList_skip (by kernel_rfl) ?_
                    simp only [Act.put, List.setIfInBounds_toArray, List.set_cons_succ, List.set_cons_zero]
                    with_reducible refine wpList_skip (by kernel_rfl) ?_
                    simp only [Act.put, List.setIfInBounds_toArray, List.set_cons_succ, List.set_cons_zero]
                    with_reducible refine wpList_skip (by kernel_rfl) ?_
                    simp only [Act.put, List.setIfInBounds_toArray, List.set_cons_succ, List.set_cons_zero]
                    refine wpList_val (.bool true) (by kernel_rfl) (by go_simp) ?_
                    simp only [Act.put, List.setIfInBounds_toArray, List.set_cons_succ, List.set_cons_zero]
                    refine wpList_val (.bool true) (by kernel_rfl) (by go_simp) ?_
                    simp only [Act.put, List.setIfInBounds_toArray, List.set_cons_succ, List.set_cons_zero]
                    refine wpList_val (.bool true) (by kernel_rfl) (by go_simp) ?_
                    simp only [Act.put, List.setIfInBounds_toArray, List.set_cons_succ, List.set_cons_zero]
                    go_wp2
                    go_ret
                    exact ⟨by rw [em.out]; rfl, bn.out⟩
                  | false =>
                    have h1 : (N.c i).x = 0 := by simpa using hx
                    cases hv : (((N.c i).v : Int) != 0) with
                    | true =>
                      have h2 : (N.c i).v ≠ 0 := by simpa using hv
                      have em : Hid (mayN N = false) := mayN_no hi4 (by rw [mc.out, hl]; simp [h2])
                      refine wpList_val (.pointer (some ⟨wr.heap.size, 1, none⟩)) (by kernel_rfl) (by go_simp) ?_
                      simp only [Act.put, List.setIfInBounds_toArray, List.set_cons_succ, List.set_cons_zero]
                      refine wpList_val (.int .i64 (N.c i).s) (by kernel_rfl) (by go_simp) ?_
                      simp only [Act.put, List.setIfInBounds_toArray, List.set_cons_succ, List.set_cons_zero]
                      refine wpList_val (.bool false) (by kernel_rfl) (by go_simp) ?_
                      simp only [Act.put, List.setIfInBounds_toArray, List.set_cons_succ, List.set_cons_zero]
                      refine wpList_val (.bool false) (by kernel_rfl) (by go_simp) ?_
                      simp only [Act.put, List.setIfInBounds_toArray, List.set_cons_succ, List.set_cons_zero]
                      refine wpList_val (.pointer (some ⟨wr.heap.size, 1, none⟩)) (by kernel_rfl) (by go_simp) ?_
                      simp only [Act.put, List.setIfInBounds_toArray, List.set_cons_succ, List.set_cons_zero]
                      refine wpList_val (.int .i64 (N.c i).s) (by kernel_rfl) (by go_simp) ?_
                      simp only [Act.put, List.setIfInBounds_toArray, List.set_cons_succ, List.set_cons_zero]
                      refine wpList_val (.bool false) (by kernel_rfl) (by go_simp) ?_
                      simp only [Act.put, List.setIfInBounds_toArray, List.set_cons_succ, List.set_cons_zero]
                      refine wpList_val (.bool false) (by kernel_rfl) (by go_simp) ?_
                      simp only [Act.put, List.setIfInBounds_toArray, List.set_cons_succ, List.set_cons_zero]
                      refine wpList_val (.bool false) (by kernel_rfl) (by go_simp) ?_
                      simp only [Act.put, List.setIfInBounds_toArray, List.set_cons_succ, List.set_cons_zero]
                      refine wpList_val (.pointer (some ⟨wr.heap.size, 2, none⟩)) (by kernel_rfl) (by go_simp) ?_
                      simp only [Act.put, List.setIfInBounds_toArray, List.set_cons_succ, List.set_cons_zero]
                      refine wpList_val (.int .i64 (N.c i).p) (by kernel_rfl) (by go_simp) ?_
                      simp only [Act.put, List.setIfInBounds_toArray, List.set_cons_succ, List.set_cons_zero]
                      refine wpList_val (.bool false) (by kernel_rfl) (by go_simp) ?_
                      simp only [Act.put, List.setIfInBounds_toArray, List.set_cons_succ, List.set_cons_zero]
                      refine wpList_val (.bool false) (by kernel_rfl) (by go_simp) ?_
                      simp only [Act.put, List.setIfInBounds_toArray, List.set_cons_succ, List.set_cons_zero]
                      refine wpList_val (.bool false) (by kernel_rfl) (by go_simp) ?_
                      simp only [Act.put, List.setIfInBounds_toArray, List.set_cons_succ, List.set_cons_zero]
                      refine wpList_val (.pointer (some ⟨wr.heap.size, 2, none⟩)) (by kernel_rfl) (by go_simp) ?_
                      simp only [Act.put, List.setIfInBounds_toArray, List.set_cons_succ, List.set_cons_zero]
                      refine wpList_val (.int .i64 (N.c i).p) (by kernel_rfl) (by go_simp) ?_
                      simp only [Act.put, List.setIfInBounds_toArray, List.set_cons_succ, List.set_cons_zero]
                      refine wpList_val (.bool false) (by kernel_rfl) (by go_simp) ?_
                      simp only [Act.put, List.setIfInBounds_toArray, List.set_cons_succ, List.set_cons_zero]
                      refine wpList_val (.bool false) (by kernel_rfl) (by go_simp) ?_
                      simp only [Act.put, List.setIfInBounds_toArray, List.set_cons_succ, List.set_cons_zero]
                      refine wpList_val (.bool false) (by kernel_rfl) (by go_simp) ?_
                      simp only [Act.put, List.setIfInBounds_toArray, List.set_cons_succ, List.set_cons_zero]
                      refine wpList_val (.pointer (some ⟨w.heap.size, 0, none⟩)) (by kernel_rfl) (by go_simp) ?_
                      simp only [Act.put, List.setIfInBounds_toArray, List.set_cons_succ, List.set_cons_zero]
                      refine wpList_val (.bool false) (by kernel_rfl) (by go_simp) ?_
                      simp only [Act.put, List.setIfInBounds_toArray, List.set_cons_succ, List.set_cons_zero]
                      refine wpList_val (.bool true) (by kernel_rfl) (by go_simp) ?_
                      simp only [Act.put, List.setIfInBounds_toArray, List.set_cons_succ, List.set_cons_zero]
                      refine wpList_val (.bool true) (by kernel_rfl) (by go_simp) ?_
                      simp only [Act.put, List.setIfInBounds_toArray, List.set_cons_succ, List.set_cons_zero]
                      refine wpList_val (.pointer (some ⟨wr.heap.size, 19, none⟩)) (by kernel_rfl) (by go_simp) ?_
                      simp only [Act.put, List.setIfInBounds_toArray, List.set_cons_succ, List.set_cons_zero]
                      refine wpList_val (.int .u64 ((N.c i).x : Nat)) (by kernel_rfl) (by go_simp) ?_
                      simp only [Act.put, List.setIfInBounds_toArray, List.set_cons_succ, List.set_cons_zero]
                      refine wpList_val (.bool false) (by kernel_rfl) (by go_simp) ?_
                      simp only [Act.put, List.setIfInBounds_toArray, List.set_cons_succ, List.set_cons_zero]
                      refine wpList_val (.bool false) (by kernel_rfl) (by go_simp) ?_
                      simp only [Act.put, List.setIfInBounds_toArray, List.set_cons_succ, List.set_cons_zero]
                      refine wpList_val (.pointer (some ⟨wr.heap.size, 20, none⟩)) (by kernel_rfl) (by go_simp) ?_
                      simp only [Act.put, List.setIfInBounds_toArray, List.set_cons_succ, List.set_cons_zero]
                      refine wpList_val (.int .u64 ((N.c i).v : Nat)) (by kernel_rfl) (by go_simp) ?_
                      simp only [Act.put, List.setIfInBounds_toArray, List.set_cons_succ, List.set_cons_zero]
                      refine wpList_val (.bool true) (by kernel_rfl) (by go_simp) ?_
                      simp only [Act.put, List.setIfInBounds_toArray, List.set_cons_succ, List.set_cons_zero]
                      refine wpList_val (.bool true) (by kernel_rfl) (by go_simp) ?_
                      simp only [Act.put, List.setIfInBounds_toArray, List.set_cons_succ, List.set_cons_zero]
                      refine wpList_val (.bool true) (by kernel_rfl) (by go_simp) ?_
                      simp only [Act.put, List.setIfInBounds_toArray, List.set_cons_succ, List.set_cons_zero]
                      refine wpList_val (.bool true) (by kernel_rfl) (by go_simp) ?_
                      simp only [Act.put, List.setIfInBounds_toArray, List.set_cons_succ, List.set_cons_zero]
                      go_wp2
                      go_ret
                      exact ⟨by rw [em.out]; rfl, bn.out⟩
                    | false =>
                      have h2 : (N.c i).v = 0 := by simpa using hv
                      have hm : Hid (mayC (N.c i) N.l = true) := by unfold Hid; rw [mc.out, hl]; simp only [h1, h2, decide_true, Bool.and_true, Bool.or_true, Bool.true_and, Bool.and_eq_true, decide_eq_true_eq]; omega
                      have ok2 : Hid (∀ j, j < i + 1 → mayC (N.c j) N.l = true) := fun j hj => by
                        by_cases e : j = i
                        · rw [e]; exact hm.out
                        · exact ok.out j (by omega)
                      clear hm ok
                      refine wpList_val (.pointer (some ⟨wr.heap.size, 1, none⟩)) (by kernel_rfl) (by go_simp) ?_
                      simp only [Act.put, List.setIfInBounds_toArray, List.set_cons_succ, List.set_cons_zero]
                      refine wpList_val (.int .i64 (N.c i).s) (by kernel_rfl) (by go_simp) ?_
                      simp only [Act.put, List.setIfInBounds_toArray, List.set_cons_succ, List.set_cons_zero]
                      refine wpList_val (.bool false) (by kernel_rfl) (by go_simp) ?_
                      simp only [Act.put, List.setIfInBounds_toArray, List.set_cons_succ, List.set_cons_zero]
                      refine wpList_val (.bool false) (by kernel_rfl) (by go_simp) ?_
                      simp only [Act.put, List.setIfInBounds_toArray, List.set_cons_succ, List.set_cons_zero]
                      refine wpList_val (.pointer (some ⟨wr.heap.size, 1, none⟩)) (by kernel_rfl) (by go_simp) ?_
                      simp only [Act.put, List.setIfInBounds_toArray, List.set_cons_succ, List.set_cons_zero]
                      refine wpList_val (.int .i64 (N.c i).s) (by kernel_rfl) (by go_simp) ?_
                      simp only [Act.put, List.setIfInBounds_toArray, List.set_cons_succ, List.set_cons_zero]
                      refine wpList_val (.bool false) (by kernel_rfl) (by go_simp) ?_
                      simp only [Act.put, List.setIfInBounds_toArray, List.set_cons_succ, List.set_cons_zero]
                      refine wpList_val (.bool false) (by kernel_rfl) (by go_simp) ?_
                      simp only [Act.put, List.setIfInBounds_toArray, List.set_cons_succ, List.set_cons_zero]
                      refine wpList_val (.bool false) (by kernel_rfl) (by go_simp) ?_
                      simp only [Act.put, List.setIfInBounds_toArray, List.set_cons_succ, List.set_cons_zero]
                      refine wpList_val (.pointer (some ⟨wr.heap.size, 2, none⟩)) (by kernel_rfl) (by go_simp) ?_
                      simp only [Act.put, List.setIfInBounds_toArray, List.set_cons_succ, List.set_cons_zero]
                      refine wpList_val (.int .i64 (N.c i).p) (by kernel_rfl) (by go_simp) ?_
                      simp only [Act.put, List.setIfInBounds_toArray, List.set_cons_succ, List.set_cons_zero]
                      refine wpList_val (.bool false) (by kernel_rfl) (by go_simp) ?_
                      simp only [Act.put, List.setIfInBounds_toArray, List.set_cons_succ, List.set_cons_zero]
                      refine wpList_val (.bool false) (by kernel_rfl) (by go_simp) ?_
                      simp only [Act.put, List.setIfInBounds_toArray, List.set_cons_succ, List.set_cons_zero]
                      refine wpList_val (.bool false) (by kernel_rfl) (by go_simp) ?_
                      simp only [Act.put, List.setIfInBounds_toArray, List.set_cons_succ, List.set_cons_zero]
                      refine wpList_val (.pointer (some ⟨wr.heap.size, 2, none⟩)) (by kernel_rfl) (by go_simp) ?_
                      simp only [Act.put, List.setIfInBounds_toArray, List.set_cons_succ, List.set_cons_zero]
                      refine wpList_val (.int .i64 (N.c i).p) (by kernel_rfl) (by go_simp) ?_
                      simp only [Act.put, List.setIfInBounds_toArray, List.set_cons_succ, List.set_cons_zero]
                      refine wpList_val (.bool false) (by kernel_rfl) (by go_simp) ?_
                      simp only [Act.put, List.setIfInBounds_toArray, List.set_cons_succ, List.set_cons_zero]
                      refine wpList_val (.bool false) (by kernel_rfl) (by go_simp) ?_
                      simp only [Act.put, List.setIfInBounds_toArray, List.set_cons_succ, List.set_cons_zero]
                      refine wpList_val (.bool false) (by kernel_rfl) (by go_simp) ?_
                      simp only [Act.put, List.setIfInBounds_toArray, List.set_cons_succ, List.set_cons_zero]
                      refine wpList_val (.pointer (some ⟨w.heap.size, 0, none⟩)) (by kernel_rfl) (by go_simp) ?_
                      simp only [Act.put, List.setIfInBounds_toArray, List.set_cons_succ, List.set_cons_zero]
                      refine wpList_val (.bool false) (by kernel_rfl) (by go_simp) ?_
                      simp only [Act.put, List.setIfInBounds_toArray, List.set_cons_succ, List.set_cons_zero]
                      refine wpList_val (.bool true) (by kernel_rfl) (by go_simp) ?_
                      simp only [Act.put, List.setIfInBounds_toArray, List.set_cons_succ, List.set_cons_zero]
                      refine wpList_val (.bool true) (by kernel_rfl) (by go_simp) ?_
                      simp only [Act.put, List.setIfInBounds_toArray, List.set_cons_succ, List.set_cons_zero]
                      refine wpList_val (.pointer (some ⟨wr.heap.size, 19, none⟩)) (by kernel_rfl) (by go_simp) ?_
                      simp only [Act.put, List.setIfInBounds_toArray, List.set_cons_succ, List.set_cons_zero]
                      refine wpList_val (.int .u64 ((N.c i).x : Nat)) (by kernel_rfl) (by go_simp) ?_
                      simp only [Act.put, List.setIfInBounds_toArray, List.set_cons_succ, List.set_cons_zero]
                      refine wpList_val (.bool false) (by kernel_rfl) (by go_simp) ?_
                      simp only [Act.put, List.setIfInBounds_toArray, List.set_cons_succ, List.set_cons_zero]
                      refine wpList_val (.bool false) (by kernel_rfl) (by go_simp) ?_
                      simp only [Act.put, List.setIfInBounds_toArray, List.set_cons_succ, List.set_cons_zero]
                      refine wpList_val (.pointer (some ⟨wr.heap.size, 20, none⟩)) (by kernel_rfl) (by go_simp) ?_
                      simp only [Act.put, List.setIfInBounds_toArray, List.set_cons_succ, List.set_cons_zero]
                      refine wpList_val (.int .u64 ((N.c i).v : Nat)) (by kernel_rfl) (by go_simp) ?_
                      simp only [Act.put, List.setIfInBounds_toArray, List.set_cons_succ, List.set_cons_zero]
                      refine wpList_val (.bool false) (by kernel_rfl) (by go_simp) ?_
                      simp only [Act.put, List.setIfInBounds_toArray, List.set_cons_succ, List.set_cons_zero]
                      refine wpList_val (.bool false) (by kernel_rfl) (by go_simp) ?_
                      simp only [Act.put, List.setIfInBounds_toArray, List.set_cons_succ, List.set_cons_zero]
                      refine wpList_val (.bool false) (by kernel_rfl) (by go_simp) ?_
                      simp only [Act.put, List.setIfInBounds_toArray, List.set_cons_succ, List.set_cons_zero]
                      refine wpList_val (.bool false) (by kernel_rfl) (by go_simp) ?_
                      simp only [Act.put, List.setIfInBounds_toArray, List.set_cons_succ, List.set_cons_zero]
                      go_wp2
                      go_roundw
                      case rel => exact ⟨i + 1, by omega, by go_num, ok2, rn, bn⟩
                      case measure => simp [intOf]; omega
    · have ei : i = 4 := by omega
      subst ei
      have l0 : ¬ ((4 : Nat) : Int) < 4 := by omega
      have em : Hid (mayN N = true) := (mayN_iff N).2 ok.out
      go_wp2
      go_ret
      exact ⟨by rw [em.out]; rfl, bb.out⟩

set_option maxHeartbeats 4000000 in
set_option maxRecDepth 8000 in
theorem refEmpty_node (N : Nod) (w : World) :
    Calls Try.prog 16 #[.agg (rowOf 85 (nF N))] w fun e w' => e = .returned (.bool (emptyN N)) ∧ Below w.heap.size w w' := by
  have b0 := Lib.hid ((Below.refl _ w).alloc (Nat.le_refl _) (.cells (rowOf 85 (nF N)) 37))
  have r0 := RowAt.new w 37 (rowOf 85 (nF N))
  have x0 : (w.alloc (.cells (rowOf 85 (nF N)) 37)).cell? ⟨w.heap.size, 1, none⟩ = some (.bool (N.c 0).h) := r0.cell 1 (by decide)
  have x1 : (w.alloc (.cells (rowOf 85 (nF N)) 37)).cell? ⟨w.heap.size, 22, none⟩ = some (.bool (N.c 1).h) := r0.cell 22 (by decide)
  have x2 : (w.alloc (.cells (rowOf 85 (nF N)) 37)).cell? ⟨w.heap.size, 43, none⟩ = some (.bool (N.c 2).h) := r0.cell 43 (by decide)
  have x3 : (w.alloc (.cells (rowOf 85 (nF N)) 37)).cell? ⟨w.heap.size, 64, none⟩ = some (.bool (N.c 3).h) := r0.cell 64 (by decide)
  have em : ∀ a b c d, (N.c 0).h = a → (N.c 1).h = b → (N.c 2).h = c → (N.c 3).h = d → emptyN N = (!a && (!b && (!c && !d))) := fun a b c d ha hb hc hd => by unfold emptyN; rw [ha, hb, hc, hd]
  replace em := Lib.hid em
  clear r0
  generalize (N.c 0).h = h0 at *
  generalize (N.c 1).h = h1 at *
  generalize (N.c 2).h = h2 at *
  generalize (N.c 3).h = h3 at *
  replace em := Lib.hid (em.out h0 h1 h2 h3 rfl rfl rfl rfl)
  cases h0 with
  | true =>
    go_enter Try.func16, Try.ntmps16
    go_wp2
    go_ret
    exact ⟨by rw [em.out]; rfl, b0.out⟩
  | false =>
    cases h1 with
    | true =>
      go_enter Try.func16, Try.ntmps16
      go_wp2
      go_ret
      exact ⟨by rw [em.out]; rfl, b0.out⟩
    | false =>
      cases h2 with
      | true =>
        go_enter Try.func16, Try.ntmps16
        go_wp2
        go_ret
        exact ⟨by rw [em.out]; rfl, b0.out⟩
      | false =>
        cases h3 with
        | true =>
          go_enter Try.func16, Try.ntmps16
          go_wp2
          go_ret
          exact ⟨by rw [em.out]; rfl, b0.out⟩
        | false =>
          go_enter Try.func16, Try.ntmps16
          go_wp2
          go_ret
          exact ⟨by rw [em.out]; rfl, b0.out⟩

end Go.Proofs.Ytapebaoajknepaa
