/-
  Contract: its.
-/
import Derived.Test.YtapebaoajknepaaNodeNode
import Derived.Test.YtapebaoajknepaaNodeRefMay
namespace Go.Proofs.Ytapebaoajknepaa
open Go.RowKit
set_option linter.unusedVariables false

theorem its_fill (N M : Nod) (i : Nat) (h : M.l = N.l ∧ ∀ j, j < i → M.c j = N.c j) : (M.put i (N.c i)).l = N.l ∧ ∀ j, j < i + 1 → (M.put i (N.c i)).c j = N.c j := by
  refine ⟨h.1, fun j hj => ?_⟩
  by_cases e : j = i
  · subst e
    exact Nod.put_here _ _ _
  · rw [Nod.put_other _ _ _ _ e]
    exact h.2 j (by omega)
theorem its_full {N M : Nod} (h : M.l = N.l ∧ ∀ j, j < 4 → M.c j = N.c j) : rowOf 85 (nF M) = rowOf 85 (nF N) := rowOf_congr fun j hj => by
  unfold nF
  by_cases h0 : j = 0
  · rw [if_pos h0, if_pos h0, h.1]
  · rw [if_neg h0, if_neg h0, h.2 _ (by omega)]

set_option maxHeartbeats 4000000 in
set_option maxRecDepth 8000 in
theorem its_any (N : Nod) (w : World) :
    Calls Try.prog 12 #[.agg (rowOf 85 (nF N))] w fun e w' => e = .returned (.agg (rowOf 85 (nF N))) ∧ Below w.heap.size w w' := by
  obtain ⟨w2, hw2⟩ : ∃ w2, (w.alloc (.cells (rowOf 85 (nF N)) 29)).alloc (.cells (rowOf 85 (nF noNod)) 37) = w2 := ⟨_, rfl⟩
  have r1 : Hid (RowAt w2 w.heap.size 29 (rowOf 85 (nF N))) := by rw [← hw2]; exact (RowAt.new _ _ _).alloc _
  have r2 : Hid (RowAt w2 (w.heap.size + 1) 37 (rowOf 85 (nF noNod))) := by
    have := RowAt.new (w.alloc (.cells (rowOf 85 (nF N)) 29)) 37 (rowOf 85 (nF noNod))
    rw [World.size_alloc, hw2] at this
    exact this
  have b2 : Hid (Below w.heap.size w w2) := by rw [← hw2]; exact ((Below.refl _ w).alloc (Nat.le_refl _) _).alloc (by simp) _
  have z2 : w2.heap.size = w.heap.size + 1 + 1 := by rw [← hw2]; simp
  have c0 : w2.cell? ⟨w.heap.size, 0, none⟩ = some (.bool N.l) := r1.out.cell 0 (by decide)
  have HW := Lib.hid hw2
  clear hw2
  go_enter Try.func12, Try.ntmps12
  go_wp2_with (refine wpList_new rfl (run_allocNodRef rfl _) ?_; refine Hid.out ?_)
  unfold Hid
  rw [HW.out]
  have T : Hid (w2.heap.size = w2.heap.size) := rfl
  have r3 := Lib.hid (RowAt.new w2 37 (rowOf 85 (nF ⟨N.l, fun _ => noChd⟩)))
  have r1' := Lib.hid (r1.out.alloc (.cells (rowOf 85 (nF ⟨N.l, fun _ => noChd⟩)) 37))
  have r2' := Lib.hid (r2.out.alloc (.cells (rowOf 85 (nF ⟨N.l, fun _ => noChd⟩)) 37))
  have b3 := Lib.hid (b2.out.alloc b2.out.size (.cells (rowOf 85 (nF ⟨N.l, fun _ => noChd⟩)) 37))
  have z3 := Lib.hid z2
  clear r1 r2 b2 HW z2 T
  go_wp2_with (first | (refine wpList_new rfl (run_allocNodRef rfl _) ?_) | (refine wpList_buildTo rfl 37 _ rfl _ rfl (rowOf 85 (nF ⟨N.l, fun _ => noChd⟩)) (by kernel_rfl) ?_) | (refine wpList_store_row rfl 37 _ _ rfl w2.heap.size (rowOf 85 (nF ⟨N.l, fun _ => noChd⟩)) rfl rfl 37 _ (RowAt.new _ _ _) (infoNodRef' _) (by simp only [rowOf_size]) (nF_all' _) ?_; rw [World.setRow_alloc_new]; refine Hid.out ?_))
  unfold Hid
  rw [z3.out] at r3 ⊢
  clear c0
  generalize w2.alloc (.cells (rowOf 85 (nF ⟨N.l, fun _ => noChd⟩)) 37) = w3 at *
  clear z3 w2
  go_wp2
  go_loopw [4] (fun u wr => ∃ (i : Nat) (M : Nod), i ≤ 4 ∧ u = .int .i64 (i : Int) ∧ Hid (M.l = N.l ∧ ∀ j, j < i → M.c j = N.c j) ∧ Hid (RowAt wr w.heap.size 29 (rowOf 85 (nF N))) ∧ Hid (RowAt wr (w.heap.size + 1) 37 (rowOf 85 (nF noNod))) ∧ Hid (RowAt wr (w.heap.size + 1 + 1) 37 (rowOf 85 (nF M))) ∧ Hid (Below w.heap.size w wr)) (fun u _ => 4 - (intOf u).toNat)
  case atStart => exact ⟨0, ⟨N.l, fun _ => noChd⟩, by decide, rfl, ⟨rfl, fun j hj => by omega⟩, r1', r2', r3, b3⟩
  case round =>
    clear r1' r2' r3 b3
    obtain ⟨i, M, hi, rfl, hm, r1, r2, r3, bb⟩ := hrel
    by_cases hi4 : i < 4
    · have l0 : (i : Int) < 4 := by omega
      have f3 := r3.out
      have hm2 := Lib.hid (its_fill N M i hm.out)
      have b4 := Lib.hid (below_setRow' bb.out (by omega : w.heap.size ≤ w.heap.size + 1 + 1) (rowOf 85 (laidV (nF M) (chF (N.c i)) (1 + i * 21) 21)))
      have s1 := Lib.hid (r1.out.setRowOther (w.heap.size + 1 + 1) (rowOf 85 (laidV (nF M) (chF (N.c i)) (1 + i * 21) 21)) (by omega))
      have s2 := Lib.hid (r2.out.setRowOther (w.heap.size + 1 + 1) (rowOf 85 (laidV (nF M) (chF (N.c i)) (1 + i * 21) 21)) (by omega))
      have s3 := Lib.hid ((r3.out.setRow (rowOf 85 (laidV (nF M) (chF (N.c i)) (1 + i * 21) 21))).congr (nF_set M i (N.c i)))
      have f1 := r1.out
      clear hm r2 r3 bb
      go_wp2_with (first | (refine wpList_load_at rfl 26 _ rfl w.heap.size (1 + i * 21) rfl 29 _ _ 21 (chF (N.c i)) f1 (fun j hj => by rw [rowOf_get _ _ _ (by omega), nF_at _ _ _ hj]) Try.underlying26 rfl infoChd ?_) | (refine wpList_store_at rfl 34 _ _ rfl (w.heap.size + 1 + 1) (1 + i * 21) 85 21 _ (chF (N.c i)) rfl rfl 37 f3 infoChdRef (rowOf_oneC (chF_one _)) (by omega) ?_))
      go_roundw
      case rel => exact ⟨i + 1, M.put i (N.c i), by omega, by go_num, hm2, s1, s2, s3, b4⟩
      case measure => simp [intOf]; omega
    · have ei : i = 4 := by omega
      subst ei
      have l0 : ¬ ((4 : Nat) : Int) < 4 := by omega
      have ef := its_full hm.out
      rw [ef] at r3
      go_wp2_with (first | (refine wpList_load_row rfl 37 _ rfl (w.heap.size + 1 + 1) rfl 37 _ (0, 0) _ r3.out Try.underlying37 rfl (infoNodRef' _) ?_) | (refine wpList_store_row rfl 37 _ _ rfl (w.heap.size + 1) (rowOf 85 (nF N)) rfl rfl 37 _ r2.out (infoNodRef' _) (by simp only [rowOf_size]) (nF_all' _) ?_))
      refine bodyPost_ret (v := .agg (rowOf 85 (nF N))) ?_ rfl ⟨rfl, below_setRow' bb.out (by omega) _⟩
      exact results_row_solo Try.results12 _ _ (w.heap.size + 1) 37 (rowOf 85 (nF N)) (0, 0) _ rfl (r2.out.setRow _) Try.underlying37 rfl (infoNodRef' _)

end Go.Proofs.Ytapebaoajknepaa
