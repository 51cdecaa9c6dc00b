/-
  Contracts: With, both sides.
-/
import Derived.Test.YtapebaoajknepaaNodeRefMay
import Derived.Test.YtapebaoajknepaaNodeAlloc
namespace Go.Proofs.Ytapebaoajknepaa
open Go.RowKit
set_option linter.unusedVariables false

/-- With's answers. -/
def withB (N : Nod) (z : Int) (c : Chd) : Bool := (decide (0 ≤ z) && decide (z < 4)) && mayN (N.put z.toNat c)
def withV (N : Nod) (z : Int) (c : Chd) : Nod := if withB N z c = true then N.put z.toNat c else noNod
def withE (N : Nod) (z : Int) (c : Chd) : Int := if withB N z c = true then 0 else 1
theorem nF_all (N : Nod) : (rowOf 85 (nF N)).all (·.oneCell') = true := rowOf_oneC (nF_one N)
theorem chF_all (c : Chd) : (rowOf 21 (chF c)).all (·.oneCell') = true := rowOf_oneC (chF_one c)

set_option maxHeartbeats 4000000 in
set_option maxRecDepth 8000 in
theorem with_any (N : Nod) (z : Int) (c : Chd) (w : World) :
    Calls Try.prog 22 #[.agg (rowOf 85 (nF N)), .int .i64 z, .agg (rowOf 21 (chF c))] w fun e w' => e = .returned (.tuple #[.agg (rowOf 85 (nF (withV N z c))), .int .i64 (withE N z c)]) ∧ Below w.heap.size w w' := by
  have b3 := Lib.hid ((((Below.refl _ w).alloc (Nat.le_refl _) (.cells (rowOf 85 (nF N)) 29)).alloc (by simp) (.cells (rowOf 21 (chF c)) 26)).alloc (by simp; omega) (.cells (rowOf 85 (nF noNod)) 29))
  have r0 : Hid (RowAt (((w.alloc (.cells (rowOf 85 (nF N)) 29)).alloc (.cells (rowOf 21 (chF c)) 26)).alloc (.cells (rowOf 85 (nF noNod)) 29)) w.heap.size 29 (rowOf 85 (nF N))) := ((RowAt.new _ _ _).alloc _).alloc _
  have r1 : Hid (RowAt (((w.alloc (.cells (rowOf 85 (nF N)) 29)).alloc (.cells (rowOf 21 (chF c)) 26)).alloc (.cells (rowOf 85 (nF noNod)) 29)) (w.heap.size + 1) 26 (rowOf 21 (chF c))) := row_new1 _ _ _ _ _
  have r6 : Hid (RowAt (((w.alloc (.cells (rowOf 85 (nF N)) 29)).alloc (.cells (rowOf 21 (chF c)) 26)).alloc (.cells (rowOf 85 (nF noNod)) 29)) (w.heap.size + 1 + 1) 29 (rowOf 85 (nF noNod))) := row_new2 _ _ _ _ _
  cases hz : (decide (0 ≤ z) && decide (z < 4)) with
  | false =>
    have em : Hid (withV N z c = noNod ∧ withE N z c = 1) := by unfold Hid withV withE withB; rw [hz]; exact ⟨rfl, rfl⟩
    have K : Hid ((decide (0 ≤ z) && decide (z < 4)) = false) := hz
    clear hz
    go_enter Try.func22, Try.ntmps22
    go_wp2_with (refine wpList_new rfl (run_allocNod rfl _) ?_)
    refine (isBelow_any z 4 _).mono ?_
    rintro e w1 ⟨rfl, rfl⟩
    rw [K.out]
    go_wp2_with (first | (refine wpList_buildTo rfl 29 _ rfl _ rfl (rowOf 85 (nF noNod)) (by kernel_rfl) ?_) | (refine wpList_store_row rfl 29 _ _ rfl (w.heap.size + 1 + 1) (rowOf 85 (nF noNod)) rfl rfl 29 (rowOf 85 (nF noNod)) r6.out (infoNod' _) rfl (nF_all _) ?_))
    refine bodyPost_ret (v := .tuple #[.agg (rowOf 85 (nF noNod)), .int .i64 1]) ?_ rfl ⟨by rw [em.out.1, em.out.2], below_setRow' b3.out (by omega) _⟩
    exact results_row_one Try.results22 _ _ (w.heap.size + 1 + 1) 29 (rowOf 85 (nF noNod)) (0, 0) _ rfl (r6.out.setRow _) Try.underlying29 rfl (infoNod' _)
  | true =>
    obtain ⟨i, rfl, hi4⟩ : ∃ i : Nat, z = (i : Int) ∧ i < 4 := ⟨z.toNat, by simp at hz; omega, by simp at hz; omega⟩
    have l0 : (i : Int) < 4 := by omega
    have M := Lib.hid (fun W => may_any (N.put i c) W)
    have eV : withB N (i : Int) c = mayN (N.put i c) := by unfold withB; rw [hz, Bool.true_and, Int.toNat_natCast]
    have K : Hid ((decide ((0 : Int) ≤ (i : Int)) && decide ((i : Int) < 4)) = true) := hz
    clear hz
    have D1 : ¬ (i : Int) < 0 := by omega
    have D2 : ¬ (i : Int) > 3 := by omega
    go_enter Try.func22, Try.ntmps22
    go_wp2_with (refine wpList_new rfl (run_allocNod rfl _) ?_)
    refine (isBelow_any (i : Int) 4 _).mono ?_
    rintro e w1 ⟨rfl, rfl⟩
    rw [K.out]
    go_wp2_with (first | (refine wpList_new rfl (run_allocNod rfl _) ?_) | (refine wpList_load_row rfl 26 _ rfl (w.heap.size + 1) rfl 26 _ (0, 0) _ r1.out Try.underlying26 rfl (infoChd' _) ?_) | ((refine wpList_store_at rfl 26 _ _ rfl w.heap.size (1 + i * 21) 85 21 (nF N) (chF c) rfl rfl 29 r0.out infoChd (chF_all _) (by omega) ?_); rw [nF_set]; refine Hid.out ?_))
    unfold Hid
    generalize ((w.alloc (.cells (rowOf 85 (nF N)) 29)).alloc (.cells (rowOf 21 (chF c)) 26)).alloc (.cells (rowOf 85 (nF noNod)) 29) = w3 at *
    have e3 : w.heap.size ≠ w.heap.size + 1 + 1 := by omega
    have b4 := Lib.hid (below_setRow' b3.out (Nat.le_refl _) (rowOf 85 (nF (N.put i c))))
    replace r6 := Lib.hid (r6.out.setRowOther w.heap.size (rowOf 85 (nF (N.put i c))) (by omega))
    replace r0 := Lib.hid (r0.out.setRow (rowOf 85 (nF (N.put i c))))
    clear b3 r1
    generalize w3.setRow w.heap.size (rowOf 85 (nF (N.put i c))) = w4 at *
    cases hm : mayN (N.put i c) with
    | false =>
      have em : Hid (withV N (i : Int) c = noNod ∧ withE N (i : Int) c = 1) := by unfold Hid withV withE; rw [eV, hm]; exact ⟨rfl, rfl⟩
      replace M := Lib.hid (M.out w4)
      rw [hm] at M
      clear hm eV
      go_wp2_with (refine wpList_load_row rfl 29 _ rfl w.heap.size rfl 29 _ (0, 0) _ r0.out Try.underlying29 rfl (infoNod' _) ?_)
      refine M.out.mono ?_
      rintro e w5 ⟨rfl, b5⟩
      replace r6 := Lib.hid (r6.out.below b5 r6.out.lt)
      replace b4 := Lib.hid (b4.out.trans (b5.mono b4.out.size))
      clear r0 b5 M
      go_wp2_with (first | (refine wpList_buildTo rfl 29 _ rfl _ rfl (rowOf 85 (nF noNod)) (by kernel_rfl) ?_) | (refine wpList_store_row rfl 29 _ _ rfl (w.heap.size + 1 + 1) (rowOf 85 (nF noNod)) rfl rfl 29 (rowOf 85 (nF noNod)) r6.out (infoNod' _) rfl (nF_all _) ?_))
      refine bodyPost_ret (v := .tuple #[.agg (rowOf 85 (nF noNod)), .int .i64 1]) ?_ rfl ⟨by rw [em.out.1, em.out.2], below_setRow' b4.out (by omega) _⟩
      exact results_row_one Try.results22 _ _ (w.heap.size + 1 + 1) 29 (rowOf 85 (nF noNod)) (0, 0) _ rfl (r6.out.setRow _) Try.underlying29 rfl (infoNod' _)
    | true =>
      have em : Hid (withV N (i : Int) c = N.put i c ∧ withE N (i : Int) c = 0) := by unfold Hid withV withE; rw [eV, hm, Int.toNat_natCast]; exact ⟨rfl, rfl⟩
      replace M := Lib.hid (M.out w4)
      rw [hm] at M
      clear hm eV
      go_wp2_with (refine wpList_load_row rfl 29 _ rfl w.heap.size rfl 29 _ (0, 0) _ r0.out Try.underlying29 rfl (infoNod' _) ?_)
      refine M.out.mono ?_
      rintro e w5 ⟨rfl, b5⟩
      replace r6 := Lib.hid (r6.out.below b5 r6.out.lt)
      replace r0 := Lib.hid (r0.out.below b5 r0.out.lt)
      replace b4 := Lib.hid (b4.out.trans (b5.mono b4.out.size))
      clear b5 M
      go_wp2_with (first | (refine wpList_load_row rfl 29 _ rfl w.heap.size rfl 29 _ (0, 0) _ r0.out Try.underlying29 rfl (infoNod' _) ?_) | (refine wpList_store_row rfl 29 _ _ rfl (w.heap.size + 1 + 1) (rowOf 85 (nF (N.put i c))) rfl rfl 29 _ r6.out (infoNod' _) (by rw [rowOf_size, rowOf_size]) (nF_all _) ?_))
      refine bodyPost_ret (v := .tuple #[.agg (rowOf 85 (nF (N.put i c))), .int .i64 0]) ?_ rfl ⟨by rw [em.out.1, em.out.2], below_setRow' b4.out (by omega) _⟩
      exact results_row_one Try.results22 _ _ (w.heap.size + 1 + 1) 29 (rowOf 85 (nF (N.put i c))) (0, 0) _ rfl (r6.out.setRow _) Try.underlying29 rfl (infoNod' _)

set_option maxHeartbeats 4000000 in
set_option maxRecDepth 8000 in
theorem refWith_any (N : Nod) (z : Int) (c : Chd) (w : World) :
    Calls Try.prog 23 #[.agg (rowOf 85 (nF N)), .int .i64 z, .agg (rowOf 21 (chF c))] w fun e w' => e = .returned (.tuple #[.agg (rowOf 85 (nF (withV N z c))), .int .i64 (withE N z c)]) ∧ Below w.heap.size w w' := by
  have b3 := Lib.hid ((((Below.refl _ w).alloc (Nat.le_refl _) (.cells (rowOf 85 (nF N)) 37)).alloc (by simp) (.cells (rowOf 21 (chF c)) 34)).alloc (by simp; omega) (.cells (rowOf 85 (nF noNod)) 37))
  have r0 : Hid (RowAt (((w.alloc (.cells (rowOf 85 (nF N)) 37)).alloc (.cells (rowOf 21 (chF c)) 34)).alloc (.cells (rowOf 85 (nF noNod)) 37)) w.heap.size 37 (rowOf 85 (nF N))) := ((RowAt.new _ _ _).alloc _).alloc _
  have r1 : Hid (RowAt (((w.alloc (.cells (rowOf 85 (nF N)) 37)).alloc (.cells (rowOf 21 (chF c)) 34)).alloc (.cells (rowOf 85 (nF noNod)) 37)) (w.heap.size + 1) 34 (rowOf 21 (chF c))) := row_new1 _ _ _ _ _
  have r6 : Hid (RowAt (((w.alloc (.cells (rowOf 85 (nF N)) 37)).alloc (.cells (rowOf 21 (chF c)) 34)).alloc (.cells (rowOf 85 (nF noNod)) 37)) (w.heap.size + 1 + 1) 37 (rowOf 85 (nF noNod))) := row_new2 _ _ _ _ _
  cases hz : (decide (0 ≤ z) && decide (z < 4)) with
  | false =>
    have em : Hid (withV N z c = noNod ∧ withE N z c = 1) := by unfold Hid withV withE withB; rw [hz]; exact ⟨rfl, rfl⟩
    have hzz : z < 0 ∨ z > 3 := by simp at hz; omega
    clear hz
    rcases hzz with h1 | h1
    · have d1 : decide (z < 0) = true := decide_eq_true h1
      go_enter Try.func23, Try.ntmps23
      go_wp2_with (first | (refine wpList_new rfl (run_allocNodRef rfl _) ?_) | (refine wpList_buildTo rfl 37 _ rfl _ rfl (rowOf 85 (nF noNod)) (by kernel_rfl) ?_) | (refine wpList_store_row rfl 37 _ _ rfl (w.heap.size + 1 + 1) (rowOf 85 (nF noNod)) rfl rfl 37 (rowOf 85 (nF noNod)) r6.out (infoNodRef' _) rfl (nF_all _) ?_))
      refine bodyPost_ret (v := .tuple #[.agg (rowOf 85 (nF noNod)), .int .i64 1]) ?_ rfl ⟨by rw [em.out.1, em.out.2], below_setRow' b3.out (by omega) _⟩
      exact results_row_one Try.results23 _ _ (w.heap.size + 1 + 1) 37 (rowOf 85 (nF noNod)) (0, 0) _ rfl (r6.out.setRow _) Try.underlying37 rfl (infoNodRef' _)
    · have d1 : decide (z < 0) = false := decide_eq_false (by omega)
      have d2 : decide (z > 3) = true := decide_eq_true h1
      have d3 : decide (3 < z) = true := decide_eq_true h1
      go_enter Try.func23, Try.ntmps23
      go_wp2_with (first | (refine wpList_new rfl (run_allocNodRef rfl _) ?_) | (refine wpList_buildTo rfl 37 _ rfl _ rfl (rowOf 85 (nF noNod)) (by kernel_rfl) ?_) | (refine wpList_store_row rfl 37 _ _ rfl (w.heap.size + 1 + 1) (rowOf 85 (nF noNod)) rfl rfl 37 (rowOf 85 (nF noNod)) r6.out (infoNodRef' _) rfl (nF_all _) ?_))
      refine bodyPost_ret (v := .tuple #[.agg (rowOf 85 (nF noNod)), .int .i64 1]) ?_ rfl ⟨by rw [em.out.1, em.out.2], below_setRow' b3.out (by omega) _⟩
      exact results_row_one Try.results23 _ _ (w.heap.size + 1 + 1) 37 (rowOf 85 (nF noNod)) (0, 0) _ rfl (r6.out.setRow _) Try.underlying37 rfl (infoNodRef' _)
  | true =>
    obtain ⟨i, rfl, hi4⟩ : ∃ i : Nat, z = (i : Int) ∧ i < 4 := ⟨z.toNat, by simp at hz; omega, by simp at hz; omega⟩
    have l0 : (i : Int) < 4 := by omega
    have M := Lib.hid (fun W => refMay_node (N.put i c) W)
    have eV : withB N (i : Int) c = mayN (N.put i c) := by unfold withB; rw [hz, Bool.true_and, Int.toNat_natCast]
    have K : Hid ((decide ((0 : Int) ≤ (i : Int)) && decide ((i : Int) < 4)) = true) := hz
    clear hz
    have D1 : ¬ (i : Int) < 0 := by omega
    have D2 : ¬ (i : Int) > 3 := by omega
    go_enter Try.func23, Try.ntmps23
    go_wp2_with (first | (refine wpList_new rfl (run_allocNodRef rfl _) ?_) | (refine wpList_load_row rfl 34 _ rfl (w.heap.size + 1) rfl 34 _ (0, 0) _ r1.out Try.underlying34 rfl (infoChdRef' _) ?_) | ((refine wpList_store_at rfl 34 _ _ rfl w.heap.size (1 + i * 21) 85 21 (nF N) (chF c) rfl rfl 37 r0.out infoChdRef (chF_all _) (by omega) ?_); rw [nF_set]; refine Hid.out ?_))
    unfold Hid
    generalize ((w.alloc (.cells (rowOf 85 (nF N)) 37)).alloc (.cells (rowOf 21 (chF c)) 34)).alloc (.cells (rowOf 85 (nF noNod)) 37) = w3 at *
    have e3 : w.heap.size ≠ w.heap.size + 1 + 1 := by omega
    have b4 := Lib.hid (below_setRow' b3.out (Nat.le_refl _) (rowOf 85 (nF (N.put i c))))
    replace r6 := Lib.hid (r6.out.setRowOther w.heap.size (rowOf 85 (nF (N.put i c))) (by omega))
    replace r0 := Lib.hid (r0.out.setRow (rowOf 85 (nF (N.put i c))))
    clear b3 r1
    generalize w3.setRow w.heap.size (rowOf 85 (nF (N.put i c))) = w4 at *
    cases hm : mayN (N.put i c) with
    | false =>
      have em : Hid (withV N (i : Int) c = noNod ∧ withE N (i : Int) c = 1) := by unfold Hid withV withE; rw [eV, hm]; exact ⟨rfl, rfl⟩
      replace M := Lib.hid (M.out w4)
      rw [hm] at M
      clear hm eV
      go_wp2_with (refine wpList_load_row rfl 37 _ rfl w.heap.size rfl 37 _ (0, 0) _ r0.out Try.underlying37 rfl (infoNodRef' _) ?_)
      refine M.out.mono ?_
      rintro e w5 ⟨rfl, b5⟩
      replace r6 := Lib.hid (r6.out.below b5 r6.out.lt)
      replace b4 := Lib.hid (b4.out.trans (b5.mono b4.out.size))
      clear r0 b5 M
      go_wp2_with (first | (refine wpList_buildTo rfl 37 _ rfl _ rfl (rowOf 85 (nF noNod)) (by kernel_rfl) ?_) | (refine wpList_store_row rfl 37 _ _ rfl (w.heap.size + 1 + 1) (rowOf 85 (nF noNod)) rfl rfl 37 (rowOf 85 (nF noNod)) r6.out (infoNodRef' _) rfl (nF_all _) ?_))
      refine bodyPost_ret (v := .tuple #[.agg (rowOf 85 (nF noNod)), .int .i64 1]) ?_ rfl ⟨by rw [em.out.1, em.out.2], below_setRow' b4.out (by omega) _⟩
      exact results_row_one Try.results23 _ _ (w.heap.size + 1 + 1) 37 (rowOf 85 (nF noNod)) (0, 0) _ rfl (r6.out.setRow _) Try.underlying37 rfl (infoNodRef' _)
    | true =>
      have em : Hid (withV N (i : Int) c = N.put i c ∧ withE N (i : Int) c = 0) := by unfold Hid withV withE; rw [eV, hm, Int.toNat_natCast]; exact ⟨rfl, rfl⟩
      replace M := Lib.hid (M.out w4)
      rw [hm] at M
      clear hm eV
      go_wp2_with (refine wpList_load_row rfl 37 _ rfl w.heap.size rfl 37 _ (0, 0) _ r0.out Try.underlying37 rfl (infoNodRef' _) ?_)
      refine M.out.mono ?_
      rintro e w5 ⟨rfl, b5⟩
      replace r6 := Lib.hid (r6.out.below b5 r6.out.lt)
      replace r0 := Lib.hid (r0.out.below b5 r0.out.lt)
      replace b4 := Lib.hid (b4.out.trans (b5.mono b4.out.size))
      clear b5 M
      go_wp2_with (first | (refine wpList_load_row rfl 37 _ rfl w.heap.size rfl 37 _ (0, 0) _ r0.out Try.underlying37 rfl (infoNodRef' _) ?_) | (refine wpList_store_row rfl 37 _ _ rfl (w.heap.size + 1 + 1) (rowOf 85 (nF (N.put i c))) rfl rfl 37 _ r6.out (infoNodRef' _) (by rw [rowOf_size, rowOf_size]) (nF_all _) ?_))
      refine bodyPost_ret (v := .tuple #[.agg (rowOf 85 (nF (N.put i c))), .int .i64 0]) ?_ rfl ⟨by rw [em.out.1, em.out.2], below_setRow' b4.out (by omega) _⟩
      exact results_row_one Try.results23 _ _ (w.heap.size + 1 + 1) 37 (rowOf 85 (nF (N.put i c))) (0, 0) _ rfl (r6.out.setRow _) Try.underlying37 rfl (infoNodRef' _)

end Go.Proofs.Ytapebaoajknepaa
