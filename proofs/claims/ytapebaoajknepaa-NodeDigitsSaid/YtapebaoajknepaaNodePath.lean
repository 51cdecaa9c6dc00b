/-
  Contracts: Path, both sides.
-/
import Derived.Test.YtapebaoajknepaaNodeRefMay
import Derived.Test.YtapebaoajknepaaNodeAlloc
namespace Go.Proofs.Ytapebaoajknepaa
open Go.RowKit
set_option linter.unusedVariables false

/-- A digit of a number, to the base four. -/
def dig (n k : Nat) : Nat := n / 4 ^ (3 - k) % 4
def digF (n : Nat) : Nat → Value := fun k => .int .i64 (dig n k : Nat)
def zer4 : Nat → Value := fun _ => .int .i64 0
theorem digF_all (n : Nat) : (rowOf 4 (digF n)).all (·.oneCell') = true := rowOf_oneC fun _ => rfl
theorem zer4_all : (rowOf 4 zer4).all (·.oneCell') = true := rowOf_oneC fun _ => rfl
theorem info4 (f : Nat → Value) : (Try.prog.info? 47).map (·.size) = some (rowOf 4 f).size := by rw [rowOf_size]; kernel_rfl
theorem run_alloc4 {o : Oper} {a : Act} (ho : o.op = .alloc 47) (w : World) : (execOp a.eval o).run Try.prog w = .ok (.value (.pointer (some ⟨w.heap.size, 0, none⟩))) (w.alloc (.cells (rowOf 4 zer4) 47)) := by
  unfold execOp
  rw [ho]
  kernel_rfl
/-- Path's answers. -/
def pathF (z : Int) : Nat → Value := if (decide (0 ≤ z) && decide (z < 256)) = true then digF z.toNat else zer4
def pathE (z : Int) : Int := if (decide (0 ≤ z) && decide (z < 256)) = true then 0 else 1
/-- The digits behind place j are laid. -/
def digU (n j : Nat) : Nat → Value := fun k => if k < j then .int .i64 0 else .int .i64 (dig n k : Nat)
theorem digU_set (n j : Nat) (hj : j < 4) : (rowOf 4 (digU n (j + 1))).setIfInBounds j (.int .i64 (dig n j : Nat)) = rowOf 4 (digU n j) := by
  rw [rowOf_set]
  refine rowOf_congr fun k hk => ?_
  unfold digU
  by_cases h : k = j
  · subst h
    rw [if_pos rfl, if_neg (by omega)]
  · rw [if_neg h]
    by_cases h2 : k < j
    · rw [if_pos (by omega), if_pos h2]
    · rw [if_neg (by omega), if_neg h2]

set_option maxHeartbeats 4000000 in
set_option maxRecDepth 8000 in
theorem path_any (z : Int) (w : World) :
    Calls Try.prog 20 #[.int .i64 z] w fun e w' => e = .returned (.tuple #[.agg (rowOf 4 (pathF z)), .int .i64 (pathE z)]) ∧ Below w.heap.size w w' := by
  have b0 := Lib.hid ((Below.refl _ w).alloc (Nat.le_refl _) (.cells (rowOf 4 zer4) 47))
  have r0 := Lib.hid (RowAt.new w 47 (rowOf 4 zer4))
  cases hz : (decide (0 ≤ z) && decide (z < 256)) with
  | false =>
    have em : Hid (pathF z = zer4 ∧ pathE z = 1) := by unfold Hid pathF pathE; rw [hz]; exact ⟨rfl, rfl⟩
    have K : Hid ((decide (0 ≤ z) && decide (z < 256)) = false) := hz
    clear hz
    go_enter Try.func20, Try.ntmps20
    go_wp2_with (refine wpList_new rfl (run_alloc4 rfl _) ?_)
    refine (isBelow_any z 256 _).mono ?_
    rintro e w1 ⟨rfl, rfl⟩
    rw [K.out]
    go_wp2_with (first | (refine wpList_buildTo rfl 47 _ rfl _ rfl (rowOf 4 zer4) (by kernel_rfl) ?_) | (refine wpList_store_row rfl 47 _ _ rfl w.heap.size (rowOf 4 zer4) rfl rfl 47 (rowOf 4 zer4) r0.out (info4 _) rfl zer4_all ?_))
    refine bodyPost_ret (v := .tuple #[.agg (rowOf 4 zer4), .int .i64 1]) ?_ rfl ⟨by rw [em.out.1, em.out.2], below_setRow' b0.out (Nat.le_refl _) _⟩
    exact results_row_one Try.results20 _ _ w.heap.size 47 (rowOf 4 zer4) (0, 0) _ rfl (r0.out.setRow _) Try.underlying47 rfl (info4 _)
  | true =>
    obtain ⟨n, rfl, hn⟩ : ∃ n : Nat, z = (n : Int) ∧ n < 256 := ⟨z.toNat, by simp at hz; omega, by simp at hz; omega⟩
    have em : Hid (pathF (n : Int) = digF n ∧ pathE (n : Int) = 0) := by unfold Hid pathF pathE; rw [hz, Int.toNat_natCast]; exact ⟨rfl, rfl⟩
    have K : Hid ((decide ((0 : Int) ≤ (n : Int)) && decide ((n : Int) < 256)) = true) := hz
    clear hz
    go_enter Try.func20, Try.ntmps20
    go_wp2_with (refine wpList_new rfl (run_alloc4 rfl _) ?_)
    refine (isBelow_any (n : Int) 256 _).mono ?_
    rintro e w1 ⟨rfl, rfl⟩
    rw [K.out]
    have b1 := Lib.hid (b0.out.alloc b0.out.size (.cells (rowOf 4 zer4) 47))
    have r1 := Lib.hid (r0.out.alloc (.cells (rowOf 4 zer4) 47))
    have r2 : Hid (RowAt ((w.alloc (.cells (rowOf 4 zer4) 47)).alloc (.cells (rowOf 4 zer4) 47)) (w.heap.size + 1) 47 (rowOf 4 (digU n 4))) := by
      have := RowAt.new (w.alloc (.cells (rowOf 4 zer4) 47)) 47 (rowOf 4 zer4)
      rw [World.size_alloc] at this
      exact this.congr (rowOf_congr fun k hk => (if_pos hk).symm)
    clear b0 r0
    go_wp2_with (refine wpList_new rfl (run_alloc4 rfl _) ?_)
    generalize (w.alloc (.cells (rowOf 4 zer4) 47)).alloc (.cells (rowOf 4 zer4) 47) = w2 at *
    go_loopw [0, 5] (fun u v wr => ∃ j m : Nat, j ≤ 4 ∧ m < 256 ∧ v = .int .i64 ((j : Int) - 1) ∧ u = .int .i64 (m : Int) ∧ Hid (m = n / 4 ^ (4 - j)) ∧ Hid (RowAt wr w.heap.size 47 (rowOf 4 zer4)) ∧ Hid (RowAt wr (w.heap.size + 1) 47 (rowOf 4 (digU n j))) ∧ Hid (Below w.heap.size w wr)) (fun _ v _ => (intOf v + 1).toNat)
    case atStart => exact ⟨4, n, by decide, hn, rfl, rfl, by unfold Hid; simp, r1, r2, b1⟩
    case round =>
      clear b1 r1 r2
      obtain ⟨j, m, hj, hm6, rfl, rfl, hm, r1, r2, bb⟩ := hrel
      by_cases hj0 : 1 ≤ j
      · obtain ⟨i, rfl⟩ : ∃ i, j = i + 1 := ⟨j - 1, by omega⟩
        have ej : ((i + 1 : Nat) : Int) - 1 = (i : Int) := by omega
        have l0 : (0 : Int) ≤ (i : Int) := by omega
        have l1 : (i : Int) < 4 := by omega
        have hdig : m % 4 = dig n i := by unfold dig; rw [hm.out, show 4 - (i + 1) = 3 - i by omega]
        have e1 : (m : Int).tmod 4 = ((dig n i : Nat) : Int) := by rw [Int.tmod_eq_emod_of_nonneg (by omega), ← hdig]; omega
        have e2 : (m : Int).tdiv 4 = ((m / 4 : Nat) : Int) := by rw [Int.tdiv_eq_ediv_of_nonneg (by omega)]; omega
        have hm2 : Hid (m / 4 = n / 4 ^ (4 - i)) := by unfold Hid; rw [hm.out, Nat.div_div_eq_div_mul, ← Nat.pow_succ, show (4 - (i + 1)).succ = 4 - i by omega]
        have cd : wr.cell? ⟨w.heap.size + 1, i, none⟩ = some (digU n (i + 1) i) := r2.out.cell i (by omega)
        have fd := r2.out.free i
        have r2n : Hid (RowAt (wr.setCell ⟨w.heap.size + 1, i, none⟩ (.int .i64 (dig n i : Nat))) (w.heap.size + 1) 47 (rowOf 4 (digU n i))) := (r2.out.set i (.int .i64 (dig n i : Nat))).congr (digU_set n i (by omega))
        have r1n := Lib.hid (r1.out.setOther ⟨w.heap.size + 1, i, none⟩ (.int .i64 (dig n i : Nat)) (by show w.heap.size ≠ w.heap.size + 1; omega))
        have bn := Lib.hid (bb.out.setCell (p := ⟨w.heap.size + 1, i, none⟩) (by show w.heap.size ≤ w.heap.size + 1; omega) (.int .i64 (dig n i : Nat)))
        have q1 : (m : Int) % 4 = ((dig n i : Nat) : Int) := by omega
        have q2 : (m : Int) / 4 = ((m / 4 : Nat) : Int) := by omega
        clear hm hdig r1 r2 bb
        rw [ej]
        generalize dig n i = d at *
        obtain ⟨m2, hm3⟩ : ∃ m2, m / 4 = m2 := ⟨_, rfl⟩
        have hm7 : m2 < 256 := by omega
        rw [hm3] at e2 q2 hm2
        clear hm3
        go_wp2
        go_roundw
        case rel => exact ⟨i, m2, by omega, hm7, rfl, rfl, hm2, r1n, r2n, bn⟩
        case measure => simp [intOf]
      · have ej : j = 0 := by omega
        subst ej
        have ee : rowOf 4 (digU n 0) = rowOf 4 (digF n) := rowOf_congr fun k hk => if_neg (by omega)
        rw [ee] at r2
        go_wp2_with (first | (refine wpList_load_row rfl 47 _ rfl (w.heap.size + 1) rfl 47 _ (0, 0) _ r2.out Try.underlying47 rfl (info4 _) ?_) | (refine wpList_store_row rfl 47 _ _ rfl w.heap.size (rowOf 4 (digF n)) rfl rfl 47 (rowOf 4 zer4) r1.out (info4 _) (by rw [rowOf_size, rowOf_size]) (digF_all n) ?_))
        refine bodyPost_ret (v := .tuple #[.agg (rowOf 4 (digF n)), .int .i64 0]) ?_ rfl ⟨by rw [em.out.1, em.out.2], below_setRow' bb.out (Nat.le_refl _) _⟩
        exact results_row_one Try.results20 _ _ w.heap.size 47 (rowOf 4 (digF n)) (0, 0) _ rfl (r1.out.setRow _) Try.underlying47 rfl (info4 _)

theorem dig_row (n : Nat) (hn : n < 256) : rowOf 4 (digF n) = #[.int .i64 ((n / 64 : Nat) : Int), .int .i64 ((n / 16 % 4 : Nat) : Int), .int .i64 ((n / 4 % 4 : Nat) : Int), .int .i64 ((n % 4 : Nat) : Int)] := by
  show #[digF n 0, digF n 1, digF n 2, digF n 3] = _
  unfold digF dig
  have h : n / 4 ^ (3 - 0) % 4 = n / 64 := by
    show n / 64 % 4 = n / 64
    omega
  have h3 : n / 4 ^ (3 - 3) % 4 = n % 4 := by
    show n / 1 % 4 = n % 4
    rw [Nat.div_one]
  rw [h, h3]

set_option maxHeartbeats 4000000 in
set_option maxRecDepth 8000 in
theorem refPath_any (z : Int) (w : World) :
    Calls Try.prog 21 #[.int .i64 z] w fun e w' => e = .returned (.tuple #[.agg (rowOf 4 (pathF z)), .int .i64 (pathE z)]) ∧ Below w.heap.size w w' := by
  have b0 := Lib.hid ((Below.refl _ w).alloc (Nat.le_refl _) (.cells (rowOf 4 zer4) 47))
  have r0 := Lib.hid (RowAt.new w 47 (rowOf 4 zer4))
  cases hz : (decide (0 ≤ z) && decide (z < 256)) with
  | false =>
    have em : Hid (pathF z = zer4 ∧ pathE z = 1) := by unfold Hid pathF pathE; rw [hz]; exact ⟨rfl, rfl⟩
    have hzz : z < 0 ∨ z > 255 := by simp at hz; omega
    clear hz
    rcases hzz with h1 | h1
    · have d1 : decide (z < 0) = true := decide_eq_true h1
      go_enter Try.func21, Try.ntmps21
      go_wp2_with (first | (refine wpList_new rfl (run_alloc4 rfl _) ?_) | (refine wpList_buildTo rfl 47 _ rfl _ rfl (rowOf 4 zer4) (by kernel_rfl) ?_) | (refine wpList_store_row rfl 47 _ _ rfl w.heap.size (rowOf 4 zer4) rfl rfl 47 (rowOf 4 zer4) r0.out (info4 _) rfl zer4_all ?_))
      refine bodyPost_ret (v := .tuple #[.agg (rowOf 4 zer4), .int .i64 1]) ?_ rfl ⟨by rw [em.out.1, em.out.2], below_setRow' b0.out (Nat.le_refl _) _⟩
      exact results_row_one Try.results21 _ _ w.heap.size 47 (rowOf 4 zer4) (0, 0) _ rfl (r0.out.setRow _) Try.underlying47 rfl (info4 _)
    · have d1 : decide (z < 0) = false := decide_eq_false (by omega)
      have d2 : decide (z > 255) = true := decide_eq_true h1
      have d3 : decide (255 < z) = true := decide_eq_true h1
      go_enter Try.func21, Try.ntmps21
      go_wp2_with (first | (refine wpList_new rfl (run_alloc4 rfl _) ?_) | (refine wpList_buildTo rfl 47 _ rfl _ rfl (rowOf 4 zer4) (by kernel_rfl) ?_) | (refine wpList_store_row rfl 47 _ _ rfl w.heap.size (rowOf 4 zer4) rfl rfl 47 (rowOf 4 zer4) r0.out (info4 _) rfl zer4_all ?_))
      refine bodyPost_ret (v := .tuple #[.agg (rowOf 4 zer4), .int .i64 1]) ?_ rfl ⟨by rw [em.out.1, em.out.2], below_setRow' b0.out (Nat.le_refl _) _⟩
      exact results_row_one Try.results21 _ _ w.heap.size 47 (rowOf 4 zer4) (0, 0) _ rfl (r0.out.setRow _) Try.underlying47 rfl (info4 _)
  | true =>
    obtain ⟨n, rfl, hn⟩ : ∃ n : Nat, z = (n : Int) ∧ n < 256 := ⟨z.toNat, by simp at hz; omega, by simp at hz; omega⟩
    have em : Hid (pathF (n : Int) = digF n ∧ pathE (n : Int) = 0) := by unfold Hid pathF pathE; rw [hz, Int.toNat_natCast]; exact ⟨rfl, rfl⟩
    have er := Lib.hid (dig_row n hn)
    have D1 : decide ((n : Int) < 0) = false := decide_eq_false (by omega)
    have D2 : decide ((n : Int) > 255) = false := decide_eq_false (by omega)
    have D3 : decide ((255 : Int) < (n : Int)) = false := decide_eq_false (by omega)
    have e64 : (n : Int).tdiv 64 = ((n / 64 : Nat) : Int) := by rw [Int.tdiv_eq_ediv_of_nonneg (by omega)]; omega
    have e16 : (n : Int).tdiv 16 = ((n / 16 : Nat) : Int) := by rw [Int.tdiv_eq_ediv_of_nonneg (by omega)]; omega
    have e4 : (n : Int).tdiv 4 = ((n / 4 : Nat) : Int) := by rw [Int.tdiv_eq_ediv_of_nonneg (by omega)]; omega
    have m16 : ((n / 16 : Nat) : Int).tmod 4 = ((n / 16 % 4 : Nat) : Int) := by rw [Int.tmod_eq_emod_of_nonneg (by omega)]; omega
    have m4 : ((n / 4 : Nat) : Int).tmod 4 = ((n / 4 % 4 : Nat) : Int) := by rw [Int.tmod_eq_emod_of_nonneg (by omega)]; omega
    have m1 : (n : Int).tmod 4 = ((n % 4 : Nat) : Int) := by rw [Int.tmod_eq_emod_of_nonneg (by omega)]; omega
    have f64 : (n : Int) / 64 = ((n / 64 : Nat) : Int) := by omega
    have f16 : (n : Int) / 16 = ((n / 16 : Nat) : Int) := by omega
    have f4 : (n : Int) / 4 = ((n / 4 : Nat) : Int) := by omega
    have g16 : ((n / 16 : Nat) : Int) % 4 = ((n / 16 % 4 : Nat) : Int) := by omega
    have g4 : ((n / 4 : Nat) : Int) % 4 = ((n / 4 % 4 : Nat) : Int) := by omega
    have g1 : (n : Int) % 4 = ((n % 4 : Nat) : Int) := by omega
    clear hz
    generalize n / 16 % 4 = c2 at *
    generalize n / 4 % 4 = c3 at *
    generalize n % 4 = c4 at *
    generalize n / 64 = c1 at *
    generalize n / 16 = u2 at *
    generalize n / 4 = u3 at *
    go_enter Try.func21, Try.ntmps21
    go_wp2_with (first | (refine wpList_new rfl (run_alloc4 rfl _) ?_) | (refine wpList_buildTo rfl 47 _ rfl _ rfl #[.int .i64 (c1 : Int), .int .i64 (c2 : Int), .int .i64 (c3 : Int), .int .i64 (c4 : Int)] (by kernel_rfl) ?_) | (refine wpList_store_row rfl 47 _ _ rfl w.heap.size #[.int .i64 (c1 : Int), .int .i64 (c2 : Int), .int .i64 (c3 : Int), .int .i64 (c4 : Int)] rfl rfl 47 (rowOf 4 zer4) r0.out (by kernel_rfl) rfl (by simp [Value.oneCell']) ?_))
    refine bodyPost_ret (v := .tuple #[.agg #[.int .i64 (c1 : Int), .int .i64 (c2 : Int), .int .i64 (c3 : Int), .int .i64 (c4 : Int)], .int .i64 0]) ?_ rfl ⟨by rw [em.out.1, em.out.2, er.out], below_setRow' b0.out (Nat.le_refl _) _⟩
    exact results_row_one Try.results21 _ _ w.heap.size 47 #[.int .i64 (c1 : Int), .int .i64 (c2 : Int), .int .i64 (c3 : Int), .int .i64 (c4 : Int)] (0, 0) _ rfl (r0.out.setRow _) Try.underlying47 rfl (by kernel_rfl)

end Go.Proofs.Ytapebaoajknepaa
