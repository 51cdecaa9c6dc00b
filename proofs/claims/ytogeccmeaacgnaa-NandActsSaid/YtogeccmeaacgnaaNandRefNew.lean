/-
  Contract: the document's New.
-/
import Derived.Test.YtogeccmeaacgnaaNandRefErase2
namespace Go.Proofs.Ytogeccmeaacgnaa
open Go.RowKit
set_option linter.unusedVariables false

set_option maxHeartbeats 2000000 in
set_option maxRecDepth 8000 in
theorem refNew_no1 (n m r : Int) (a : Option Addr) (nb cb : Nat) (w : World) (h1 : decide (n < 1) = true) :
    Calls Try.prog 11 #[.int .i64 n, .int .i64 m, .int .i64 r, .slice a nb cb] w fun e w' => e = .returned (.tuple #[.agg (rowOf 139 (refF 0 0 noneS noneM)), .bool false]) ∧ Below w.heap.size w w' := by
  have b0 : Below w.heap.size w (w.alloc (.cells (rowOf 139 (refF 0 0 noneS noneM)) 36)) := (Below.refl _ _).alloc (Nat.le_refl _) _
  have s0 := Lib.hid (RowAt.new w 36 (rowOf 139 (refF 0 0 noneS noneM)))
  go_enter Try.func11, Try.ntmps11
  go_wp2_with (first | (refine wpList_new rfl (run_allocChip rfl _) ?_; generalize w.alloc (.cells (rowOf 139 (refF 0 0 noneS noneM)) 36) = w1 at *) | (refine wpList_buildTo rfl 36 _ rfl _ rfl (rowOf 139 (refF 0 0 noneS noneM)) (by kernel_rfl) ?_) | (refine wpList_store_row rfl 36 _ _ rfl w.heap.size (rowOf 139 (refF 0 0 noneS noneM)) rfl rfl 36 (rowOf 139 (refF 0 0 noneS noneM)) s0.out (infoChip _) rfl (refF_all _ _ _ _) ?_))
  refine bodyPost_ret (v := .tuple #[.agg (rowOf 139 (refF 0 0 noneS noneM)), .bool false]) ?_ rfl ⟨rfl, below_setRow' b0 (Nat.le_refl _) _⟩
  exact results_row_one Try.results11 _ _ w.heap.size 36 (rowOf 139 (refF 0 0 noneS noneM)) (0, 0) _ rfl (s0.out.setRow _) Try.underlying36 rfl (infoChip _)

set_option maxHeartbeats 2000000 in
set_option maxRecDepth 8000 in
theorem refNew_no2 (n m r : Int) (a : Option Addr) (nb cb : Nat) (w : World) (h1 : decide (n < 1) = false) (h2 : decide (n > 64) = true) :
    Calls Try.prog 11 #[.int .i64 n, .int .i64 m, .int .i64 r, .slice a nb cb] w fun e w' => e = .returned (.tuple #[.agg (rowOf 139 (refF 0 0 noneS noneM)), .bool false]) ∧ Below w.heap.size w w' := by
  have b0 : Below w.heap.size w (w.alloc (.cells (rowOf 139 (refF 0 0 noneS noneM)) 36)) := (Below.refl _ _).alloc (Nat.le_refl _) _
  have s0 := Lib.hid (RowAt.new w 36 (rowOf 139 (refF 0 0 noneS noneM)))
  go_enter Try.func11, Try.ntmps11
  go_wp2_with (first | (refine wpList_new rfl (run_allocChip rfl _) ?_; generalize w.alloc (.cells (rowOf 139 (refF 0 0 noneS noneM)) 36) = w1 at *) | (refine wpList_buildTo rfl 36 _ rfl _ rfl (rowOf 139 (refF 0 0 noneS noneM)) (by kernel_rfl) ?_) | (refine wpList_store_row rfl 36 _ _ rfl w.heap.size (rowOf 139 (refF 0 0 noneS noneM)) rfl rfl 36 (rowOf 139 (refF 0 0 noneS noneM)) s0.out (infoChip _) rfl (refF_all _ _ _ _) ?_))
  refine bodyPost_ret (v := .tuple #[.agg (rowOf 139 (refF 0 0 noneS noneM)), .bool false]) ?_ rfl ⟨rfl, below_setRow' b0 (Nat.le_refl _) _⟩
  exact results_row_one Try.results11 _ _ w.heap.size 36 (rowOf 139 (refF 0 0 noneS noneM)) (0, 0) _ rfl (s0.out.setRow _) Try.underlying36 rfl (infoChip _)

set_option maxHeartbeats 2000000 in
set_option maxRecDepth 8000 in
theorem refNew_no3 (n m r : Int) (a : Option Addr) (nb cb : Nat) (w : World) (h1 : decide (n < 1) = false) (h2 : decide (n > 64) = false) (h3 : decide (m < 1) = true) :
    Calls Try.prog 11 #[.int .i64 n, .int .i64 m, .int .i64 r, .slice a nb cb] w fun e w' => e = .returned (.tuple #[.agg (rowOf 139 (refF 0 0 noneS noneM)), .bool false]) ∧ Below w.heap.size w w' := by
  have b0 : Below w.heap.size w (w.alloc (.cells (rowOf 139 (refF 0 0 noneS noneM)) 36)) := (Below.refl _ _).alloc (Nat.le_refl _) _
  have s0 := Lib.hid (RowAt.new w 36 (rowOf 139 (refF 0 0 noneS noneM)))
  go_enter Try.func11, Try.ntmps11
  go_wp2_with (first | (refine wpList_new rfl (run_allocChip rfl _) ?_; generalize w.alloc (.cells (rowOf 139 (refF 0 0 noneS noneM)) 36) = w1 at *) | (refine wpList_buildTo rfl 36 _ rfl _ rfl (rowOf 139 (refF 0 0 noneS noneM)) (by kernel_rfl) ?_) | (refine wpList_store_row rfl 36 _ _ rfl w.heap.size (rowOf 139 (refF 0 0 noneS noneM)) rfl rfl 36 (rowOf 139 (refF 0 0 noneS noneM)) s0.out (infoChip _) rfl (refF_all _ _ _ _) ?_))
  refine bodyPost_ret (v := .tuple #[.agg (rowOf 139 (refF 0 0 noneS noneM)), .bool false]) ?_ rfl ⟨rfl, below_setRow' b0 (Nat.le_refl _) _⟩
  exact results_row_one Try.results11 _ _ w.heap.size 36 (rowOf 139 (refF 0 0 noneS noneM)) (0, 0) _ rfl (s0.out.setRow _) Try.underlying36 rfl (infoChip _)

set_option maxHeartbeats 2000000 in
set_option maxRecDepth 8000 in
theorem refNew_no4 (n m r : Int) (a : Option Addr) (nb cb : Nat) (w : World) (h1 : decide (n < 1) = false) (h2 : decide (n > 64) = false) (h3 : decide (m < 1) = false) (h4 : decide (m > 16) = true) :
    Calls Try.prog 11 #[.int .i64 n, .int .i64 m, .int .i64 r, .slice a nb cb] w fun e w' => e = .returned (.tuple #[.agg (rowOf 139 (refF 0 0 noneS noneM)), .bool false]) ∧ Below w.heap.size w w' := by
  have b0 : Below w.heap.size w (w.alloc (.cells (rowOf 139 (refF 0 0 noneS noneM)) 36)) := (Below.refl _ _).alloc (Nat.le_refl _) _
  have s0 := Lib.hid (RowAt.new w 36 (rowOf 139 (refF 0 0 noneS noneM)))
  go_enter Try.func11, Try.ntmps11
  go_wp2_with (first | (refine wpList_new rfl (run_allocChip rfl _) ?_; generalize w.alloc (.cells (rowOf 139 (refF 0 0 noneS noneM)) 36) = w1 at *) | (refine wpList_buildTo rfl 36 _ rfl _ rfl (rowOf 139 (refF 0 0 noneS noneM)) (by kernel_rfl) ?_) | (refine wpList_store_row rfl 36 _ _ rfl w.heap.size (rowOf 139 (refF 0 0 noneS noneM)) rfl rfl 36 (rowOf 139 (refF 0 0 noneS noneM)) s0.out (infoChip _) rfl (refF_all _ _ _ _) ?_))
  refine bodyPost_ret (v := .tuple #[.agg (rowOf 139 (refF 0 0 noneS noneM)), .bool false]) ?_ rfl ⟨rfl, below_setRow' b0 (Nat.le_refl _) _⟩
  exact results_row_one Try.results11 _ _ w.heap.size 36 (rowOf 139 (refF 0 0 noneS noneM)) (0, 0) _ rfl (s0.out.setRow _) Try.underlying36 rfl (infoChip _)

set_option maxHeartbeats 2000000 in
set_option maxRecDepth 8000 in
theorem refNew_no5 (n m r : Int) (a : Option Addr) (nb cb : Nat) (w : World) (h1 : decide (n < 1) = false) (h2 : decide (n > 64) = false) (h3 : decide (m < 1) = false) (h4 : decide (m > 16) = false) (h5 : decide (r < 0) = true) :
    Calls Try.prog 11 #[.int .i64 n, .int .i64 m, .int .i64 r, .slice a nb cb] w fun e w' => e = .returned (.tuple #[.agg (rowOf 139 (refF 0 0 noneS noneM)), .bool false]) ∧ Below w.heap.size w w' := by
  have b0 : Below w.heap.size w (w.alloc (.cells (rowOf 139 (refF 0 0 noneS noneM)) 36)) := (Below.refl _ _).alloc (Nat.le_refl _) _
  have s0 := Lib.hid (RowAt.new w 36 (rowOf 139 (refF 0 0 noneS noneM)))
  go_enter Try.func11, Try.ntmps11
  go_wp2_with (first | (refine wpList_new rfl (run_allocChip rfl _) ?_; generalize w.alloc (.cells (rowOf 139 (refF 0 0 noneS noneM)) 36) = w1 at *) | (refine wpList_buildTo rfl 36 _ rfl _ rfl (rowOf 139 (refF 0 0 noneS noneM)) (by kernel_rfl) ?_) | (refine wpList_store_row rfl 36 _ _ rfl w.heap.size (rowOf 139 (refF 0 0 noneS noneM)) rfl rfl 36 (rowOf 139 (refF 0 0 noneS noneM)) s0.out (infoChip _) rfl (refF_all _ _ _ _) ?_))
  refine bodyPost_ret (v := .tuple #[.agg (rowOf 139 (refF 0 0 noneS noneM)), .bool false]) ?_ rfl ⟨rfl, below_setRow' b0 (Nat.le_refl _) _⟩
  exact results_row_one Try.results11 _ _ w.heap.size 36 (rowOf 139 (refF 0 0 noneS noneM)) (0, 0) _ rfl (s0.out.setRow _) Try.underlying36 rfl (infoChip _)

theorem refNew_no (n m r : Int) (a : Option Addr) (nb cb : Nat) (w : World) (h : newB n m r = false) :
    Calls Try.prog 11 #[.int .i64 n, .int .i64 m, .int .i64 r, .slice a nb cb] w fun e w' => e = .returned (.tuple #[.agg (rowOf 139 (refF 0 0 noneS noneM)), .bool false]) ∧ Below w.heap.size w w' := by
  by_cases h1 : n < 1
  · exact refNew_no1 n m r a nb cb w (decide_eq_true h1)
  by_cases h2 : n > 64
  · exact refNew_no2 n m r a nb cb w (decide_eq_false h1) (decide_eq_true h2)
  by_cases h3 : m < 1
  · exact refNew_no3 n m r a nb cb w (decide_eq_false h1) (decide_eq_false h2) (decide_eq_true h3)
  by_cases h4 : m > 16
  · exact refNew_no4 n m r a nb cb w (decide_eq_false h1) (decide_eq_false h2) (decide_eq_false h3) (decide_eq_true h4)
  by_cases h5 : r < 0
  · exact refNew_no5 n m r a nb cb w (decide_eq_false h1) (decide_eq_false h2) (decide_eq_false h3) (decide_eq_false h4) (decide_eq_true h5)
  exfalso
  unfold newB inW at h
  rw [decide_eq_true (show 1 ≤ n by omega), decide_eq_true (show n ≤ 64 by omega), decide_eq_true (show 1 ≤ m by omega), decide_eq_true (show m ≤ 16 by omega), decide_eq_true (show 0 ≤ r by omega)] at h
  cases h
theorem SeesV.setCellAt {w : World} {a : Option Addr} {n : Nat} {F : Nat → Value} (h : SeesV w a n F) (p i : Nat) (v : Value) (hne : ∀ ad, a = Option.some ad → ad.block ≠ p) : SeesV (w.setCell ⟨p, i, Option.none⟩ v) a n F :=
  h.kept fun ad e hl => ⟨by simpa [World.setCell] using hl, Below.heap_setCell _ _ _ _ (hne ad e)⟩
theorem SeesV.setRowAt {w : World} {a : Option Addr} {n : Nat} {F : Nat → Value} (h : SeesV w a n F) (p : Nat) (cs : Array Value) (hne : ∀ ad, a = Option.some ad → ad.block ≠ p) : SeesV (w.setRow p cs) a n F :=
  h.kept fun ad e hl => ⟨by rw [setRow_size]; exact hl, setRow_other _ _ _ _ (hne ad e)⟩
theorem zero_cells (m N : Nat) : ∀ j, j < N → (Value.agg #[.bool false, .string ⟨#[]⟩]).cells[j % (Value.agg #[.bool false, .string ⟨#[]⟩]).cells.size]! = cellV m (fun _ _ => ⟨#[]⟩) j := by
  intro j _
  show (#[Value.bool false, .string ⟨#[]⟩] : Array Value)[j % 2]! = _
  unfold cellV
  have h2 : j % 2 < 2 := Nat.mod_lt _ (by decide)
  generalize j % 2 = x at *
  match x, h2 with
  | 0, _ => rw [if_pos rfl, isB_nilC]; rfl
  | 1, _ => rw [if_neg (by decide)]; rfl
/-- The chip as it is built. -/
def builtF (n m q g : Nat) (r : Int) : Nat → Value := fun j => if j = 71 then .slice (some ⟨g, 0, none⟩) q q else refF n m (newS true 0 0 0 r fun _ => false) noneM j
theorem builtF_one (n m q g : Nat) (r : Int) (j : Nat) : (builtF n m q g r j).oneCell' = true := by
  unfold builtF
  split
  · rfl
  · exact refF_one _ _ _ _ _

set_option maxHeartbeats 4000000 in
set_option maxRecDepth 8000 in
theorem refNew_yes (n m : Nat) (r : Int) (a : Option Addr) (nb cb : Nat) (f : Nat → Int) (w : World) (hf : Hid (SeesZ w a nb f)) (n1 : 1 ≤ n) (n2 : n ≤ 64) (m1 : 1 ≤ m) (m2 : m ≤ 16) (hr : 0 ≤ r) (hnb : nb ≤ 1000000) :
    Calls Try.prog 11 #[.int .i64 (n : Nat), .int .i64 (m : Nat), .int .i64 r, .slice a nb cb] w fun e w' => ∃ M, e = .returned (.tuple #[.agg (rowOf 139 (refF n m (newS true 0 0 0 r (badN n f nb)) M)), .bool true]) ∧ Hid (RefC w' n m (newS true 0 0 0 r (badN n f nb)) M) ∧ Below w.heap.size w w' ∧ (∀ ad, M.al = some ad → w.heap.size ≤ ad.block ∧ ad.block < w'.heap.size) ∧ M.ap = none := by
  have d1 : decide ((n : Int) < 1) = false := decide_eq_false (by omega)
  have d2 : decide ((n : Int) > 64) = false := decide_eq_false (by omega)
  have d3 : decide ((m : Int) < 1) = false := decide_eq_false (by omega)
  have d4 : decide ((m : Int) > 16) = false := decide_eq_false (by omega)
  have d5 : decide (r < 0) = false := decide_eq_false (by omega)
  obtain ⟨q, hq⟩ : ∃ q, q = n * m := ⟨_, rfl⟩
  have hq6 : q ≤ 1024 := by
    rw [hq]
    exact Nat.le_trans (Nat.mul_le_mul n2 m2) (by decide)
  have eqm : (n : Int) * (m : Int) = (q : Int) := by rw [hq, Int.natCast_mul]
  have q6 : q ≤ 1000000 := by omega
  have hq' := Lib.hid hq
  have n2' := Lib.hid n2
  have hnb' := Lib.hid hnb
  have W1 : ∃ w1, w1 = w.alloc (.cells (rowOf 139 (refF 0 0 noneS noneM)) 36) := ⟨_, rfl⟩
  obtain ⟨w1, hw1⟩ := W1
  have b1 : Below w.heap.size w w1 := by rw [hw1]; exact (Below.refl _ _).alloc (Nat.le_refl _) _
  have s1 : Hid (RowAt w1 w.heap.size 36 (rowOf 139 (refF 0 0 noneS noneM))) := by rw [hw1]; exact RowAt.new _ _ _
  have l1 : w.heap.size < w1.heap.size := s1.out.lt
  have s2 := Lib.hid (s1.out.alloc (.cells (rowOf (q * 2) (cellV m fun _ _ => ⟨#[]⟩)) 94))
  have g2 := Lib.hid (RowAt.new w1 94 (rowOf (q * 2) (cellV m fun _ _ => ⟨#[]⟩)))
  have b2 := b1.alloc b1.size (.cells (rowOf (q * 2) (cellV m fun _ _ => ⟨#[]⟩)) 94)
  have W2 : ∃ w2, w2 = w1.alloc (.cells (rowOf (q * 2) (cellV m fun _ _ => ⟨#[]⟩)) 94) := ⟨_, rfl⟩
  obtain ⟨w2, hw2⟩ := W2
  rw [← hw2] at s2 g2 b2
  have l2 : w1.heap.size < w2.heap.size := g2.out.lt
  have s3 := Lib.hid (s2.out.alloc (.cells (rowOf 139 (refF 0 0 noneS noneM)) 36))
  have g3 := Lib.hid (g2.out.alloc (.cells (rowOf 139 (refF 0 0 noneS noneM)) 36))
  have r3 := Lib.hid (RowAt.new w2 36 (rowOf 139 (refF 0 0 noneS noneM)))
  have b3 := b2.alloc b2.size (.cells (rowOf 139 (refF 0 0 noneS noneM)) 36)
  have W3 : ∃ w3, w3 = w2.alloc (.cells (rowOf 139 (refF 0 0 noneS noneM)) 36) := ⟨_, rfl⟩
  obtain ⟨w3, hw3⟩ := W3
  rw [← hw3] at s3 g3 r3 b3
  have s4 := Lib.hid (s3.out.setRowOther w2.heap.size (rowOf 139 (builtF n m q w1.heap.size r)) (by omega))
  have g4 := Lib.hid (g3.out.setRowOther w2.heap.size (rowOf 139 (builtF n m q w1.heap.size r)) (by omega))
  have r4 := Lib.hid (r3.out.setRow (rowOf 139 (builtF n m q w1.heap.size r)))
  have b4 := below_setRow' b3 (show w.heap.size ≤ w2.heap.size by omega) (rowOf 139 (builtF n m q w1.heap.size r))
  have W4 : ∃ w4, w4 = w3.setRow w2.heap.size (rowOf 139 (builtF n m q w1.heap.size r)) := ⟨_, rfl⟩
  obtain ⟨w4, hw4⟩ := W4
  rw [← hw4] at s4 g4 r4 b4
  obtain ⟨M, hM⟩ : ∃ M : Mem, M = ⟨some ⟨w1.heap.size, 0, none⟩, q, none, 0⟩ := ⟨_, rfl⟩
  have r5 := Lib.hid (r4.out.congr (rowOf_congr (g := refF n m (newS true 0 0 0 r (badN n f 0)) M) fun j hj => by
    unfold builtF
    rw [hM, hq]
    exact ref_L n m (newS true 0 0 0 r fun _ => false) noneM w1.heap.size (n * m) _ j hj))
  have cM : Hid (SeesV w4 M.al (n * m * 2) (cellV m fun _ _ => ⟨#[]⟩) ∧ M.ap = none ∧ M.cp = 0) := by
    rw [hM, ← hq]
    exact ⟨RowAt.seesV g4.out (Nat.le_refl _) fun _ _ => rfl, rfl, rfl⟩
  have cMa : Hid (∀ ad, M.al = some ad → ad.block ≠ w.heap.size) := fun ad e => by
    rw [hM] at e
    cases e
    show w1.heap.size ≠ w.heap.size
    omega
  have hpos : Hid (0 < n * m * 2) := Nat.mul_pos (Nat.mul_pos n1 m1) (by decide)
  have cMc : Hid (∀ ad, M.al = some ad → w.heap.size ≤ ad.block) := fun ad e => by
    rw [hM] at e
    cases e
    show w.heap.size ≤ w1.heap.size
    omega
  have cMb : Hid (∀ ad, M.al = some ad → ad.block ≠ w2.heap.size) := fun ad e => by
    rw [hM] at e
    cases e
    show w1.heap.size ≠ w2.heap.size
    omega
  replace hw1 := Lib.hid hw1
  replace hw2 := Lib.hid hw2
  replace hw3 := Lib.hid hw3
  replace hw4 := Lib.hid hw4
  have lr : w.heap.size ≠ w2.heap.size := by omega
  clear hr n1 n2 m1 m2 hq hM b1 b2 b3 s2 g2 s3 g3 g4 r4 hq6 hnb
  go_enter Try.func11, Try.ntmps11
  go_wp2_with (first | (refine wpList_new rfl (run_allocChip rfl _) ?_; first | rw [← hw3.out] | rw [← hw1.out]) | (refine wpList_make_row (m := q) Try.underlying32 infoCell (zero_cells m _) q6 (by decide) (by decide) rfl rfl rfl rfl ?_; rw [← hw2.out]) | (refine wpList_buildTo rfl 36 _ rfl _ rfl (rowOf 139 (builtF n m q w1.heap.size r)) (by kernel_rfl) ?_) | (refine wpList_store_row rfl 36 _ _ rfl w2.heap.size (rowOf 139 (builtF n m q w1.heap.size r)) rfl rfl 36 (rowOf 139 (refF 0 0 noneS noneM)) r3.out (infoChip _) (by rw [rowOf_size, rowOf_size]) (rowOf_one (builtF_one _ _ _ _ _)) ?_; rw [← hw4.out]))
  clear s1 r3 eqm d1 d2 d3 d4 d5
  go_loopw [11] (fun v wr => ∃ k : Nat, k ≤ nb ∧ v = .int .i64 (k : Int) ∧ Hid (RowAt wr w2.heap.size 36 (rowOf 139 (refF n m (newS true 0 0 0 r (badN n f k)) M))) ∧ Hid (RowAt wr w.heap.size 36 (rowOf 139 (refF 0 0 noneS noneM))) ∧ Hid (SeesV wr M.al (n * m * 2) (cellV m fun _ _ => ⟨#[]⟩)) ∧ Below w.heap.size w wr) (fun v _ => nb - (intOf v).toNat)
  case atStart => exact ⟨0, Nat.zero_le _, rfl, r5, s4, cM.out.1, b4⟩
  case round =>
    have cMn := cM.out.2
    clear r5 s4 b4 cM
    obtain ⟨k, hk, rfl, rL, sL, cL, bL⟩ := hrel
    by_cases hlt : k < nb
    · have lt : (k : Int) < (nb : Int) := by omega
      have hlt9 := hlt
      have k6 : k ≤ 1000000 := by have := hnb'.out; omega
      have sf := Lib.hid (hf.out.after bL)
      have gk := Lib.hid (SeesV.cell sf.out hlt)
      change Hid (wr.cell? _ = some (.int .i64 (f k))) at gk
      have eB : Hid (badN n f (k + 1) = if inB (f k) n = true then updB (badN n f k) (f k).toNat else badN n f k) := rfl
      by_cases z0 : f k ≥ 0
      · by_cases z1 : f k < (n : Int)
        · have hin : inB (f k) n = true := by unfold inB; rw [decide_eq_true z0, decide_eq_true z1]; rfl
          rw [hin, if_pos rfl] at eB
          obtain ⟨x, ex, hxn⟩ := inB_get hin
          rw [ex] at gk eB
          rw [show ((x : Nat) : Int).toNat = x from rfl] at eB
          have x64 : (x : Int) < 64 := by have := n2'.out; omega
          have xn : (x : Int) < (n : Int) := by omega
          have hb64 : x < 64 := by have := n2'.out; omega
          have cb := rfBad rL.out (i := x) hb64
          have fb := rL.out.free (7 + x)
          have rN := (rL.out.set (7 + x) (.bool true)).congr (ref_set (ref_bad n m (newS true 0 0 0 r (badN n f k)) M x hb64))
          change RowAt _ _ _ (rowOf 139 (refF n m (newS true 0 0 0 r (updB (badN n f k) x)) M)) at rN
          rw [← eB.out] at rN
          replace rN := Lib.hid rN
          have sN := Lib.hid (sL.out.other (7 + x) (.bool true) (p := w2.heap.size) lr)
          have bN := bL.setCell (p := ⟨w2.heap.size, 7 + x, none⟩) (show w.heap.size ≤ w2.heap.size by omega) (.bool true)
          have cN := Lib.hid (cL.out.setCellAt w2.heap.size (7 + x) (.bool true) cMb.out)
          clear rL sL bL eB ex hin z0 z1 hb64
          go_wp2_with (first | (refine wpList_known rfl (at_intsV sf.out hlt9 rfl rfl rfl rfl _) ?_) | (refine wpList_known rfl (get_int gk.out rfl rfl) ?_) | (refine wpList_wknown rfl (at_intsV sf.out hlt9 rfl rfl rfl rfl _) ?_) | (refine wpList_wknown rfl (get_int gk.out rfl rfl) ?_))
          go_roundw
          case rel => exact ⟨k + 1, by omega, by go_num, rN, sN, cN, bN⟩
          case measure => simp [intOf]; omega
        · have hin : inB (f k) n = false := by unfold inB; rw [decide_eq_false z1, Bool.and_false]
          rw [hin, if_neg (by decide)] at eB
          have d0 : decide (f k ≥ 0) = true := decide_eq_true z0
          have d1 : decide (f k < (n : Int)) = false := decide_eq_false z1
          generalize f k = z at *
          clear hin z0 z1
          go_wp2_with (first | (refine wpList_known rfl (at_intsV sf.out hlt9 rfl rfl rfl rfl _) ?_) | (refine wpList_known rfl (get_int gk.out rfl rfl) ?_) | (refine wpList_wknown rfl (at_intsV sf.out hlt9 rfl rfl rfl rfl _) ?_) | (refine wpList_wknown rfl (get_int gk.out rfl rfl) ?_))
          go_roundw
          case rel => exact ⟨k + 1, by omega, by go_num, by rw [eB.out]; exact rL, sL, cL, bL⟩
          case measure => simp [intOf]; omega
      · have hin : inB (f k) n = false := by unfold inB; rw [decide_eq_false (show ¬ 0 ≤ f k from z0)]; rfl
        rw [hin, if_neg (by decide)] at eB
        have d0 : decide (f k ≥ 0) = false := decide_eq_false z0
        generalize f k = z at *
        clear hin z0
        go_wp2_with (first | (refine wpList_known rfl (at_intsV sf.out hlt9 rfl rfl rfl rfl _) ?_) | (refine wpList_known rfl (get_int gk.out rfl rfl) ?_) | (refine wpList_wknown rfl (at_intsV sf.out hlt9 rfl rfl rfl rfl _) ?_) | (refine wpList_wknown rfl (get_int gk.out rfl rfl) ?_))
        go_roundw
        case rel => exact ⟨k + 1, by omega, by go_num, by rw [eB.out]; exact rL, sL, cL, bL⟩
        case measure => simp [intOf]; omega
    · have lt : ¬ (k : Int) < (nb : Int) := by omega
      have ek : k = nb := by omega
      have hP : Hid (newS true 0 0 0 r (badN n f k) = newS true 0 0 0 r (badN n f nb)) := by rw [ek]; exact rfl
      rw [hP.out] at rL
      clear hP ek hlt hk
      go_wp2_with (first | (refine wpList_load_row rfl 36 _ rfl w2.heap.size rfl 36 (rowOf 139 (refF n m (newS true 0 0 0 r (badN n f nb)) M)) (0, 0) _ rL.out Try.underlying36 rfl (infoChip _) ?_) | (refine wpList_store_row rfl 36 _ _ rfl w.heap.size (rowOf 139 (refF n m (newS true 0 0 0 r (badN n f nb)) M)) rfl rfl 36 (rowOf 139 (refF 0 0 noneS noneM)) sL.out (infoChip _) (by rw [rowOf_size, rowOf_size]) (refF_all _ _ _ _) ?_))
      have hc9 := Lib.hid (cL.out.setRowAt w.heap.size (rowOf 139 (refF n m (newS true 0 0 0 r (badN n f nb)) M)) cMa.out)
      refine bodyPost_ret (v := .tuple #[.agg (rowOf 139 (refF n m (newS true 0 0 0 r (badN n f nb)) M)), .bool true]) ?_ rfl ⟨M, rfl, ⟨hc9.out, .nil _ _ _, fun _ => cMn.2⟩, below_setRow' bL (Nat.le_refl _) _, fun ad e => ⟨cMc.out ad e, by obtain ⟨ad2, e3, hl3⟩ := SeesV.some hc9.out hpos.out; rw [e] at e3; cases e3; exact hl3⟩, cMn.1⟩
      exact results_row_one Try.results11 _ _ w.heap.size 36 (rowOf 139 (refF n m (newS true 0 0 0 r (badN n f nb)) M)) (0, 0) _ rfl (sL.out.setRow _) Try.underlying36 rfl (infoChip _)

end Go.Proofs.Ytogeccmeaacgnaa
