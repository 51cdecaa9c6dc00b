/-
  Contract: the document's Program, that is no act.
-/
import Derived.Test.YtogeccmeaacgnaaNandRefErase2
import Derived.Test.YtogeccmeaacgnaaNandApp2
namespace Go.Proofs.Ytogeccmeaacgnaa
open Go.RowKit
set_option linter.unusedVariables false

set_option maxHeartbeats 4000000 in
set_option maxRecDepth 8000 in
theorem refProg_off (n m : Nat) (S : St) (M : Mem) (w : World) (hc : Hid (RefC w n m S M)) (z y : Int) (s : ByteArray) (hu : S.up = false) :
    Calls Try.prog 13 #[.agg (rowOf 139 (refF n m S M)), .int .i64 z, .int .i64 y, .string s] w (RefEnd n m M S 4 w) := by
  have b1 : Below w.heap.size w ((w.alloc (.cells (rowOf 139 (refF n m S M)) 36)).alloc (.cells (rowOf 139 (refF 0 0 noneS noneM)) 36)) := allocs_below [.cells (rowOf 139 (refF n m S M)) 36, .cells (rowOf 139 (refF 0 0 noneS noneM)) 36] w
  have r1 : Hid (RowAt ((w.alloc (.cells (rowOf 139 (refF n m S M)) 36)).alloc (.cells (rowOf 139 (refF 0 0 noneS noneM)) 36)) w.heap.size 36 (rowOf 139 (refF n m S M))) := allocs_row [.cells (rowOf 139 (refF n m S M)) 36, .cells (rowOf 139 (refF 0 0 noneS noneM)) 36] w 0 _ _ rfl
  have s1 : Hid (RowAt ((w.alloc (.cells (rowOf 139 (refF n m S M)) 36)).alloc (.cells (rowOf 139 (refF 0 0 noneS noneM)) 36)) (w.heap.size + 1) 36 (rowOf 139 (refF 0 0 noneS noneM))) := allocs_row [.cells (rowOf 139 (refF n m S M)) 36, .cells (rowOf 139 (refF 0 0 noneS noneM)) 36] w 1 _ _ rfl
  have c0 := rf0 r1.out
  rw [hu, Bool.not_false] at c0
  go_enter Try.func13, Try.ntmps13
  go_wp2_with (first | (refine wpList_new rfl (run_allocChip rfl _) ?_; generalize (w.alloc (.cells (rowOf 139 (refF n m S M)) 36)).alloc (.cells (rowOf 139 (refF 0 0 noneS noneM)) 36) = w1 at *) | (refine wpList_load_row rfl 36 _ rfl w.heap.size rfl 36 (rowOf 139 (refF n m S M)) (0, 0) _ r1.out Try.underlying36 rfl (infoChip _) ?_) | (refine wpList_store_row rfl 36 _ _ rfl (w.heap.size + 1) (rowOf 139 (refF n m S M)) rfl rfl 36 (rowOf 139 (refF 0 0 noneS noneM)) s1.out (infoChip _) (by rw [rowOf_size, rowOf_size]) (refF_all _ _ _ _) ?_))
  refine bodyPost_ret (v := .tuple #[.agg (rowOf 139 (refF n m S M)), .int .i64 4]) ?_ rfl ⟨M, rfl, hc.out.after (below_setRow' b1 (Nat.le_succ _) _), (below_setRow' b1 (Nat.le_succ _) _), .same _ _ _⟩
  exact results_row_one Try.results13 _ _ (w.heap.size + 1) 36 (rowOf 139 (refF n m S M)) (0, 0) _ rfl (s1.out.setRow _) Try.underlying36 rfl (infoChip _)

set_option maxHeartbeats 4000000 in
set_option maxRecDepth 8000 in
theorem refProg_arg (n m : Nat) (S : St) (M : Mem) (w : World) (hc : Hid (RefC w n m S M)) (z y : Int) (s : ByteArray) (hu : S.up = true) (hin : (inB z n && inB y m) = false) :
    Calls Try.prog 13 #[.agg (rowOf 139 (refF n m S M)), .int .i64 z, .int .i64 y, .string s] w (RefEnd n m M S 1 w) := by
  have b1 : Below w.heap.size w ((w.alloc (.cells (rowOf 139 (refF n m S M)) 36)).alloc (.cells (rowOf 139 (refF 0 0 noneS noneM)) 36)) := allocs_below [.cells (rowOf 139 (refF n m S M)) 36, .cells (rowOf 139 (refF 0 0 noneS noneM)) 36] w
  have r1 : Hid (RowAt ((w.alloc (.cells (rowOf 139 (refF n m S M)) 36)).alloc (.cells (rowOf 139 (refF 0 0 noneS noneM)) 36)) w.heap.size 36 (rowOf 139 (refF n m S M))) := allocs_row [.cells (rowOf 139 (refF n m S M)) 36, .cells (rowOf 139 (refF 0 0 noneS noneM)) 36] w 0 _ _ rfl
  have s1 : Hid (RowAt ((w.alloc (.cells (rowOf 139 (refF n m S M)) 36)).alloc (.cells (rowOf 139 (refF 0 0 noneS noneM)) 36)) (w.heap.size + 1) 36 (rowOf 139 (refF 0 0 noneS noneM))) := allocs_row [.cells (rowOf 139 (refF n m S M)) 36, .cells (rowOf 139 (refF 0 0 noneS noneM)) 36] w 1 _ _ rfl
  have c0 := rf0 r1.out
  rw [hu, Bool.not_true] at c0
  have I := Lib.hid (refIn_any n m S M ((w.alloc (.cells (rowOf 139 (refF n m S M)) 36)).alloc (.cells (rowOf 139 (refF 0 0 noneS noneM)) 36)) z y)
  rw [hin] at I
  go_enter Try.func13, Try.ntmps13
  go_wp2_with (first | (refine wpList_new rfl (run_allocChip rfl _) ?_; generalize (w.alloc (.cells (rowOf 139 (refF n m S M)) 36)).alloc (.cells (rowOf 139 (refF 0 0 noneS noneM)) 36) = w1 at *) | (refine wpList_load_row rfl 36 _ rfl w.heap.size rfl 36 (rowOf 139 (refF n m S M)) (0, 0) _ r1.out Try.underlying36 rfl (infoChip _) ?_))
  refine I.out.mono ?_
  rintro e w2 ⟨rfl, bi⟩
  have r2 := Lib.hid (r1.out.below bi r1.out.lt)
  have s2 := Lib.hid (s1.out.below bi s1.out.lt)
  have b2 := b1.trans (bi.mono b1.size)
  clear I r1 s1 b1 bi c0
  go_wp2_with (first | (refine wpList_load_row rfl 36 _ rfl w.heap.size rfl 36 (rowOf 139 (refF n m S M)) (0, 0) _ r2.out Try.underlying36 rfl (infoChip _) ?_) | (refine wpList_store_row rfl 36 _ _ rfl (w.heap.size + 1) (rowOf 139 (refF n m S M)) rfl rfl 36 (rowOf 139 (refF 0 0 noneS noneM)) s2.out (infoChip _) (by rw [rowOf_size, rowOf_size]) (refF_all _ _ _ _) ?_))
  refine bodyPost_ret (v := .tuple #[.agg (rowOf 139 (refF n m S M)), .int .i64 1]) ?_ rfl ⟨M, rfl, hc.out.after (below_setRow' b2 (Nat.le_succ _) _), (below_setRow' b2 (Nat.le_succ _) _), .same _ _ _⟩
  exact results_row_one Try.results13 _ _ (w.heap.size + 1) 36 (rowOf 139 (refF n m S M)) (0, 0) _ rfl (s2.out.setRow _) Try.underlying36 rfl (infoChip _)

set_option maxHeartbeats 4000000 in
set_option maxRecDepth 8000 in
theorem refProg_long (n m : Nat) (S : St) (M : Mem) (w : World) (hc : Hid (RefC w n m S M)) (z y : Int) (s : ByteArray) (hu : S.up = true) (hin : (inB z n && inB y m) = true) (hs : 256 < s.size) :
    Calls Try.prog 13 #[.agg (rowOf 139 (refF n m S M)), .int .i64 z, .int .i64 y, .string s] w (RefEnd n m M S 1 w) := by
  have b1 : Below w.heap.size w ((w.alloc (.cells (rowOf 139 (refF n m S M)) 36)).alloc (.cells (rowOf 139 (refF 0 0 noneS noneM)) 36)) := allocs_below [.cells (rowOf 139 (refF n m S M)) 36, .cells (rowOf 139 (refF 0 0 noneS noneM)) 36] w
  have r1 : Hid (RowAt ((w.alloc (.cells (rowOf 139 (refF n m S M)) 36)).alloc (.cells (rowOf 139 (refF 0 0 noneS noneM)) 36)) w.heap.size 36 (rowOf 139 (refF n m S M))) := allocs_row [.cells (rowOf 139 (refF n m S M)) 36, .cells (rowOf 139 (refF 0 0 noneS noneM)) 36] w 0 _ _ rfl
  have s1 : Hid (RowAt ((w.alloc (.cells (rowOf 139 (refF n m S M)) 36)).alloc (.cells (rowOf 139 (refF 0 0 noneS noneM)) 36)) (w.heap.size + 1) 36 (rowOf 139 (refF 0 0 noneS noneM))) := allocs_row [.cells (rowOf 139 (refF n m S M)) 36, .cells (rowOf 139 (refF 0 0 noneS noneM)) 36] w 1 _ _ rfl
  have c0 := rf0 r1.out
  rw [hu, Bool.not_true] at c0
  have I := Lib.hid (refIn_any n m S M ((w.alloc (.cells (rowOf 139 (refF n m S M)) 36)).alloc (.cells (rowOf 139 (refF 0 0 noneS noneM)) 36)) z y)
  rw [hin] at I
  have l0 : (256 : Int) < (s.size : Int) := by omega
  clear hs
  go_enter Try.func13, Try.ntmps13
  go_wp2_with (first | (refine wpList_new rfl (run_allocChip rfl _) ?_; generalize (w.alloc (.cells (rowOf 139 (refF n m S M)) 36)).alloc (.cells (rowOf 139 (refF 0 0 noneS noneM)) 36) = w1 at *) | (refine wpList_load_row rfl 36 _ rfl w.heap.size rfl 36 (rowOf 139 (refF n m S M)) (0, 0) _ r1.out Try.underlying36 rfl (infoChip _) ?_))
  refine I.out.mono ?_
  rintro e w2 ⟨rfl, bi⟩
  have r2 := Lib.hid (r1.out.below bi r1.out.lt)
  have s2 := Lib.hid (s1.out.below bi s1.out.lt)
  have b2 := b1.trans (bi.mono b1.size)
  clear I r1 s1 b1 bi c0
  go_wp2_with (first | (refine wpList_load_row rfl 36 _ rfl w.heap.size rfl 36 (rowOf 139 (refF n m S M)) (0, 0) _ r2.out Try.underlying36 rfl (infoChip _) ?_) | (refine wpList_store_row rfl 36 _ _ rfl (w.heap.size + 1) (rowOf 139 (refF n m S M)) rfl rfl 36 (rowOf 139 (refF 0 0 noneS noneM)) s2.out (infoChip _) (by rw [rowOf_size, rowOf_size]) (refF_all _ _ _ _) ?_))
  refine bodyPost_ret (v := .tuple #[.agg (rowOf 139 (refF n m S M)), .int .i64 1]) ?_ rfl ⟨M, rfl, hc.out.after (below_setRow' b2 (Nat.le_succ _) _), (below_setRow' b2 (Nat.le_succ _) _), .same _ _ _⟩
  exact results_row_one Try.results13 _ _ (w.heap.size + 1) 36 (rowOf 139 (refF n m S M)) (0, 0) _ rfl (s2.out.setRow _) Try.underlying36 rfl (infoChip _)

set_option maxHeartbeats 4000000 in
set_option maxRecDepth 8000 in
theorem refProg_used (n m : Nat) (S : St) (M : Mem) (w : World) (hc : Hid (RefC w n m S M)) (i j : Nat) (s : ByteArray) (hi : i < n) (hj : j < m) (hn64 : n ≤ 64) (hm16 : m ≤ 16) (hu : S.up = true) (hs : s.size ≤ 256) (hp : isB (S.page i j) = true) :
    Calls Try.prog 13 #[.agg (rowOf 139 (refF n m S M)), .int .i64 (i : Nat), .int .i64 (j : Nat), .string s] w (RefEnd n m M S 100 w) := by
  have b1 : Below w.heap.size w ((w.alloc (.cells (rowOf 139 (refF n m S M)) 36)).alloc (.cells (rowOf 139 (refF 0 0 noneS noneM)) 36)) := allocs_below [.cells (rowOf 139 (refF n m S M)) 36, .cells (rowOf 139 (refF 0 0 noneS noneM)) 36] w
  have r1 : Hid (RowAt ((w.alloc (.cells (rowOf 139 (refF n m S M)) 36)).alloc (.cells (rowOf 139 (refF 0 0 noneS noneM)) 36)) w.heap.size 36 (rowOf 139 (refF n m S M))) := allocs_row [.cells (rowOf 139 (refF n m S M)) 36, .cells (rowOf 139 (refF 0 0 noneS noneM)) 36] w 0 _ _ rfl
  have s1 : Hid (RowAt ((w.alloc (.cells (rowOf 139 (refF n m S M)) 36)).alloc (.cells (rowOf 139 (refF 0 0 noneS noneM)) 36)) (w.heap.size + 1) 36 (rowOf 139 (refF 0 0 noneS noneM))) := allocs_row [.cells (rowOf 139 (refF n m S M)) 36, .cells (rowOf 139 (refF 0 0 noneS noneM)) 36] w 1 _ _ rfl
  have c0 := rf0 r1.out
  rw [hu, Bool.not_true] at c0
  have hin : (inB ((i : Nat) : Int) n && inB ((j : Nat) : Int) m) = true := by rw [inB_nat i _ hi, inB_nat j _ hj]; rfl
  have I := Lib.hid (refIn_any n m S M ((w.alloc (.cells (rowOf 139 (refF n m S M)) 36)).alloc (.cells (rowOf 139 (refF 0 0 noneS noneM)) 36)) (i : Int) (j : Int))
  rw [hin] at I
  obtain ⟨r, hr⟩ : ∃ r, r = i * m := ⟨_, rfl⟩
  obtain ⟨q, hq⟩ : ∃ q, q = r + j := ⟨_, rfl⟩
  have hqq : q = i * m + j := by rw [hq, hr]
  have hr6 : r ≤ 1024 := by
    rw [hr]
    exact Nat.le_trans (Nat.mul_le_mul (show i ≤ 64 by omega) hm16) (by decide)
  have er : (i : Int) * (m : Int) = (r : Int) := by rw [hr, Int.natCast_mul]
  have eq : (r : Int) + (j : Int) = (q : Int) := by rw [hq, Int.natCast_add]
  obtain ⟨N, hN⟩ : ∃ N, n * m = N := ⟨_, rfl⟩
  have hqN : q < N := by rw [← hN]; exact place_lt hi hj hqq
  have hqN' := Lib.hid hqN
  have l0 : ¬ (256 : Int) < (s.size : Int) := by omega
  have v0 := cellV_0 (f := S.page) hj hqq
  rw [hp] at v0
  clear hr hq hqq hs
  go_enter Try.func13, Try.ntmps13
  go_wp2_with (first | (refine wpList_new rfl (run_allocChip rfl _) ?_; generalize (w.alloc (.cells (rowOf 139 (refF n m S M)) 36)).alloc (.cells (rowOf 139 (refF 0 0 noneS noneM)) 36) = w1 at *) | (refine wpList_load_row rfl 36 _ rfl w.heap.size rfl 36 (rowOf 139 (refF n m S M)) (0, 0) _ r1.out Try.underlying36 rfl (infoChip _) ?_))
  refine I.out.mono ?_
  rintro e w2 ⟨rfl, bi⟩
  have r2 := Lib.hid (r1.out.below bi r1.out.lt)
  have s2 := Lib.hid (s1.out.below bi s1.out.lt)
  have b2 := b1.trans (bi.mono b1.size)
  clear I r1 s1 b1 bi c0
  have c5 := rf5 r2.out
  have c71 := rf71 r2.out
  rw [hN] at c71
  have hcl := Lib.hid (hc.out.cells.after b2)
  rw [hN] at hcl
  have hce := SeesV.cell hcl.out (m := q * 2) (by omega)
  rw [v0] at hce
  go_wp2_with (first | (refine wpList_known rfl (at_cell hcl.out hqN'.out rfl rfl rfl rfl _) ?_) | (refine wpList_load_row rfl 36 _ rfl w.heap.size rfl 36 (rowOf 139 (refF n m S M)) (0, 0) _ r2.out Try.underlying36 rfl (infoChip _) ?_) | (refine wpList_store_row rfl 36 _ _ rfl (w.heap.size + 1) (rowOf 139 (refF n m S M)) rfl rfl 36 (rowOf 139 (refF 0 0 noneS noneM)) s2.out (infoChip _) (by rw [rowOf_size, rowOf_size]) (refF_all _ _ _ _) ?_))
  refine bodyPost_ret (v := .tuple #[.agg (rowOf 139 (refF n m S M)), .int .i64 100]) ?_ rfl ⟨M, rfl, hc.out.after (below_setRow' b2 (Nat.le_succ _) _), (below_setRow' b2 (Nat.le_succ _) _), .same _ _ _⟩
  exact results_row_one Try.results13 _ _ (w.heap.size + 1) 36 (rowOf 139 (refF n m S M)) (0, 0) _ rfl (s2.out.setRow _) Try.underlying36 rfl (infoChip _)


end Go.Proofs.Ytogeccmeaacgnaa
