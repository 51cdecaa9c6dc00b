/-
  Contract: learns of a mind, a lock put together, or nothing done.
-/
import Derived.Test.YtjhalbifljnfjaaAdvLearnM
import Derived.Test.YtjhalbifljnfjaaAdvStep
namespace Go.Proofs.Ytjhalbifljnfjaa
open Go.RowKit
set_option linter.unusedVariables false

set_option maxHeartbeats 2000000 in
set_option maxRecDepth 8000 in
theorem learns_make3 (T : Nds) (aT aA : Option Addr) (m cT n cA p cK d x y : Nat) (X : Nat → Bool) (hd : d < m) (hx : x < m) (hy : y < m) (e0 : Hid (T d 0 = 3)) (e1 : Hid (T d 1 = (x : Int))) (e2 : Hid (T d 2 = (y : Int))) (hXd : Hid (X d = false)) (hXx : Hid (X x = true)) (hXy : Hid (X y = true)) (w : World) (hT : Hid (SeesN w aT m T)) (hr : Hid (BRow w p m X)) :
    Calls Try.prog 42 #[.agg #[.slice aT m cT, .slice aA n cA, .slice (some ⟨p, 0, none⟩) m cK], .int .i64 (d : Int)] w (LearnEnd T m X d p w) := by
  have b0 : Below w.heap.size w (w.alloc (.cells #[.slice aT m cT, .slice aA n cA, .slice (some ⟨p, 0, none⟩) m cK] 52)) := (Below.refl w.heap.size w).alloc (Nat.le_refl _) _
  have b1 : Below w.heap.size w ((w.alloc (.cells #[.slice aT m cT, .slice aA n cA, .slice (some ⟨p, 0, none⟩) m cK] 52)).alloc (.cells #[.int .i64 3, .int .i64 (x : Int), .int .i64 (y : Int)] 42)) := b0.alloc b0.size _
  have s0 := Lib.hid (hT.out.after b0)
  have hB := Lib.hid (hr.out.after b1)
  have q0 := Lib.hid ((RowAt.new w 52 #[.slice aT m cT, .slice aA n cA, .slice (some ⟨p, 0, none⟩) m cK]).alloc (.cells #[.int .i64 3, .int .i64 (x : Int), .int .i64 (y : Int)] 42))
  have q1 := Lib.hid (RowAt.new (w.alloc (.cells #[.slice aT m cT, .slice aA n cA, .slice (some ⟨p, 0, none⟩) m cK] 52)) 42 #[.int .i64 3, .int .i64 (x : Int), .int .i64 (y : Int)])
  rw [World.size_alloc] at q1
  have hA1 := Lib.hid (Apart.of_below (p := p) b1)
  have ss := Lib.hid hB.out.sees
  have gd := Lib.hid (ss.out.cell hd)
  have gx := Lib.hid (ss.out.cell hx)
  have gy := Lib.hid (ss.out.cell hy)
  unfold boolV at gd gx gy
  rw [hXd.out] at gd
  rw [hXx.out] at gx
  rw [hXy.out] at gy
  clear b0 b1
  go_enter Try.func42, Try.ntmps42
  repeat (first | (with_reducible refine wp_stop (id := 2) ?_) | (refine wpList_known rfl (at_nodes s0.out hd rfl rfl rfl rfl _) ?_) | (refine wpList_known rfl (get_nodeE s0.out hd e0.out e1.out e2.out rfl rfl) ?_) | go_values | go_skip | go_guarded | go_step | go_upon | go_back)
  unfold Hid
  clear s0
  generalize (w.alloc (.cells #[.slice aT m cT, .slice aA n cA, .slice (some ⟨p, 0, none⟩) m cK] 52)).alloc (.cells #[.int .i64 3, .int .i64 (x : Int), .int .i64 (y : Int)] 42) = w1 at *
  generalize w.heap.size = q at *
  have M := advMade_any 3 (x : Int) (y : Int) w1
  rw [show madeB 3 = true from rfl] at M
  have M2 : Hid (Calls Try.prog 39 #[.agg #[.int .i64 3, .int .i64 (x : Int), .int .i64 (y : Int)]] w1 fun e w' => ∃ v, e = .returned v ∧ (v = .bool true ∧ Below w1.heap.size w1 w')) := M.mono fun e w' ⟨h1, h2⟩ => ⟨_, h1, rfl, h2⟩
  clear M
  refine wp_region_lit ?_
  refine wpList_val (.pointer (some ⟨q + 1, 0, none⟩)) (by kernel_rfl) (by (go_simp; try omega)) ?_
  simp only [Act.put, List.setIfInBounds_toArray, List.set_cons_succ, List.set_cons_zero]
  refine wpList_val (.int .i64 3) (by kernel_rfl) (get_cell q1.out rfl rfl Try.underlying3 rfl rfl) ?_
  simp only [Act.put, List.setIfInBounds_toArray, List.set_cons_succ, List.set_cons_zero]
  refine wpList_val (.bool false) (by kernel_rfl) (by go_simp) ?_
  simp only [Act.put, List.setIfInBounds_toArray, List.set_cons_succ, List.set_cons_zero]
  refine wpList_val (.bool false) (by kernel_rfl) (by go_simp) ?_
  simp only [Act.put, List.setIfInBounds_toArray, List.set_cons_succ, List.set_cons_zero]
  with_reducible refine wpList_skip (by kernel_rfl) ?_
  simp only [Act.put, List.setIfInBounds_toArray, List.set_cons_succ, List.set_cons_zero]
  with_reducible refine wpList_skip (by kernel_rfl) ?_
  simp only [Act.put, List.setIfInBounds_toArray, List.set_cons_succ, List.set_cons_zero]
  with_reducible refine wpList_skip (by kernel_rfl) ?_
  simp only [Act.put, List.setIfInBounds_toArray, List.set_cons_succ, List.set_cons_zero]
  with_reducible refine wpList_skip (by kernel_rfl) ?_
  simp only [Act.put, List.setIfInBounds_toArray, List.set_cons_succ, List.set_cons_zero]
  with_reducible refine wpList_skip (by kernel_rfl) ?_
  simp only [Act.put, List.setIfInBounds_toArray, List.set_cons_succ, List.set_cons_zero]
  refine wpList_val (.bool false) (by kernel_rfl) (by go_simp) ?_
  simp only [Act.put, List.setIfInBounds_toArray, List.set_cons_succ, List.set_cons_zero]
  refine wpList_val (.bool false) (by kernel_rfl) (by go_simp) ?_
  simp only [Act.put, List.setIfInBounds_toArray, List.set_cons_succ, List.set_cons_zero]
  repeat (first | (with_reducible refine wp_stop (id := 4) ?_) | go_values | go_skip | go_guarded | go_step | go_upon | go_back)
  unfold Hid
  refine wp_region_lit ?_
  refine wpList_val (.pointer (some ⟨q + 1, 0, none⟩)) (by kernel_rfl) (by (go_simp; try omega)) ?_
  simp only [Act.put, List.setIfInBounds_toArray, List.set_cons_succ, List.set_cons_zero]
  refine wpList_val (.int .i64 3) (by kernel_rfl) (get_cell q1.out rfl rfl Try.underlying3 rfl rfl) ?_
  simp only [Act.put, List.setIfInBounds_toArray, List.set_cons_succ, List.set_cons_zero]
  refine wpList_val (.bool true) (by kernel_rfl) (by go_simp) ?_
  simp only [Act.put, List.setIfInBounds_toArray, List.set_cons_succ, List.set_cons_zero]
  refine wpList_val (.bool true) (by kernel_rfl) (by go_simp) ?_
  simp only [Act.put, List.setIfInBounds_toArray, List.set_cons_succ, List.set_cons_zero]
  refine wpList_val (.pointer (some ⟨q, 2, none⟩)) (by kernel_rfl) (by (go_simp; try omega)) ?_
  simp only [Act.put, List.setIfInBounds_toArray, List.set_cons_succ, List.set_cons_zero]
  refine wpList_val (.slice (some ⟨p, 0, none⟩) m cK) (by kernel_rfl) (get_cell q0.out rfl rfl Try.underlying28 rfl rfl) ?_
  simp only [Act.put, List.setIfInBounds_toArray, List.set_cons_succ, List.set_cons_zero]
  refine wpList_val (.int .i64 (d : Int)) (by kernel_rfl) (by go_simp) ?_
  simp only [Act.put, List.setIfInBounds_toArray, List.set_cons_succ, List.set_cons_zero]
  refine wpList_val (.pointer (some (elV (some ⟨p, 0, none⟩) d))) (by kernel_rfl) (at_bools ss.out hd rfl rfl rfl rfl _) ?_
  simp only [Act.put, List.setIfInBounds_toArray, List.set_cons_succ, List.set_cons_zero]
  refine wpList_val (.bool false) (by kernel_rfl) (get_bool gd.out rfl rfl) ?_
  simp only [Act.put, List.setIfInBounds_toArray, List.set_cons_succ, List.set_cons_zero]
  refine wpList_val (.bool false) (by kernel_rfl) (by go_simp) ?_
  simp only [Act.put, List.setIfInBounds_toArray, List.set_cons_succ, List.set_cons_zero]
  refine wpList_val (.bool false) (by kernel_rfl) (by go_simp) ?_
  simp only [Act.put, List.setIfInBounds_toArray, List.set_cons_succ, List.set_cons_zero]
  with_reducible refine wpList_skip (by kernel_rfl) ?_
  simp only [Act.put, List.setIfInBounds_toArray, List.set_cons_succ, List.set_cons_zero]
  with_reducible refine wpList_skip (by kernel_rfl) ?_
  simp only [Act.put, List.setIfInBounds_toArray, List.set_cons_succ, List.set_cons_zero]
  with_reducible refine wpList_skip (by kernel_rfl) ?_
  simp only [Act.put, List.setIfInBounds_toArray, List.set_cons_succ, List.set_cons_zero]
  with_reducible refine wpList_skip (by kernel_rfl) ?_
  simp only [Act.put, List.setIfInBounds_toArray, List.set_cons_succ, List.set_cons_zero]
  with_reducible refine wpList_skip (by kernel_rfl) ?_
  simp only [Act.put, List.setIfInBounds_toArray, List.set_cons_succ, List.set_cons_zero]
  with_reducible refine wpList_skip (by kernel_rfl) ?_
  simp only [Act.put, List.setIfInBounds_toArray, List.set_cons_succ, List.set_cons_zero]
  refine wpList_val (.bool false) (by kernel_rfl) (by go_simp) ?_
  simp only [Act.put, List.setIfInBounds_toArray, List.set_cons_succ, List.set_cons_zero]
  refine wpList_val (.bool false) (by kernel_rfl) (by go_simp) ?_
  simp only [Act.put, List.setIfInBounds_toArray, List.set_cons_succ, List.set_cons_zero]
  repeat (first | (with_reducible refine wp_stop (id := 6) ?_) | go_values | go_skip | go_guarded | go_step | go_upon | go_back)
  unfold Hid
  refine wp_region_lit ?_
  refine wpList_wload_row rfl 42 _ rfl (q + 1) rfl 42 #[.int .i64 3, .int .i64 (x : Int), .int .i64 (y : Int)] _ q1.out Try.underlying42 rfl sz_node ?_
  simp only [Act.put, List.setIfInBounds_toArray, List.set_cons_succ, List.set_cons_zero]
  refine wpList_calls (by kernel_rfl) M2.out (by go_simp) ?_
  rintro v2 w2 ⟨rfl, hb2⟩
  simp only [Act.put, List.setIfInBounds_toArray, List.set_cons_succ, List.set_cons_zero]
  have hA2 := Lib.hid (hA1.out.below hb2)
  have r0 := Lib.hid (q0.out.below hb2 q0.out.lt)
  have r1 := Lib.hid (q1.out.below hb2 q1.out.lt)
  have hB2 := Lib.hid (hB.out.after hb2)
  have ss2 := Lib.hid hB2.out.sees
  have gx2 := Lib.hid (ss2.out.cell hx)
  have gy2 := Lib.hid (ss2.out.cell hy)
  unfold boolV at gx2 gy2
  rw [hXx.out] at gx2
  rw [hXy.out] at gy2
  clear M2 hb2 q0 q1 ss gd gx gy hB hA1
  refine wpList_val (.bool true) (by kernel_rfl) (by go_simp) ?_
  simp only [Act.put, List.setIfInBounds_toArray, List.set_cons_succ, List.set_cons_zero]
  refine wpList_val (.pointer (some ⟨q, 2, none⟩)) (by kernel_rfl) (by (go_simp; try omega)) ?_
  simp only [Act.put, List.setIfInBounds_toArray, List.set_cons_succ, List.set_cons_zero]
  refine wpList_val (.slice (some ⟨p, 0, none⟩) m cK) (by kernel_rfl) (get_cell r0.out rfl rfl Try.underlying28 rfl rfl) ?_
  simp only [Act.put, List.setIfInBounds_toArray, List.set_cons_succ, List.set_cons_zero]
  refine wpList_val (.pointer (some ⟨q + 1, 1, none⟩)) (by kernel_rfl) (by (go_simp; try omega)) ?_
  simp only [Act.put, List.setIfInBounds_toArray, List.set_cons_succ, List.set_cons_zero]
  refine wpList_val (.int .i64 (x : Int)) (by kernel_rfl) (get_cell r1.out rfl rfl Try.underlying3 rfl rfl) ?_
  simp only [Act.put, List.setIfInBounds_toArray, List.set_cons_succ, List.set_cons_zero]
  refine wpList_val (.pointer (some (elV (some ⟨p, 0, none⟩) x))) (by kernel_rfl) (at_bools ss2.out hx rfl rfl rfl rfl _) ?_
  simp only [Act.put, List.setIfInBounds_toArray, List.set_cons_succ, List.set_cons_zero]
  refine wpList_val (.bool true) (by kernel_rfl) (get_bool gx2.out rfl rfl) ?_
  simp only [Act.put, List.setIfInBounds_toArray, List.set_cons_succ, List.set_cons_zero]
  refine wpList_val (.bool true) (by kernel_rfl) (by go_simp) ?_
  simp only [Act.put, List.setIfInBounds_toArray, List.set_cons_succ, List.set_cons_zero]
  refine wpList_val (.bool true) (by kernel_rfl) (by go_simp) ?_
  simp only [Act.put, List.setIfInBounds_toArray, List.set_cons_succ, List.set_cons_zero]
  refine wpList_val (.pointer (some ⟨q, 2, none⟩)) (by kernel_rfl) (by (go_simp; try omega)) ?_
  simp only [Act.put, List.setIfInBounds_toArray, List.set_cons_succ, List.set_cons_zero]
  refine wpList_val (.slice (some ⟨p, 0, none⟩) m cK) (by kernel_rfl) (get_cell r0.out rfl rfl Try.underlying28 rfl rfl) ?_
  simp only [Act.put, List.setIfInBounds_toArray, List.set_cons_succ, List.set_cons_zero]
  refine wpList_val (.pointer (some ⟨q + 1, 2, none⟩)) (by kernel_rfl) (by (go_simp; try omega)) ?_
  simp only [Act.put, List.setIfInBounds_toArray, List.set_cons_succ, List.set_cons_zero]
  refine wpList_val (.int .i64 (y : Int)) (by kernel_rfl) (get_cell r1.out rfl rfl Try.underlying3 rfl rfl) ?_
  simp only [Act.put, List.setIfInBounds_toArray, List.set_cons_succ, List.set_cons_zero]
  refine wpList_val (.pointer (some (elV (some ⟨p, 0, none⟩) y))) (by kernel_rfl) (at_bools ss2.out hy rfl rfl rfl rfl _) ?_
  simp only [Act.put, List.setIfInBounds_toArray, List.set_cons_succ, List.set_cons_zero]
  refine wpList_val (.bool true) (by kernel_rfl) (get_bool gy2.out rfl rfl) ?_
  simp only [Act.put, List.setIfInBounds_toArray, List.set_cons_succ, List.set_cons_zero]
  refine wpList_val (.bool true) (by kernel_rfl) (by go_simp) ?_
  simp only [Act.put, List.setIfInBounds_toArray, List.set_cons_succ, List.set_cons_zero]
  refine wpList_val (.bool true) (by kernel_rfl) (by go_simp) ?_
  simp only [Act.put, List.setIfInBounds_toArray, List.set_cons_succ, List.set_cons_zero]
  have A := add_any aT aA m cT n cA p cK d X hd w2 hB2
  have L := Lib.hid (learn_make hd hx hy (.inr e0.out) e1.out e2.out hXd.out hXx.out hXy.out)
  rw [hXd.out] at A L
  replace A := Lib.hid A
  clear ss2 gx2 gy2 r1
  go_wp2_with (first | (refine wpList_load_row rfl 52 _ rfl q rfl 52 #[.slice aT m cT, .slice aA n cA, .slice (some ⟨p, 0, none⟩) m cK] (0, 0) _ r0.out Try.underlying52 rfl sz_mind ?_))
  refine A.out.mono ?_
  rintro e w3 ⟨rfl, hB3, hA3⟩
  have hA := Lib.hid (hA2.out.trans hA3.out)
  clear A hA3
  go_wp2
  go_ret
  exact ⟨_, _, rfl, hB3, L, hA⟩

set_option maxHeartbeats 2000000 in
set_option maxRecDepth 8000 in
theorem learns_none3false (T : Nds) (aT aA : Option Addr) (m cT n cA p cK d x y : Nat) (X : Nat → Bool) (hd : d < m) (hx : x < m) (hy : y < m) (e0 : Hid (T d 0 = 3)) (e1 : Hid (T d 1 = (x : Int))) (e2 : Hid (T d 2 = (y : Int))) (hXd : Hid (X d = false)) (hXx : Hid (X x = false)) (w : World) (hT : Hid (SeesN w aT m T)) (hr : Hid (BRow w p m X)) :
    Calls Try.prog 42 #[.agg #[.slice aT m cT, .slice aA n cA, .slice (some ⟨p, 0, none⟩) m cK], .int .i64 (d : Int)] w (LearnEnd T m X d p w) := by
  have b0 : Below w.heap.size w (w.alloc (.cells #[.slice aT m cT, .slice aA n cA, .slice (some ⟨p, 0, none⟩) m cK] 52)) := (Below.refl w.heap.size w).alloc (Nat.le_refl _) _
  have b1 : Below w.heap.size w ((w.alloc (.cells #[.slice aT m cT, .slice aA n cA, .slice (some ⟨p, 0, none⟩) m cK] 52)).alloc (.cells #[.int .i64 3, .int .i64 (x : Int), .int .i64 (y : Int)] 42)) := b0.alloc b0.size _
  have s0 := Lib.hid (hT.out.after b0)
  have hB := Lib.hid (hr.out.after b1)
  have q0 := Lib.hid ((RowAt.new w 52 #[.slice aT m cT, .slice aA n cA, .slice (some ⟨p, 0, none⟩) m cK]).alloc (.cells #[.int .i64 3, .int .i64 (x : Int), .int .i64 (y : Int)] 42))
  have q1 := Lib.hid (RowAt.new (w.alloc (.cells #[.slice aT m cT, .slice aA n cA, .slice (some ⟨p, 0, none⟩) m cK] 52)) 42 #[.int .i64 3, .int .i64 (x : Int), .int .i64 (y : Int)])
  rw [World.size_alloc] at q1
  have hA1 := Lib.hid (Apart.of_below (p := p) b1)
  have ss := Lib.hid hB.out.sees
  have gd := Lib.hid (ss.out.cell hd)
  have gx := Lib.hid (ss.out.cell hx)
  have gy := Lib.hid (ss.out.cell hy)
  unfold boolV at gd gx gy
  rw [hXd.out] at gd
  rw [hXx.out] at gx
  clear b0 b1
  go_enter Try.func42, Try.ntmps42
  repeat (first | (with_reducible refine wp_stop (id := 2) ?_) | (refine wpList_known rfl (at_nodes s0.out hd rfl rfl rfl rfl _) ?_) | (refine wpList_known rfl (get_nodeE s0.out hd e0.out e1.out e2.out rfl rfl) ?_) | go_values | go_skip | go_guarded | go_step | go_upon | go_back)
  unfold Hid
  clear s0
  generalize (w.alloc (.cells #[.slice aT m cT, .slice aA n cA, .slice (some ⟨p, 0, none⟩) m cK] 52)).alloc (.cells #[.int .i64 3, .int .i64 (x : Int), .int .i64 (y : Int)] 42) = w1 at *
  generalize w.heap.size = q at *
  have M := advMade_any 3 (x : Int) (y : Int) w1
  rw [show madeB 3 = true from rfl] at M
  have M2 : Hid (Calls Try.prog 39 #[.agg #[.int .i64 3, .int .i64 (x : Int), .int .i64 (y : Int)]] w1 fun e w' => ∃ v, e = .returned v ∧ (v = .bool true ∧ Below w1.heap.size w1 w')) := M.mono fun e w' ⟨h1, h2⟩ => ⟨_, h1, rfl, h2⟩
  clear M
  refine wp_region_lit ?_
  refine wpList_val (.pointer (some ⟨q + 1, 0, none⟩)) (by kernel_rfl) (by (go_simp; try omega)) ?_
  simp only [Act.put, List.setIfInBounds_toArray, List.set_cons_succ, List.set_cons_zero]
  refine wpList_val (.int .i64 3) (by kernel_rfl) (get_cell q1.out rfl rfl Try.underlying3 rfl rfl) ?_
  simp only [Act.put, List.setIfInBounds_toArray, List.set_cons_succ, List.set_cons_zero]
  refine wpList_val (.bool false) (by kernel_rfl) (by go_simp) ?_
  simp only [Act.put, List.setIfInBounds_toArray, List.set_cons_succ, List.set_cons_zero]
  refine wpList_val (.bool false) (by kernel_rfl) (by go_simp) ?_
  simp only [Act.put, List.setIfInBounds_toArray, List.set_cons_succ, List.set_cons_zero]
  with_reducible refine wpList_skip (by kernel_rfl) ?_
  simp only [Act.put, List.setIfInBounds_toArray, List.set_cons_succ, List.set_cons_zero]
  with_reducible refine wpList_skip (by kernel_rfl) ?_
  simp only [Act.put, List.setIfInBounds_toArray, List.set_cons_succ, List.set_cons_zero]
  with_reducible refine wpList_skip (by kernel_rfl) ?_
  simp only [Act.put, List.setIfInBounds_toArray, List.set_cons_succ, List.set_cons_zero]
  with_reducible refine wpList_skip (by kernel_rfl) ?_
  simp only [Act.put, List.setIfInBounds_toArray, List.set_cons_succ, List.set_cons_zero]
  with_reducible refine wpList_skip (by kernel_rfl) ?_
  simp only [Act.put, List.setIfInBounds_toArray, List.set_cons_succ, List.set_cons_zero]
  refine wpList_val (.bool false) (by kernel_rfl) (by go_simp) ?_
  simp only [Act.put, List.setIfInBounds_toArray, List.set_cons_succ, List.set_cons_zero]
  refine wpList_val (.bool false) (by kernel_rfl) (by go_simp) ?_
  simp only [Act.put, List.setIfInBounds_toArray, List.set_cons_succ, List.set_cons_zero]
  repeat (first | (with_reducible refine wp_stop (id := 4) ?_) | go_values | go_skip | go_guarded | go_step | go_upon | go_back)
  unfold Hid
  refine wp_region_lit ?_
  refine wpList_val (.pointer (some ⟨q + 1, 0, none⟩)) (by kernel_rfl) (by (go_simp; try omega)) ?_
  simp only [Act.put, List.setIfInBounds_toArray, List.set_cons_succ, List.set_cons_zero]
  refine wpList_val (.int .i64 3) (by kernel_rfl) (get_cell q1.out rfl rfl Try.underlying3 rfl rfl) ?_
  simp only [Act.put, List.setIfInBounds_toArray, List.set_cons_succ, List.set_cons_zero]
  refine wpList_val (.bool true) (by kernel_rfl) (by go_simp) ?_
  simp only [Act.put, List.setIfInBounds_toArray, List.set_cons_succ, List.set_cons_zero]
  refine wpList_val (.bool true) (by kernel_rfl) (by go_simp) ?_
  simp only [Act.put, List.setIfInBounds_toArray, List.set_cons_succ, List.set_cons_zero]
  refine wpList_val (.pointer (some ⟨q, 2, none⟩)) (by kernel_rfl) (by (go_simp; try omega)) ?_
  simp only [Act.put, List.setIfInBounds_toArray, List.set_cons_succ, List.set_cons_zero]
  refine wpList_val (.slice (some ⟨p, 0, none⟩) m cK) (by kernel_rfl) (get_cell q0.out rfl rfl Try.underlying28 rfl rfl) ?_
  simp only [Act.put, List.setIfInBounds_toArray, List.set_cons_succ, List.set_cons_zero]
  refine wpList_val (.int .i64 (d : Int)) (by kernel_rfl) (by go_simp) ?_
  simp only [Act.put, List.setIfInBounds_toArray, List.set_cons_succ, List.set_cons_zero]
  refine wpList_val (.pointer (some (elV (some ⟨p, 0, none⟩) d))) (by kernel_rfl) (at_bools ss.out hd rfl rfl rfl rfl _) ?_
  simp only [Act.put, List.setIfInBounds_toArray, List.set_cons_succ, List.set_cons_zero]
  refine wpList_val (.bool false) (by kernel_rfl) (get_bool gd.out rfl rfl) ?_
  simp only [Act.put, List.setIfInBounds_toArray, List.set_cons_succ, List.set_cons_zero]
  refine wpList_val (.bool false) (by kernel_rfl) (by go_simp) ?_
  simp only [Act.put, List.setIfInBounds_toArray, List.set_cons_succ, List.set_cons_zero]
  refine wpList_val (.bool false) (by kernel_rfl) (by go_simp) ?_
  simp only [Act.put, List.setIfInBounds_toArray, List.set_cons_succ, List.set_cons_zero]
  with_reducible refine wpList_skip (by kernel_rfl) ?_
  simp only [Act.put, List.setIfInBounds_toArray, List.set_cons_succ, List.set_cons_zero]
  with_reducible refine wpList_skip (by kernel_rfl) ?_
  simp only [Act.put, List.setIfInBounds_toArray, List.set_cons_succ, List.set_cons_zero]
  with_reducible refine wpList_skip (by kernel_rfl) ?_
  simp only [Act.put, List.setIfInBounds_toArray, List.set_cons_succ, List.set_cons_zero]
  with_reducible refine wpList_skip (by kernel_rfl) ?_
  simp only [Act.put, List.setIfInBounds_toArray, List.set_cons_succ, List.set_cons_zero]
  with_reducible refine wpList_skip (by kernel_rfl) ?_
  simp only [Act.put, List.setIfInBounds_toArray, List.set_cons_succ, List.set_cons_zero]
  with_reducible refine wpList_skip (by kernel_rfl) ?_
  simp only [Act.put, List.setIfInBounds_toArray, List.set_cons_succ, List.set_cons_zero]
  refine wpList_val (.bool false) (by kernel_rfl) (by go_simp) ?_
  simp only [Act.put, List.setIfInBounds_toArray, List.set_cons_succ, List.set_cons_zero]
  refine wpList_val (.bool false) (by kernel_rfl) (by go_simp) ?_
  simp only [Act.put, List.setIfInBounds_toArray, List.set_cons_succ, List.set_cons_zero]
  repeat (first | (with_reducible refine wp_stop (id := 6) ?_) | go_values | go_skip | go_guarded | go_step | go_upon | go_back)
  unfold Hid
  refine wp_region_lit ?_
  refine wpList_wload_row rfl 42 _ rfl (q + 1) rfl 42 #[.int .i64 3, .int .i64 (x : Int), .int .i64 (y : Int)] _ q1.out Try.underlying42 rfl sz_node ?_
  simp only [Act.put, List.setIfInBounds_toArray, List.set_cons_succ, List.set_cons_zero]
  refine wpList_calls (by kernel_rfl) M2.out (by go_simp) ?_
  rintro v2 w2 ⟨rfl, hb2⟩
  simp only [Act.put, List.setIfInBounds_toArray, List.set_cons_succ, List.set_cons_zero]
  have hA2 := Lib.hid (hA1.out.below hb2)
  have r0 := Lib.hid (q0.out.below hb2 q0.out.lt)
  have r1 := Lib.hid (q1.out.below hb2 q1.out.lt)
  have hB2 := Lib.hid (hB.out.after hb2)
  have ss2 := Lib.hid hB2.out.sees
  have gx2 := Lib.hid (ss2.out.cell hx)
  have gy2 := Lib.hid (ss2.out.cell hy)
  unfold boolV at gx2 gy2
  rw [hXx.out] at gx2
  clear M2 hb2 q0 q1 ss gd gx gy hB hA1
  refine wpList_val (.bool true) (by kernel_rfl) (by go_simp) ?_
  simp only [Act.put, List.setIfInBounds_toArray, List.set_cons_succ, List.set_cons_zero]
  refine wpList_val (.pointer (some ⟨q, 2, none⟩)) (by kernel_rfl) (by (go_simp; try omega)) ?_
  simp only [Act.put, List.setIfInBounds_toArray, List.set_cons_succ, List.set_cons_zero]
  refine wpList_val (.slice (some ⟨p, 0, none⟩) m cK) (by kernel_rfl) (get_cell r0.out rfl rfl Try.underlying28 rfl rfl) ?_
  simp only [Act.put, List.setIfInBounds_toArray, List.set_cons_succ, List.set_cons_zero]
  refine wpList_val (.pointer (some ⟨q + 1, 1, none⟩)) (by kernel_rfl) (by (go_simp; try omega)) ?_
  simp only [Act.put, List.setIfInBounds_toArray, List.set_cons_succ, List.set_cons_zero]
  refine wpList_val (.int .i64 (x : Int)) (by kernel_rfl) (get_cell r1.out rfl rfl Try.underlying3 rfl rfl) ?_
  simp only [Act.put, List.setIfInBounds_toArray, List.set_cons_succ, List.set_cons_zero]
  refine wpList_val (.pointer (some (elV (some ⟨p, 0, none⟩) x))) (by kernel_rfl) (at_bools ss2.out hx rfl rfl rfl rfl _) ?_
  simp only [Act.put, List.setIfInBounds_toArray, List.set_cons_succ, List.set_cons_zero]
  refine wpList_val (.bool false) (by kernel_rfl) (get_bool gx2.out rfl rfl) ?_
  simp only [Act.put, List.setIfInBounds_toArray, List.set_cons_succ, List.set_cons_zero]
  refine wpList_val (.bool false) (by kernel_rfl) (by go_simp) ?_
  simp only [Act.put, List.setIfInBounds_toArray, List.set_cons_succ, List.set_cons_zero]
  refine wpList_val (.bool false) (by kernel_rfl) (by go_simp) ?_
  simp only [Act.put, List.setIfInBounds_toArray, List.set_cons_succ, List.set_cons_zero]
  with_reducible refine wpList_skip (by kernel_rfl) ?_
  simp only [Act.put, List.setIfInBounds_toArray, List.set_cons_succ, List.set_cons_zero]
  with_reducible refine wpList_skip (by kernel_rfl) ?_
  simp only [Act.put, List.setIfInBounds_toArray, List.set_cons_succ, List.set_cons_zero]
  with_reducible refine wpList_skip (by kernel_rfl) ?_
  simp only [Act.put, List.setIfInBounds_toArray, List.set_cons_succ, List.set_cons_zero]
  with_reducible refine wpList_skip (by kernel_rfl) ?_
  simp only [Act.put, List.setIfInBounds_toArray, List.set_cons_succ, List.set_cons_zero]
  with_reducible refine wpList_skip (by kernel_rfl) ?_
  simp only [Act.put, List.setIfInBounds_toArray, List.set_cons_succ, List.set_cons_zero]
  with_reducible refine wpList_skip (by kernel_rfl) ?_
  simp only [Act.put, List.setIfInBounds_toArray, List.set_cons_succ, List.set_cons_zero]
  refine wpList_val (.bool false) (by kernel_rfl) (by go_simp) ?_
  simp only [Act.put, List.setIfInBounds_toArray, List.set_cons_succ, List.set_cons_zero]
  refine wpList_val (.bool false) (by kernel_rfl) (by go_simp) ?_
  simp only [Act.put, List.setIfInBounds_toArray, List.set_cons_succ, List.set_cons_zero]
  have L : Hid (LearnOk T m X d false X) := learn_none e1.out e2.out (fun h => by have := e0.out; omega) (fun _ _ => hXx.out) (.inl hXx.out)
  clear ss2 gx2 gy2 r0 r1
  go_wp2
  go_ret
  exact ⟨_, _, rfl, hB2, L, hA2⟩

set_option maxHeartbeats 2000000 in
set_option maxRecDepth 8000 in
theorem learns_none3true (T : Nds) (aT aA : Option Addr) (m cT n cA p cK d x y : Nat) (X : Nat → Bool) (hd : d < m) (hx : x < m) (hy : y < m) (e0 : Hid (T d 0 = 3)) (e1 : Hid (T d 1 = (x : Int))) (e2 : Hid (T d 2 = (y : Int))) (hXd : Hid (X d = true)) (hXx : Hid (X x = false)) (w : World) (hT : Hid (SeesN w aT m T)) (hr : Hid (BRow w p m X)) :
    Calls Try.prog 42 #[.agg #[.slice aT m cT, .slice aA n cA, .slice (some ⟨p, 0, none⟩) m cK], .int .i64 (d : Int)] w (LearnEnd T m X d p w) := by
  have b0 : Below w.heap.size w (w.alloc (.cells #[.slice aT m cT, .slice aA n cA, .slice (some ⟨p, 0, none⟩) m cK] 52)) := (Below.refl w.heap.size w).alloc (Nat.le_refl _) _
  have b1 : Below w.heap.size w ((w.alloc (.cells #[.slice aT m cT, .slice aA n cA, .slice (some ⟨p, 0, none⟩) m cK] 52)).alloc (.cells #[.int .i64 3, .int .i64 (x : Int), .int .i64 (y : Int)] 42)) := b0.alloc b0.size _
  have s0 := Lib.hid (hT.out.after b0)
  have hB := Lib.hid (hr.out.after b1)
  have q0 := Lib.hid ((RowAt.new w 52 #[.slice aT m cT, .slice aA n cA, .slice (some ⟨p, 0, none⟩) m cK]).alloc (.cells #[.int .i64 3, .int .i64 (x : Int), .int .i64 (y : Int)] 42))
  have q1 := Lib.hid (RowAt.new (w.alloc (.cells #[.slice aT m cT, .slice aA n cA, .slice (some ⟨p, 0, none⟩) m cK] 52)) 42 #[.int .i64 3, .int .i64 (x : Int), .int .i64 (y : Int)])
  rw [World.size_alloc] at q1
  have hA1 := Lib.hid (Apart.of_below (p := p) b1)
  have ss := Lib.hid hB.out.sees
  have gd := Lib.hid (ss.out.cell hd)
  have gx := Lib.hid (ss.out.cell hx)
  have gy := Lib.hid (ss.out.cell hy)
  unfold boolV at gd gx gy
  rw [hXd.out] at gd
  rw [hXx.out] at gx
  clear b0 b1
  go_enter Try.func42, Try.ntmps42
  repeat (first | (with_reducible refine wp_stop (id := 2) ?_) | (refine wpList_known rfl (at_nodes s0.out hd rfl rfl rfl rfl _) ?_) | (refine wpList_known rfl (get_nodeE s0.out hd e0.out e1.out e2.out rfl rfl) ?_) | go_values | go_skip | go_guarded | go_step | go_upon | go_back)
  unfold Hid
  clear s0
  generalize (w.alloc (.cells #[.slice aT m cT, .slice aA n cA, .slice (some ⟨p, 0, none⟩) m cK] 52)).alloc (.cells #[.int .i64 3, .int .i64 (x : Int), .int .i64 (y : Int)] 42) = w1 at *
  generalize w.heap.size = q at *
  have M := advMade_any 3 (x : Int) (y : Int) w1
  rw [show madeB 3 = true from rfl] at M
  have M2 : Hid (Calls Try.prog 39 #[.agg #[.int .i64 3, .int .i64 (x : Int), .int .i64 (y : Int)]] w1 fun e w' => ∃ v, e = .returned v ∧ (v = .bool true ∧ Below w1.heap.size w1 w')) := M.mono fun e w' ⟨h1, h2⟩ => ⟨_, h1, rfl, h2⟩
  clear M
  refine wp_region_lit ?_
  refine wpList_val (.pointer (some ⟨q + 1, 0, none⟩)) (by kernel_rfl) (by (go_simp; try omega)) ?_
  simp only [Act.put, List.setIfInBounds_toArray, List.set_cons_succ, List.set_cons_zero]
  refine wpList_val (.int .i64 3) (by kernel_rfl) (get_cell q1.out rfl rfl Try.underlying3 rfl rfl) ?_
  simp only [Act.put, List.setIfInBounds_toArray, List.set_cons_succ, List.set_cons_zero]
  refine wpList_val (.bool false) (by kernel_rfl) (by go_simp) ?_
  simp only [Act.put, List.setIfInBounds_toArray, List.set_cons_succ, List.set_cons_zero]
  refine wpList_val (.bool false) (by kernel_rfl) (by go_simp) ?_
  simp only [Act.put, List.setIfInBounds_toArray, List.set_cons_succ, List.set_cons_zero]
  with_reducible refine wpList_skip (by kernel_rfl) ?_
  simp only [Act.put, List.setIfInBounds_toArray, List.set_cons_succ, List.set_cons_zero]
  with_reducible refine wpList_skip (by kernel_rfl) ?_
  simp only [Act.put, List.setIfInBounds_toArray, List.set_cons_succ, List.set_cons_zero]
  with_reducible refine wpList_skip (by kernel_rfl) ?_
  simp only [Act.put, List.setIfInBounds_toArray, List.set_cons_succ, List.set_cons_zero]
  with_reducible refine wpList_skip (by kernel_rfl) ?_
  simp only [Act.put, List.setIfInBounds_toArray, List.set_cons_succ, List.set_cons_zero]
  with_reducible refine wpList_skip (by kernel_rfl) ?_
  simp only [Act.put, List.setIfInBounds_toArray, List.set_cons_succ, List.set_cons_zero]
  refine wpList_val (.bool false) (by kernel_rfl) (by go_simp) ?_
  simp only [Act.put, List.setIfInBounds_toArray, List.set_cons_succ, List.set_cons_zero]
  refine wpList_val (.bool false) (by kernel_rfl) (by go_simp) ?_
  simp only [Act.put, List.setIfInBounds_toArray, List.set_cons_succ, List.set_cons_zero]
  repeat (first | (with_reducible refine wp_stop (id := 4) ?_) | go_values | go_skip | go_guarded | go_step | go_upon | go_back)
  unfold Hid
  refine wp_region_lit ?_
  refine wpList_val (.pointer (some ⟨q + 1, 0, none⟩)) (by kernel_rfl) (by (go_simp; try omega)) ?_
  simp only [Act.put, List.setIfInBounds_toArray, List.set_cons_succ, List.set_cons_zero]
  refine wpList_val (.int .i64 3) (by kernel_rfl) (get_cell q1.out rfl rfl Try.underlying3 rfl rfl) ?_
  simp only [Act.put, List.setIfInBounds_toArray, List.set_cons_succ, List.set_cons_zero]
  refine wpList_val (.bool true) (by kernel_rfl) (by go_simp) ?_
  simp only [Act.put, List.setIfInBounds_toArray, List.set_cons_succ, List.set_cons_zero]
  refine wpList_val (.bool true) (by kernel_rfl) (by go_simp) ?_
  simp only [Act.put, List.setIfInBounds_toArray, List.set_cons_succ, List.set_cons_zero]
  refine wpList_val (.pointer (some ⟨q, 2, none⟩)) (by kernel_rfl) (by (go_simp; try omega)) ?_
  simp only [Act.put, List.setIfInBounds_toArray, List.set_cons_succ, List.set_cons_zero]
  refine wpList_val (.slice (some ⟨p, 0, none⟩) m cK) (by kernel_rfl) (get_cell q0.out rfl rfl Try.underlying28 rfl rfl) ?_
  simp only [Act.put, List.setIfInBounds_toArray, List.set_cons_succ, List.set_cons_zero]
  refine wpList_val (.int .i64 (d : Int)) (by kernel_rfl) (by go_simp) ?_
  simp only [Act.put, List.setIfInBounds_toArray, List.set_cons_succ, List.set_cons_zero]
  refine wpList_val (.pointer (some (elV (some ⟨p, 0, none⟩) d))) (by kernel_rfl) (at_bools ss.out hd rfl rfl rfl rfl _) ?_
  simp only [Act.put, List.setIfInBounds_toArray, List.set_cons_succ, List.set_cons_zero]
  refine wpList_val (.bool true) (by kernel_rfl) (get_bool gd.out rfl rfl) ?_
  simp only [Act.put, List.setIfInBounds_toArray, List.set_cons_succ, List.set_cons_zero]
  refine wpList_val (.bool true) (by kernel_rfl) (by go_simp) ?_
  simp only [Act.put, List.setIfInBounds_toArray, List.set_cons_succ, List.set_cons_zero]
  refine wpList_val (.bool true) (by kernel_rfl) (by go_simp) ?_
  simp only [Act.put, List.setIfInBounds_toArray, List.set_cons_succ, List.set_cons_zero]
  refine wpList_val (.pointer (some ⟨q, 2, none⟩)) (by kernel_rfl) (by (go_simp; try omega)) ?_
  simp only [Act.put, List.setIfInBounds_toArray, List.set_cons_succ, List.set_cons_zero]
  refine wpList_val (.slice (some ⟨p, 0, none⟩) m cK) (by kernel_rfl) (get_cell q0.out rfl rfl Try.underlying28 rfl rfl) ?_
  simp only [Act.put, List.setIfInBounds_toArray, List.set_cons_succ, List.set_cons_zero]
  refine wpList_val (.pointer (some ⟨q + 1, 1, none⟩)) (by kernel_rfl) (by (go_simp; try omega)) ?_
  simp only [Act.put, List.setIfInBounds_toArray, List.set_cons_succ, List.set_cons_zero]
  refine wpList_val (.int .i64 (x : Int)) (by kernel_rfl) (get_cell q1.out rfl rfl Try.underlying3 rfl rfl) ?_
  simp only [Act.put, List.setIfInBounds_toArray, List.set_cons_succ, List.set_cons_zero]
  refine wpList_val (.pointer (some (elV (some ⟨p, 0, none⟩) x))) (by kernel_rfl) (at_bools ss.out hx rfl rfl rfl rfl _) ?_
  simp only [Act.put, List.setIfInBounds_toArray, List.set_cons_succ, List.set_cons_zero]
  refine wpList_val (.bool false) (by kernel_rfl) (get_bool gx.out rfl rfl) ?_
  simp only [Act.put, List.setIfInBounds_toArray, List.set_cons_succ, List.set_cons_zero]
  refine wpList_val (.bool false) (by kernel_rfl) (by go_simp) ?_
  simp only [Act.put, List.setIfInBounds_toArray, List.set_cons_succ, List.set_cons_zero]
  refine wpList_val (.bool false) (by kernel_rfl) (by go_simp) ?_
  simp only [Act.put, List.setIfInBounds_toArray, List.set_cons_succ, List.set_cons_zero]
  repeat (first | (with_reducible refine wp_stop (id := 6) ?_) | go_values | go_skip | go_guarded | go_step | go_upon | go_back)
  unfold Hid
  refine wp_region_lit ?_
  refine wpList_wload_row rfl 42 _ rfl (q + 1) rfl 42 #[.int .i64 3, .int .i64 (x : Int), .int .i64 (y : Int)] _ q1.out Try.underlying42 rfl sz_node ?_
  simp only [Act.put, List.setIfInBounds_toArray, List.set_cons_succ, List.set_cons_zero]
  refine wpList_calls (by kernel_rfl) M2.out (by go_simp) ?_
  rintro v2 w2 ⟨rfl, hb2⟩
  simp only [Act.put, List.setIfInBounds_toArray, List.set_cons_succ, List.set_cons_zero]
  have hA2 := Lib.hid (hA1.out.below hb2)
  have r0 := Lib.hid (q0.out.below hb2 q0.out.lt)
  have r1 := Lib.hid (q1.out.below hb2 q1.out.lt)
  have hB2 := Lib.hid (hB.out.after hb2)
  have ss2 := Lib.hid hB2.out.sees
  have gx2 := Lib.hid (ss2.out.cell hx)
  have gy2 := Lib.hid (ss2.out.cell hy)
  unfold boolV at gx2 gy2
  rw [hXx.out] at gx2
  clear M2 hb2 q0 q1 ss gd gx gy hB hA1
  refine wpList_val (.bool true) (by kernel_rfl) (by go_simp) ?_
  simp only [Act.put, List.setIfInBounds_toArray, List.set_cons_succ, List.set_cons_zero]
  refine wpList_val (.pointer (some ⟨q, 2, none⟩)) (by kernel_rfl) (by (go_simp; try omega)) ?_
  simp only [Act.put, List.setIfInBounds_toArray, List.set_cons_succ, List.set_cons_zero]
  refine wpList_val (.slice (some ⟨p, 0, none⟩) m cK) (by kernel_rfl) (get_cell r0.out rfl rfl Try.underlying28 rfl rfl) ?_
  simp only [Act.put, List.setIfInBounds_toArray, List.set_cons_succ, List.set_cons_zero]
  refine wpList_val (.pointer (some ⟨q + 1, 1, none⟩)) (by kernel_rfl) (by (go_simp; try omega)) ?_
  simp only [Act.put, List.setIfInBounds_toArray, List.set_cons_succ, List.set_cons_zero]
  refine wpList_val (.int .i64 (x : Int)) (by kernel_rfl) (get_cell r1.out rfl rfl Try.underlying3 rfl rfl) ?_
  simp only [Act.put, List.setIfInBounds_toArray, List.set_cons_succ, List.set_cons_zero]
  refine wpList_val (.pointer (some (elV (some ⟨p, 0, none⟩) x))) (by kernel_rfl) (at_bools ss2.out hx rfl rfl rfl rfl _) ?_
  simp only [Act.put, List.setIfInBounds_toArray, List.set_cons_succ, List.set_cons_zero]
  refine wpList_val (.bool false) (by kernel_rfl) (get_bool gx2.out rfl rfl) ?_
  simp only [Act.put, List.setIfInBounds_toArray, List.set_cons_succ, List.set_cons_zero]
  refine wpList_val (.bool false) (by kernel_rfl) (by go_simp) ?_
  simp only [Act.put, List.setIfInBounds_toArray, List.set_cons_succ, List.set_cons_zero]
  refine wpList_val (.bool false) (by kernel_rfl) (by go_simp) ?_
  simp only [Act.put, List.setIfInBounds_toArray, List.set_cons_succ, List.set_cons_zero]
  with_reducible refine wpList_skip (by kernel_rfl) ?_
  simp only [Act.put, List.setIfInBounds_toArray, List.set_cons_succ, List.set_cons_zero]
  with_reducible refine wpList_skip (by kernel_rfl) ?_
  simp only [Act.put, List.setIfInBounds_toArray, List.set_cons_succ, List.set_cons_zero]
  with_reducible refine wpList_skip (by kernel_rfl) ?_
  simp only [Act.put, List.setIfInBounds_toArray, List.set_cons_succ, List.set_cons_zero]
  with_reducible refine wpList_skip (by kernel_rfl) ?_
  simp only [Act.put, List.setIfInBounds_toArray, List.set_cons_succ, List.set_cons_zero]
  with_reducible refine wpList_skip (by kernel_rfl) ?_
  simp only [Act.put, List.setIfInBounds_toArray, List.set_cons_succ, List.set_cons_zero]
  with_reducible refine wpList_skip (by kernel_rfl) ?_
  simp only [Act.put, List.setIfInBounds_toArray, List.set_cons_succ, List.set_cons_zero]
  refine wpList_val (.bool false) (by kernel_rfl) (by go_simp) ?_
  simp only [Act.put, List.setIfInBounds_toArray, List.set_cons_succ, List.set_cons_zero]
  refine wpList_val (.bool false) (by kernel_rfl) (by go_simp) ?_
  simp only [Act.put, List.setIfInBounds_toArray, List.set_cons_succ, List.set_cons_zero]
  have L : Hid (LearnOk T m X d false X) := learn_none e1.out e2.out (fun h => by have := e0.out; omega) (fun _ _ => hXx.out) (.inl hXx.out)
  clear ss2 gx2 gy2 r0 r1
  go_wp2
  go_ret
  exact ⟨_, _, rfl, hB2, L, hA2⟩

set_option maxHeartbeats 2000000 in
set_option maxRecDepth 8000 in
theorem learns_half3 (T : Nds) (aT aA : Option Addr) (m cT n cA p cK d x y : Nat) (X : Nat → Bool) (hd : d < m) (hx : x < m) (hy : y < m) (e0 : Hid (T d 0 = 3)) (e1 : Hid (T d 1 = (x : Int))) (e2 : Hid (T d 2 = (y : Int))) (hXd : Hid (X d = false)) (hXx : Hid (X x = true)) (hXy : Hid (X y = false)) (w : World) (hT : Hid (SeesN w aT m T)) (hr : Hid (BRow w p m X)) :
    Calls Try.prog 42 #[.agg #[.slice aT m cT, .slice aA n cA, .slice (some ⟨p, 0, none⟩) m cK], .int .i64 (d : Int)] w (LearnEnd T m X d p w) := by
  have b0 : Below w.heap.size w (w.alloc (.cells #[.slice aT m cT, .slice aA n cA, .slice (some ⟨p, 0, none⟩) m cK] 52)) := (Below.refl w.heap.size w).alloc (Nat.le_refl _) _
  have b1 : Below w.heap.size w ((w.alloc (.cells #[.slice aT m cT, .slice aA n cA, .slice (some ⟨p, 0, none⟩) m cK] 52)).alloc (.cells #[.int .i64 3, .int .i64 (x : Int), .int .i64 (y : Int)] 42)) := b0.alloc b0.size _
  have s0 := Lib.hid (hT.out.after b0)
  have hB := Lib.hid (hr.out.after b1)
  have q0 := Lib.hid ((RowAt.new w 52 #[.slice aT m cT, .slice aA n cA, .slice (some ⟨p, 0, none⟩) m cK]).alloc (.cells #[.int .i64 3, .int .i64 (x : Int), .int .i64 (y : Int)] 42))
  have q1 := Lib.hid (RowAt.new (w.alloc (.cells #[.slice aT m cT, .slice aA n cA, .slice (some ⟨p, 0, none⟩) m cK] 52)) 42 #[.int .i64 3, .int .i64 (x : Int), .int .i64 (y : Int)])
  rw [World.size_alloc] at q1
  have hA1 := Lib.hid (Apart.of_below (p := p) b1)
  have ss := Lib.hid hB.out.sees
  have gd := Lib.hid (ss.out.cell hd)
  have gx := Lib.hid (ss.out.cell hx)
  have gy := Lib.hid (ss.out.cell hy)
  unfold boolV at gd gx gy
  rw [hXd.out] at gd
  rw [hXx.out] at gx
  rw [hXy.out] at gy
  clear b0 b1
  go_enter Try.func42, Try.ntmps42
  repeat (first | (with_reducible refine wp_stop (id := 2) ?_) | (refine wpList_known rfl (at_nodes s0.out hd rfl rfl rfl rfl _) ?_) | (refine wpList_known rfl (get_nodeE s0.out hd e0.out e1.out e2.out rfl rfl) ?_) | go_values | go_skip | go_guarded | go_step | go_upon | go_back)
  unfold Hid
  clear s0
  generalize (w.alloc (.cells #[.slice aT m cT, .slice aA n cA, .slice (some ⟨p, 0, none⟩) m cK] 52)).alloc (.cells #[.int .i64 3, .int .i64 (x : Int), .int .i64 (y : Int)] 42) = w1 at *
  generalize w.heap.size = q at *
  have M := advMade_any 3 (x : Int) (y : Int) w1
  rw [show madeB 3 = true from rfl] at M
  have M2 : Hid (Calls Try.prog 39 #[.agg #[.int .i64 3, .int .i64 (x : Int), .int .i64 (y : Int)]] w1 fun e w' => ∃ v, e = .returned v ∧ (v = .bool true ∧ Below w1.heap.size w1 w')) := M.mono fun e w' ⟨h1, h2⟩ => ⟨_, h1, rfl, h2⟩
  clear M
  refine wp_region_lit ?_
  refine wpList_val (.pointer (some ⟨q + 1, 0, none⟩)) (by kernel_rfl) (by (go_simp; try omega)) ?_
  simp only [Act.put, List.setIfInBounds_toArray, List.set_cons_succ, List.set_cons_zero]
  refine wpList_val (.int .i64 3) (by kernel_rfl) (get_cell q1.out rfl rfl Try.underlying3 rfl rfl) ?_
  simp only [Act.put, List.setIfInBounds_toArray, List.set_cons_succ, List.set_cons_zero]
  refine wpList_val (.bool false) (by kernel_rfl) (by go_simp) ?_
  simp only [Act.put, List.setIfInBounds_toArray, List.set_cons_succ, List.set_cons_zero]
  refine wpList_val (.bool false) (by kernel_rfl) (by go_simp) ?_
  simp only [Act.put, List.setIfInBounds_toArray, List.set_cons_succ, List.set_cons_zero]
  with_reducible refine wpList_skip (by kernel_rfl) ?_
  simp only [Act.put, List.setIfInBounds_toArray, List.set_cons_succ, List.set_cons_zero]
  with_reducible refine wpList_skip (by kernel_rfl) ?_
  simp only [Act.put, List.setIfInBounds_toArray, List.set_cons_succ, List.set_cons_zero]
  with_reducible refine wpList_skip (by kernel_rfl) ?_
  simp only [Act.put, List.setIfInBounds_toArray, List.set_cons_succ, List.set_cons_zero]
  with_reducible refine wpList_skip (by kernel_rfl) ?_
  simp only [Act.put, List.setIfInBounds_toArray, List.set_cons_succ, List.set_cons_zero]
  with_reducible refine wpList_skip (by kernel_rfl) ?_
  simp only [Act.put, List.setIfInBounds_toArray, List.set_cons_succ, List.set_cons_zero]
  refine wpList_val (.bool false) (by kernel_rfl) (by go_simp) ?_
  simp only [Act.put, List.setIfInBounds_toArray, List.set_cons_succ, List.set_cons_zero]
  refine wpList_val (.bool false) (by kernel_rfl) (by go_simp) ?_
  simp only [Act.put, List.setIfInBounds_toArray, List.set_cons_succ, List.set_cons_zero]
  repeat (first | (with_reducible refine wp_stop (id := 4) ?_) | go_values | go_skip | go_guarded | go_step | go_upon | go_back)
  unfold Hid
  refine wp_region_lit ?_
  refine wpList_val (.pointer (some ⟨q + 1, 0, none⟩)) (by kernel_rfl) (by (go_simp; try omega)) ?_
  simp only [Act.put, List.setIfInBounds_toArray, List.set_cons_succ, List.set_cons_zero]
  refine wpList_val (.int .i64 3) (by kernel_rfl) (get_cell q1.out rfl rfl Try.underlying3 rfl rfl) ?_
  simp only [Act.put, List.setIfInBounds_toArray, List.set_cons_succ, List.set_cons_zero]
  refine wpList_val (.bool true) (by kernel_rfl) (by go_simp) ?_
  simp only [Act.put, List.setIfInBounds_toArray, List.set_cons_succ, List.set_cons_zero]
  refine wpList_val (.bool true) (by kernel_rfl) (by go_simp) ?_
  simp only [Act.put, List.setIfInBounds_toArray, List.set_cons_succ, List.set_cons_zero]
  refine wpList_val (.pointer (some ⟨q, 2, none⟩)) (by kernel_rfl) (by (go_simp; try omega)) ?_
  simp only [Act.put, List.setIfInBounds_toArray, List.set_cons_succ, List.set_cons_zero]
  refine wpList_val (.slice (some ⟨p, 0, none⟩) m cK) (by kernel_rfl) (get_cell q0.out rfl rfl Try.underlying28 rfl rfl) ?_
  simp only [Act.put, List.setIfInBounds_toArray, List.set_cons_succ, List.set_cons_zero]
  refine wpList_val (.int .i64 (d : Int)) (by kernel_rfl) (by go_simp) ?_
  simp only [Act.put, List.setIfInBounds_toArray, List.set_cons_succ, List.set_cons_zero]
  refine wpList_val (.pointer (some (elV (some ⟨p, 0, none⟩) d))) (by kernel_rfl) (at_bools ss.out hd rfl rfl rfl rfl _) ?_
  simp only [Act.put, List.setIfInBounds_toArray, List.set_cons_succ, List.set_cons_zero]
  refine wpList_val (.bool false) (by kernel_rfl) (get_bool gd.out rfl rfl) ?_
  simp only [Act.put, List.setIfInBounds_toArray, List.set_cons_succ, List.set_cons_zero]
  refine wpList_val (.bool false) (by kernel_rfl) (by go_simp) ?_
  simp only [Act.put, List.setIfInBounds_toArray, List.set_cons_succ, List.set_cons_zero]
  refine wpList_val (.bool false) (by kernel_rfl) (by go_simp) ?_
  simp only [Act.put, List.setIfInBounds_toArray, List.set_cons_succ, List.set_cons_zero]
  with_reducible refine wpList_skip (by kernel_rfl) ?_
  simp only [Act.put, List.setIfInBounds_toArray, List.set_cons_succ, List.set_cons_zero]
  with_reducible refine wpList_skip (by kernel_rfl) ?_
  simp only [Act.put, List.setIfInBounds_toArray, List.set_cons_succ, List.set_cons_zero]
  with_reducible refine wpList_skip (by kernel_rfl) ?_
  simp only [Act.put, List.setIfInBounds_toArray, List.set_cons_succ, List.set_cons_zero]
  with_reducible refine wpList_skip (by kernel_rfl) ?_
  simp only [Act.put, List.setIfInBounds_toArray, List.set_cons_succ, List.set_cons_zero]
  with_reducible refine wpList_skip (by kernel_rfl) ?_
  simp only [Act.put, List.setIfInBounds_toArray, List.set_cons_succ, List.set_cons_zero]
  with_reducible refine wpList_skip (by kernel_rfl) ?_
  simp only [Act.put, List.setIfInBounds_toArray, List.set_cons_succ, List.set_cons_zero]
  refine wpList_val (.bool false) (by kernel_rfl) (by go_simp) ?_
  simp only [Act.put, List.setIfInBounds_toArray, List.set_cons_succ, List.set_cons_zero]
  refine wpList_val (.bool false) (by kernel_rfl) (by go_simp) ?_
  simp only [Act.put, List.setIfInBounds_toArray, List.set_cons_succ, List.set_cons_zero]
  repeat (first | (with_reducible refine wp_stop (id := 6) ?_) | go_values | go_skip | go_guarded | go_step | go_upon | go_back)
  unfold Hid
  refine wp_region_lit ?_
  refine wpList_wload_row rfl 42 _ rfl (q + 1) rfl 42 #[.int .i64 3, .int .i64 (x : Int), .int .i64 (y : Int)] _ q1.out Try.underlying42 rfl sz_node ?_
  simp only [Act.put, List.setIfInBounds_toArray, List.set_cons_succ, List.set_cons_zero]
  refine wpList_calls (by kernel_rfl) M2.out (by go_simp) ?_
  rintro v2 w2 ⟨rfl, hb2⟩
  simp only [Act.put, List.setIfInBounds_toArray, List.set_cons_succ, List.set_cons_zero]
  have hA2 := Lib.hid (hA1.out.below hb2)
  have r0 := Lib.hid (q0.out.below hb2 q0.out.lt)
  have r1 := Lib.hid (q1.out.below hb2 q1.out.lt)
  have hB2 := Lib.hid (hB.out.after hb2)
  have ss2 := Lib.hid hB2.out.sees
  have gx2 := Lib.hid (ss2.out.cell hx)
  have gy2 := Lib.hid (ss2.out.cell hy)
  unfold boolV at gx2 gy2
  rw [hXx.out] at gx2
  rw [hXy.out] at gy2
  clear M2 hb2 q0 q1 ss gd gx gy hB hA1
  refine wpList_val (.bool true) (by kernel_rfl) (by go_simp) ?_
  simp only [Act.put, List.setIfInBounds_toArray, List.set_cons_succ, List.set_cons_zero]
  refine wpList_val (.pointer (some ⟨q, 2, none⟩)) (by kernel_rfl) (by (go_simp; try omega)) ?_
  simp only [Act.put, List.setIfInBounds_toArray, List.set_cons_succ, List.set_cons_zero]
  refine wpList_val (.slice (some ⟨p, 0, none⟩) m cK) (by kernel_rfl) (get_cell r0.out rfl rfl Try.underlying28 rfl rfl) ?_
  simp only [Act.put, List.setIfInBounds_toArray, List.set_cons_succ, List.set_cons_zero]
  refine wpList_val (.pointer (some ⟨q + 1, 1, none⟩)) (by kernel_rfl) (by (go_simp; try omega)) ?_
  simp only [Act.put, List.setIfInBounds_toArray, List.set_cons_succ, List.set_cons_zero]
  refine wpList_val (.int .i64 (x : Int)) (by kernel_rfl) (get_cell r1.out rfl rfl Try.underlying3 rfl rfl) ?_
  simp only [Act.put, List.setIfInBounds_toArray, List.set_cons_succ, List.set_cons_zero]
  refine wpList_val (.pointer (some (elV (some ⟨p, 0, none⟩) x))) (by kernel_rfl) (at_bools ss2.out hx rfl rfl rfl rfl _) ?_
  simp only [Act.put, List.setIfInBounds_toArray, List.set_cons_succ, List.set_cons_zero]
  refine wpList_val (.bool true) (by kernel_rfl) (get_bool gx2.out rfl rfl) ?_
  simp only [Act.put, List.setIfInBounds_toArray, List.set_cons_succ, List.set_cons_zero]
  refine wpList_val (.bool true) (by kernel_rfl) (by go_simp) ?_
  simp only [Act.put, List.setIfInBounds_toArray, List.set_cons_succ, List.set_cons_zero]
  refine wpList_val (.bool true) (by kernel_rfl) (by go_simp) ?_
  simp only [Act.put, List.setIfInBounds_toArray, List.set_cons_succ, List.set_cons_zero]
  refine wpList_val (.pointer (some ⟨q, 2, none⟩)) (by kernel_rfl) (by (go_simp; try omega)) ?_
  simp only [Act.put, List.setIfInBounds_toArray, List.set_cons_succ, List.set_cons_zero]
  refine wpList_val (.slice (some ⟨p, 0, none⟩) m cK) (by kernel_rfl) (get_cell r0.out rfl rfl Try.underlying28 rfl rfl) ?_
  simp only [Act.put, List.setIfInBounds_toArray, List.set_cons_succ, List.set_cons_zero]
  refine wpList_val (.pointer (some ⟨q + 1, 2, none⟩)) (by kernel_rfl) (by (go_simp; try omega)) ?_
  simp only [Act.put, List.setIfInBounds_toArray, List.set_cons_succ, List.set_cons_zero]
  refine wpList_val (.int .i64 (y : Int)) (by kernel_rfl) (get_cell r1.out rfl rfl Try.underlying3 rfl rfl) ?_
  simp only [Act.put, List.setIfInBounds_toArray, List.set_cons_succ, List.set_cons_zero]
  refine wpList_val (.pointer (some (elV (some ⟨p, 0, none⟩) y))) (by kernel_rfl) (at_bools ss2.out hy rfl rfl rfl rfl _) ?_
  simp only [Act.put, List.setIfInBounds_toArray, List.set_cons_succ, List.set_cons_zero]
  refine wpList_val (.bool false) (by kernel_rfl) (get_bool gy2.out rfl rfl) ?_
  simp only [Act.put, List.setIfInBounds_toArray, List.set_cons_succ, List.set_cons_zero]
  refine wpList_val (.bool false) (by kernel_rfl) (by go_simp) ?_
  simp only [Act.put, List.setIfInBounds_toArray, List.set_cons_succ, List.set_cons_zero]
  refine wpList_val (.bool false) (by kernel_rfl) (by go_simp) ?_
  simp only [Act.put, List.setIfInBounds_toArray, List.set_cons_succ, List.set_cons_zero]
  have L : Hid (LearnOk T m X d false X) := learn_none e1.out e2.out (fun h => by have := e0.out; omega) (fun _ h => by rw [hXd.out] at h; cases h) (.inr hXy.out)
  clear ss2 gx2 gy2 r0 r1
  go_wp2
  go_ret
  exact ⟨_, _, rfl, hB2, L, hA2⟩

end Go.Proofs.Ytjhalbifljnfjaa
