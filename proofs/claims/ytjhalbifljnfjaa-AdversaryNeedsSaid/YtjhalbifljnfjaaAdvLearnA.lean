/-
  Contract: learns of a mind, what is known taken apart.
-/
import Derived.Test.YtjhalbifljnfjaaAdvLearnM
namespace Go.Proofs.Ytjhalbifljnfjaa
open Go.RowKit
set_option linter.unusedVariables false

set_option maxHeartbeats 2000000 in
set_option maxRecDepth 8000 in
theorem learns_left (T : Nds) (aT aA : Option Addr) (m cT n cA p cK d x y : Nat) (X : Nat → Bool) (hd : d < m) (hx : x < m) (hy : y < m) (e0 : Hid (T d 0 = 2)) (e1 : Hid (T d 1 = (x : Int))) (e2 : Hid (T d 2 = (y : Int))) (hXd : Hid (X d = true)) (hXx : Hid (X x = false)) (w : World) (hT : Hid (SeesN w aT m T)) (hr : Hid (BRow w p m X)) :
    Calls Try.prog 42 #[.agg #[.slice aT m cT, .slice aA n cA, .slice (some ⟨p, 0, none⟩) m cK], .int .i64 (d : Int)] w (LearnEnd T m X d p w) := by
  have b0 : Below w.heap.size w (w.alloc (.cells #[.slice aT m cT, .slice aA n cA, .slice (some ⟨p, 0, none⟩) m cK] 52)) := (Below.refl w.heap.size w).alloc (Nat.le_refl _) _
  have b1 : Below w.heap.size w ((w.alloc (.cells #[.slice aT m cT, .slice aA n cA, .slice (some ⟨p, 0, none⟩) m cK] 52)).alloc (.cells #[.int .i64 2, .int .i64 (x : Int), .int .i64 (y : Int)] 42)) := b0.alloc b0.size _
  have s0 := Lib.hid (hT.out.after b0)
  have hB := Lib.hid (hr.out.after b1)
  have q0 := Lib.hid ((RowAt.new w 52 #[.slice aT m cT, .slice aA n cA, .slice (some ⟨p, 0, none⟩) m cK]).alloc (.cells #[.int .i64 2, .int .i64 (x : Int), .int .i64 (y : Int)] 42))
  have q1 := Lib.hid (RowAt.new (w.alloc (.cells #[.slice aT m cT, .slice aA n cA, .slice (some ⟨p, 0, none⟩) m cK] 52)) 42 #[.int .i64 2, .int .i64 (x : Int), .int .i64 (y : Int)])
  rw [World.size_alloc] at q1
  have n0 : Hid (w.heap.size ≠ p) := fun e => by have := hr.out.lt; omega
  have n1 : Hid (w.heap.size + 1 ≠ p) := fun e => by have := hr.out.lt; omega
  have ss := Lib.hid hB.out.sees
  have gd := Lib.hid (ss.out.cell hd)
  have gx := Lib.hid (ss.out.cell hx)
  have gy := Lib.hid (ss.out.cell hy)
  unfold boolV at gd gx gy
  rw [hXd.out] at gd
  have A := add_any aT aA m cT n cA p cK x X hx _ hB
  rw [hXx.out] at A
  replace A := Lib.hid A
  go_enter Try.func42, Try.ntmps42
  go_wp2_with (first | (refine wpList_known rfl (at_nodes s0.out hd rfl rfl rfl rfl _) ?_) | (refine wpList_known rfl (get_nodeE s0.out hd e0.out e1.out e2.out rfl rfl) ?_) | (refine wpList_wknown rfl (at_bools ss.out hd rfl rfl rfl rfl _) ?_) | (refine wpList_wknown rfl (get_bool gd.out rfl rfl) ?_))
  refine A.out.mono ?_
  rintro e w2 ⟨rfl, hB2, hA2⟩
  have hA := Lib.hid ((Apart.of_below (p := p) b1).trans hA2.out)
  clear A hA2 hB q0 q1 ss gd gx gy s0
  go_wp2
  go_ret
  exact ⟨_, _, rfl, hB2, learn_left hd hx e0.out e1.out hXd.out hXx.out, hA⟩

set_option maxHeartbeats 2000000 in
set_option maxRecDepth 8000 in
theorem learns_right (T : Nds) (aT aA : Option Addr) (m cT n cA p cK d x y : Nat) (X : Nat → Bool) (hd : d < m) (hx : x < m) (hy : y < m) (e0 : Hid (T d 0 = 2)) (e1 : Hid (T d 1 = (x : Int))) (e2 : Hid (T d 2 = (y : Int))) (hXd : Hid (X d = true)) (hXx : Hid (X x = true)) (w : World) (hT : Hid (SeesN w aT m T)) (hr : Hid (BRow w p m X)) :
    Calls Try.prog 42 #[.agg #[.slice aT m cT, .slice aA n cA, .slice (some ⟨p, 0, none⟩) m cK], .int .i64 (d : Int)] w (LearnEnd T m X d p w) := by
  have b0 : Below w.heap.size w (w.alloc (.cells #[.slice aT m cT, .slice aA n cA, .slice (some ⟨p, 0, none⟩) m cK] 52)) := (Below.refl w.heap.size w).alloc (Nat.le_refl _) _
  have b1 : Below w.heap.size w ((w.alloc (.cells #[.slice aT m cT, .slice aA n cA, .slice (some ⟨p, 0, none⟩) m cK] 52)).alloc (.cells #[.int .i64 2, .int .i64 (x : Int), .int .i64 (y : Int)] 42)) := b0.alloc b0.size _
  have s0 := Lib.hid (hT.out.after b0)
  have hB := Lib.hid (hr.out.after b1)
  have q0 := Lib.hid ((RowAt.new w 52 #[.slice aT m cT, .slice aA n cA, .slice (some ⟨p, 0, none⟩) m cK]).alloc (.cells #[.int .i64 2, .int .i64 (x : Int), .int .i64 (y : Int)] 42))
  have q1 := Lib.hid (RowAt.new (w.alloc (.cells #[.slice aT m cT, .slice aA n cA, .slice (some ⟨p, 0, none⟩) m cK] 52)) 42 #[.int .i64 2, .int .i64 (x : Int), .int .i64 (y : Int)])
  rw [World.size_alloc] at q1
  have n0 : Hid (w.heap.size ≠ p) := fun e => by have := hr.out.lt; omega
  have n1 : Hid (w.heap.size + 1 ≠ p) := fun e => by have := hr.out.lt; omega
  have ss := Lib.hid hB.out.sees
  have gd := Lib.hid (ss.out.cell hd)
  have gx := Lib.hid (ss.out.cell hx)
  have gy := Lib.hid (ss.out.cell hy)
  unfold boolV at gd gx gy
  rw [hXd.out] at gd
  have A := add_any aT aA m cT n cA p cK x X hx _ hB
  rw [hXx.out] at A
  replace A := Lib.hid A
  go_enter Try.func42, Try.ntmps42
  go_wp2_with (first | (refine wpList_known rfl (at_nodes s0.out hd rfl rfl rfl rfl _) ?_) | (refine wpList_known rfl (get_nodeE s0.out hd e0.out e1.out e2.out rfl rfl) ?_) | (refine wpList_wknown rfl (at_bools ss.out hd rfl rfl rfl rfl _) ?_) | (refine wpList_wknown rfl (get_bool gd.out rfl rfl) ?_))
  refine A.out.mono ?_
  rintro e w2 ⟨rfl, hB2, hA2⟩
  have hA := Lib.hid ((Apart.of_below (p := p) b1).trans hA2.out)
  have r0 := Lib.hid (hA2.out.row q0.out n0.out)
  have r1 := Lib.hid (hA2.out.row q1.out n1.out)
  have A2 := add_any aT aA m cT n cA p cK y (setT X x) hy w2 hB2
  have L := Lib.hid (learn_right hd hx hy e0.out e1.out e2.out hXd.out hXx.out)
  generalize setT X x y = z at *
  replace A2 := Lib.hid A2
  clear A hA2 hB q0 q1 ss gd gx gy s0
  generalize w.heap.size = q at *
  go_wp2_with (first | (refine wpList_wload_row rfl 52 _ rfl q rfl 52 #[.slice aT m cT, .slice aA n cA, .slice (some ⟨p, 0, none⟩) m cK] _ r0.out Try.underlying52 rfl sz_mind ?_) | (refine wpList_wknown rfl (get_cell r0.out rfl rfl Try.underlying28 rfl rfl) ?_) | (refine wpList_wknown rfl (get_cell r1.out rfl rfl Try.underlying3 rfl rfl) ?_))
  refine A2.out.mono ?_
  rintro e w3 ⟨rfl, hB3, hA3⟩
  have hA' := Lib.hid (hA.out.trans hA3.out)
  clear A2 hA3 hA
  go_wp2
  go_ret
  exact ⟨_, _, rfl, hB3, L, hA'⟩

set_option maxHeartbeats 2000000 in
set_option maxRecDepth 8000 in
theorem learns_undo (T : Nds) (aT aA : Option Addr) (m cT n cA p cK d x y : Nat) (X : Nat → Bool) (hd : d < m) (hx : x < m) (hy : y < m) (e0 : Hid (T d 0 = 3)) (e1 : Hid (T d 1 = (x : Int))) (e2 : Hid (T d 2 = (y : Int))) (hXd : Hid (X d = true)) (hXx : Hid (X x = true)) (w : World) (hT : Hid (SeesN w aT m T)) (hr : Hid (BRow w p m X)) :
    Calls Try.prog 42 #[.agg #[.slice aT m cT, .slice aA n cA, .slice (some ⟨p, 0, none⟩) m cK], .int .i64 (d : Int)] w (LearnEnd T m X d p w) := by
  have b0 : Below w.heap.size w (w.alloc (.cells #[.slice aT m cT, .slice aA n cA, .slice (some ⟨p, 0, none⟩) m cK] 52)) := (Below.refl w.heap.size w).alloc (Nat.le_refl _) _
  have b1 : Below w.heap.size w ((w.alloc (.cells #[.slice aT m cT, .slice aA n cA, .slice (some ⟨p, 0, none⟩) m cK] 52)).alloc (.cells #[.int .i64 3, .int .i64 (x : Int), .int .i64 (y : Int)] 42)) := b0.alloc b0.size _
  have s0 := Lib.hid (hT.out.after b0)
  have hB := Lib.hid (hr.out.after b1)
  have q0 := Lib.hid ((RowAt.new w 52 #[.slice aT m cT, .slice aA n cA, .slice (some ⟨p, 0, none⟩) m cK]).alloc (.cells #[.int .i64 3, .int .i64 (x : Int), .int .i64 (y : Int)] 42))
  have q1 := Lib.hid (RowAt.new (w.alloc (.cells #[.slice aT m cT, .slice aA n cA, .slice (some ⟨p, 0, none⟩) m cK] 52)) 42 #[.int .i64 3, .int .i64 (x : Int), .int .i64 (y : Int)])
  rw [World.size_alloc] at q1
  have n0 : Hid (w.heap.size ≠ p) := fun e => by have := hr.out.lt; omega
  have n1 : Hid (w.heap.size + 1 ≠ p) := fun e => by have := hr.out.lt; omega
  have ss := Lib.hid hB.out.sees
  have gd := Lib.hid (ss.out.cell hd)
  have gx := Lib.hid (ss.out.cell hx)
  have gy := Lib.hid (ss.out.cell hy)
  unfold boolV at gd gx gy
  rw [hXd.out] at gd
  rw [hXx.out] at gx
  have A := add_any aT aA m cT n cA p cK y X hy _ hB
  have L := Lib.hid (learn_undo hd hx hy e0.out e1.out e2.out hXd.out hXx.out)
  generalize X y = z at *
  replace A := Lib.hid A
  go_enter Try.func42, Try.ntmps42
  go_wp2_with (first | (refine wpList_known rfl (at_nodes s0.out hd rfl rfl rfl rfl _) ?_) | (refine wpList_known rfl (get_nodeE s0.out hd e0.out e1.out e2.out rfl rfl) ?_) | (refine wpList_wknown rfl (at_bools ss.out hd rfl rfl rfl rfl _) ?_) | (refine wpList_wknown rfl (get_bool gd.out rfl rfl) ?_) | (refine wpList_wknown rfl (at_bools ss.out hx rfl rfl rfl rfl _) ?_) | (refine wpList_wknown rfl (get_bool gx.out rfl rfl) ?_))
  refine A.out.mono ?_
  rintro e w2 ⟨rfl, hB2, hA2⟩
  have hA := Lib.hid ((Apart.of_below (p := p) b1).trans hA2.out)
  clear A hA2 hB q0 q1 ss gd gx gy s0
  go_wp2
  go_ret
  exact ⟨_, _, rfl, hB2, L, hA⟩

end Go.Proofs.Ytjhalbifljnfjaa
