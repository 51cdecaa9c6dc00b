/-
  Contracts: unboxes, the document's Boxes.
-/
import Derived.Test.YtelalcgmecianaaAesSum
namespace Go.Proofs.Ytelalcgmecianaa
open Go.RowKit

theorem zero256 : (Try.prog.info? 32).map (fun i => (i.zero, i.size)) = some (some (.agg (rowOf 256 (w8 zeroN))), 256) := by kernel_rfl
theorem info_256 (f : Nat → Value) : (Try.prog.info? 32).map (·.size) = some (rowOf 256 f).size := by rw [rowOf_size]; kernel_rfl

/-- The bytes whose boxes are among those of the first n. -/
def unbTo (n : Nat) : Nat → Nat := fun k => if unboxN k < n then unboxN k else 0

theorem unb_next (n : Nat) (hn : n < 256) : (rowOf 256 (w8 (unbTo n))).setIfInBounds (boxN n) (.int .u8 ((n : Nat) : Int)) = rowOf 256 (w8 (unbTo (n + 1))) := by
  rw [rowOf_upd8]
  refine rowOf_congr fun k hk => ?_
  unfold w8
  congr 2
  unfold upd unbTo
  by_cases h : k = boxN n
  · subst h
    rw [if_pos rfl, (box_facts hn).2.2.2.1, if_pos (by omega)]
  · have hne : unboxN k ≠ n := fun e => h (by rw [← e, (box_facts hk).2.2.2.2.1])
    rw [if_neg h]
    by_cases h2 : unboxN k < n
    · rw [if_pos h2, if_pos (by omega)]
    · rw [if_neg h2, if_neg (by omega)]
theorem unb_zero : unbTo 0 = zeroN := by
  funext k
  unfold unbTo
  rw [if_neg (by omega)]
  rfl
theorem unb_all : rowOf 256 (w8 (unbTo 256)) = rowOf 256 (w8 unboxN) := rowOf_congr fun k hk => by
  unfold w8 unbTo
  rw [if_pos (unbox_lt_any k)]

set_option maxHeartbeats 1000000 in
set_option maxRecDepth 8000 in
theorem unboxes_any (w : World) :
    Calls Try.prog 27 #[] w fun e w' => e = .returned (.agg (rowOf 256 (w8 unboxN))) ∧ Below w.heap.size w w' := by
  have zv := (zero_of_info zero256).1
  go_enter Try.func27, Try.ntmps27
  go_wp2
  clear zv
  have r0 : Hid (RowAt ((w.alloc (.cells (rowOf 256 (w8 zeroN)) 32)).alloc (.cells (rowOf 256 (w8 zeroN)) 32)) w.heap.size 32 (rowOf 256 (w8 zeroN))) := (RowAt.new _ _ _).alloc _
  have r1 : Hid (RowAt ((w.alloc (.cells (rowOf 256 (w8 zeroN)) 32)).alloc (.cells (rowOf 256 (w8 zeroN)) 32)) (w.heap.size + 1) 32 (rowOf 256 (w8 zeroN))) := by
    have := RowAt.new (w.alloc (.cells (rowOf 256 (w8 zeroN)) 32)) 32 (rowOf 256 (w8 zeroN))
    rw [World.size_alloc] at this
    exact this
  have b0 : Below w.heap.size w ((w.alloc (.cells (rowOf 256 (w8 zeroN)) 32)).alloc (.cells (rowOf 256 (w8 zeroN)) 32)) := ((Below.refl _ _).alloc (Nat.le_refl _) _).alloc (by simp) _
  generalize (w.alloc (.cells (rowOf 256 (w8 zeroN)) 32)).alloc (.cells (rowOf 256 (w8 zeroN)) 32) = w1 at *
  go_loopw [3] (fun i wr => ∃ j : Nat, j ≤ 256 ∧ i = .int .i64 j ∧ Hid (RowAt wr (w.heap.size + 1) 32 (rowOf 256 (w8 (unbTo j)))) ∧ Below (w.heap.size + 1) w1 wr)
    (fun i _ => 256 - (intOf i).toNat)
  case atStart => exact ⟨0, by omega, rfl, by rw [unb_zero]; exact r1, Below.refl _ _⟩
  case round =>
    clear r1
    obtain ⟨j, hj, rfl, h1, hbl⟩ := hrel
    by_cases hlt : j < 256
    · have T := Lib.hid (box_any j hlt wr)
      have lb := box_lt_any j
      have c1 := h1.out.cell (boxN j) lb
      have f1 := h1.out.free (boxN j)
      have e3 := Lib.hid (unb_next j hlt)
      generalize boxN j = y at *
      go_wp2_with fail
      refine T.out.mono ?_
      rintro e w' ⟨rfl, rfl⟩
      clear T
      go_wp2
      go_roundw
      case rel => exact ⟨j + 1, by omega, by go_num, (h1.out.set y _).congr e3.out, hbl.setCell (Nat.le_refl _) _⟩
      case measure => simp [intOf]; omega
    · have : j = 256 := by omega
      subst this
      have hr2 : Hid (RowAt wr (w.heap.size + 1) 32 (rowOf 256 (w8 unboxN))) := h1.out.congr unb_all
      have h0 : Hid (RowAt wr w.heap.size 32 (rowOf 256 (w8 zeroN))) := r0.out.below hbl (by omega)
      clear h1
      go_wp2_with (first | (refine wpList_load_row rfl 32 _ rfl (w.heap.size + 1) rfl 32 _ (0, 0) _ hr2.out Try.underlying32 rfl (info_256 _) ?_) | (refine wpList_store_row rfl 32 _ _ rfl w.heap.size (rowOf 256 (w8 unboxN)) rfl rfl 32 _ h0.out (info_256 _) (by rw [rowOf_size, rowOf_size]) (rowOf_cells8 _ _) ?_))
      refine bodyPost_ret (v := .agg (rowOf 256 (w8 unboxN))) ?_ rfl ⟨rfl, below_setRow' (b0.trans (hbl.mono (by omega))) (by omega) _⟩
      exact results_cell_row Try.results27 _ _ w.heap.size 32 (rowOf 256 (w8 unboxN)) (0, 0) _ rfl (h0.out.setRow _) Try.underlying32 rfl (info_256 _)

set_option maxHeartbeats 1000000 in
set_option maxRecDepth 8000 in
theorem refBoxes_any (w : World) :
    Calls Try.prog 15 #[] w fun e w' => e = .returned (.agg (rowOf 256 (w8 boxN))) ∧ Below w.heap.size w w' := by
  have zv := (zero_of_info zero256).1
  have r0 : Hid (RowAt ((w.alloc (.cells (rowOf 256 (w8 zeroN)) 32)).alloc (.cells (rowOf 256 (w8 zeroN)) 32)) w.heap.size 32 (rowOf 256 (w8 zeroN))) := (RowAt.new _ _ _).alloc _
  have r1 : Hid (RowAt ((w.alloc (.cells (rowOf 256 (w8 zeroN)) 32)).alloc (.cells (rowOf 256 (w8 zeroN)) 32)) (w.heap.size + 1) 32 (rowOf 256 (w8 zeroN))) := by
    have := RowAt.new (w.alloc (.cells (rowOf 256 (w8 zeroN)) 32)) 32 (rowOf 256 (w8 zeroN))
    rw [World.size_alloc] at this
    exact this
  have b0 : Below w.heap.size w ((w.alloc (.cells (rowOf 256 (w8 zeroN)) 32)).alloc (.cells (rowOf 256 (w8 zeroN)) 32)) := ((Below.refl _ _).alloc (Nat.le_refl _) _).alloc (by simp) _
  go_enter Try.func15, Try.ntmps15
  go_wp2_with (first | (refine wpList_buildTo rfl 32 _ rfl _ rfl (rowOf 256 (w8 zeroN)) (by kernel_rfl) ?_) | (refine wpList_store_row rfl 32 _ _ rfl (w.heap.size + 1) (rowOf 256 (w8 zeroN)) rfl rfl 32 _ r1.out (info_256 _) (by rw [rowOf_size]) (rowOf_cells8 _ _) ?_))
  clear zv
  replace r0 := Lib.hid (r0.out.setRowOther (w.heap.size + 1) (rowOf 256 (w8 zeroN)) (by omega))
  replace r1 := Lib.hid (r1.out.setRow (rowOf 256 (w8 zeroN)))
  replace b0 := below_setRow' b0 (show w.heap.size ≤ w.heap.size + 1 by omega) (rowOf 256 (w8 zeroN))
  generalize World.setRow _ _ _ = w1 at *
  go_loopw [2] (fun i wr => ∃ j : Nat, j ≤ 256 ∧ i = .int .i64 j ∧ Hid (RowAt wr (w.heap.size + 1) 32 (rowOf 256 (w8 (part boxN zeroN j)))) ∧ Below (w.heap.size + 1) w1 wr)
    (fun i _ => 256 - (intOf i).toNat)
  case atStart => exact ⟨0, by omega, rfl, by rw [part_zero]; exact r1, Below.refl _ _⟩
  case round =>
    clear r1
    obtain ⟨j, hj, rfl, h1, hbl⟩ := hrel
    by_cases hlt : j < 256
    · have T := Lib.hid (refBox_any j hlt wr)
      have c1 := h1.out.cell j hlt
      have f1 := h1.out.free j
      have e3 := Lib.hid (u8_row 256 boxN zeroN j)
      generalize hy : boxN j = y at *
      clear hy
      go_wp2_with fail
      refine T.out.mono ?_
      rintro e w' ⟨rfl, rfl⟩
      clear T
      go_wp2
      go_roundw
      case rel => exact ⟨j + 1, by omega, by go_num, (h1.out.set j _).congr e3.out, hbl.setCell (Nat.le_refl _) _⟩
      case measure => simp [intOf]; omega
    · have : j = 256 := by omega
      subst this
      have hr2 : Hid (RowAt wr (w.heap.size + 1) 32 (rowOf 256 (w8 boxN))) := h1.out.congr (part_all 256 _ _)
      have h0 : Hid (RowAt wr w.heap.size 32 (rowOf 256 (w8 zeroN))) := r0.out.below hbl (by omega)
      clear h1
      go_wp2_with (first | (refine wpList_load_row rfl 32 _ rfl (w.heap.size + 1) rfl 32 _ (0, 0) _ hr2.out Try.underlying32 rfl (info_256 _) ?_) | (refine wpList_store_row rfl 32 _ _ rfl w.heap.size (rowOf 256 (w8 boxN)) rfl rfl 32 _ h0.out (info_256 _) (by rw [rowOf_size, rowOf_size]) (rowOf_cells8 _ _) ?_))
      refine bodyPost_ret (v := .agg (rowOf 256 (w8 boxN))) ?_ rfl ⟨rfl, below_setRow' (b0.trans (hbl.mono (by omega))) (by omega) _⟩
      exact results_cell_row Try.results15 _ _ w.heap.size 32 (rowOf 256 (w8 boxN)) (0, 0) _ rfl (h0.out.setRow _) Try.underlying32 rfl (info_256 _)

end Go.Proofs.Ytelalcgmecianaa
