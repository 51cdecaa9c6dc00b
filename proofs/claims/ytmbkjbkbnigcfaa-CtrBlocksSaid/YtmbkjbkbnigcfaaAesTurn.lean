/-
  Contracts: turned.
-/
import Derived.Test.YtmbkjbkbnigcfaaAesSum
namespace Go.Proofs.Ytmbkjbkbnigcfaa
open Go.RowKit

/-- Each byte from by columns further on for each row. -/
def turnN (f : Nat → Nat) (b : Nat) : Nat → Nat := fun j => f (4 * ((j / 4 + b * (j % 4)) % 4) + j % 4)

theorem turn_one (f : Nat → Nat) : turnN f 1 = aShift f := by
  funext j
  unfold turnN aShift
  rw [Nat.one_mul]
theorem turn_three (f : Nat → Nat) : turnN f 3 = aUnshift f := by
  funext j
  unfold turnN aUnshift
  congr 1
  omega

theorem turn_at (f : Nat → Nat) (b c r m x : Nat) (hr : r < 4) (hm : b * r = m) (hx : x = 4 * ((c + m) % 4) + r) : turnN f b (4 * c + r) = f x := by
  unfold turnN
  rw [show (4 * c + r) / 4 = c by omega, show (4 * c + r) % 4 = r by omega, hm, hx]

set_option maxHeartbeats 400000 in
set_option maxRecDepth 8000 in
theorem turned_any (f : Nat → Nat) (b : Nat) (hb3 : b ≤ 3) (w : World) :
    Calls Try.prog 32 #[.agg (rowOf 16 (w8 f)), .int .i64 (b : Int)] w fun e w' => e = .returned (.agg (rowOf 16 (w8 (turnN f b)))) ∧ Below w.heap.size w w' := by
  go_enter Try.func32, Try.ntmps32
  go_wp2
  rw [← z8_16]
  have r0 : Hid (RowAt (((w.alloc (.cells (rowOf 16 (w8 f)) 23)).alloc (.cells (rowOf 16 (w8 zeroN)) 23)).alloc (.cells (rowOf 16 (w8 zeroN)) 23)) w.heap.size 23 (rowOf 16 (w8 f))) := ((RowAt.new _ _ _).alloc _).alloc _
  have r1 : Hid (RowAt (((w.alloc (.cells (rowOf 16 (w8 f)) 23)).alloc (.cells (rowOf 16 (w8 zeroN)) 23)).alloc (.cells (rowOf 16 (w8 zeroN)) 23)) (w.heap.size + 1) 23 (rowOf 16 (w8 zeroN))) := row_new1 w _ _ _ _
  have r2 : Hid (RowAt (((w.alloc (.cells (rowOf 16 (w8 f)) 23)).alloc (.cells (rowOf 16 (w8 zeroN)) 23)).alloc (.cells (rowOf 16 (w8 zeroN)) 23)) (w.heap.size + 1 + 1) 23 (rowOf 16 (w8 zeroN))) := row_new2 w _ _ _ _
  have b0 : Below w.heap.size w (((w.alloc (.cells (rowOf 16 (w8 f)) 23)).alloc (.cells (rowOf 16 (w8 zeroN)) 23)).alloc (.cells (rowOf 16 (w8 zeroN)) 23)) := (((Below.refl _ _).alloc (Nat.le_refl _) _).alloc (by simp) _).alloc (by simp; omega) _
  generalize ((w.alloc (.cells (rowOf 16 (w8 f)) 23)).alloc (.cells (rowOf 16 (w8 zeroN)) 23)).alloc (.cells (rowOf 16 (w8 zeroN)) 23) = w1 at *
  go_loopw [8] (fun i wr => ∃ c : Nat, c ≤ 4 ∧ i = .int .i64 c ∧ Hid (RowAt wr (w.heap.size + 1 + 1) 23 (rowOf 16 (w8 (part (turnN f b) zeroN (4 * c))))) ∧ Below (w.heap.size + 1 + 1) w1 wr)
    (fun i _ => 4 - (intOf i).toNat)
  case atStart => exact ⟨0, by omega, rfl, by rw [Nat.mul_zero, part_zero]; exact r2, Below.refl _ _⟩
  case round =>
    obtain ⟨c, hc, rfl, h2, hbl⟩ := hrel
    by_cases hlt : c < 4
    · go_wp2
      go_loopw [11] (fun i wr' => ∃ r : Nat, r ≤ 4 ∧ i = .int .i64 r ∧ Hid (RowAt wr' (w.heap.size + 1 + 1) 23 (rowOf 16 (w8 (part (turnN f b) zeroN (4 * c + r))))) ∧ Below (w.heap.size + 1 + 1) w1 wr')
        (fun i _ => 4 - (intOf i).toNat)
      case atStart => exact ⟨0, by omega, rfl, h2, hbl⟩
      case round =>
        clear h2 hbl
        obtain ⟨r, hr, rfl, h2, hbl⟩ := hrel
        by_cases hlr : r < 4
        · obtain ⟨m, hm⟩ : ∃ m, b * r = m := ⟨_, rfl⟩
          obtain ⟨x, hx⟩ : ∃ x, x = 4 * ((c + m) % 4) + r := ⟨_, rfl⟩
          obtain ⟨y, hy⟩ : ∃ y, y = 4 * c + r := ⟨_, rfl⟩
          have m9 : m ≤ 9 := by
            have : b * r ≤ 3 * 3 := Nat.mul_le_mul hb3 (by omega)
            omega
          have em : (b : Int) * (r : Int) = (m : Int) := by rw [← hm]; simp
          have ex : (4 : Int) * (((c : Int) + (m : Int)) % 4) + (r : Int) = (x : Int) := by omega
          have ey : (4 : Int) * (c : Int) + (r : Int) = (y : Int) := by omega
          have hx16 : x < 16 := by omega
          have hy16 : y < 16 := by omega
          have T := Lib.hid (turn_at f b c r m x hlr hm hx)
          have c0 := (r0.out.below hbl (by omega)).cell x hx16
          unfold w8 at c0
          rw [← hy] at h2 T
          have Y := Lib.hid hy
          clear hm hx hy
          have c2 := h2.out.cell y hy16
          have f2 := h2.out.free y
          have e3 := Lib.hid (u8_row 16 (turnN f b) zeroN y)
          go_wp2
          go_roundw
          case rel =>
            refine ⟨r + 1, by omega, by go_num, ?_, hbl.setCell (Nat.le_refl _) _⟩
            rw [← T.out, show 4 * c + (r + 1) = y + 1 by rw [Y.out]; omega]
            exact (h2.out.set y _).congr e3.out
          case measure => simp [intOf]; omega
        · have : r = 4 := by omega
          subst this
          go_wp2
          go_roundw
          case rel => exact ⟨c + 1, by omega, by go_num, h2, hbl⟩
          case measure => simp [intOf]; omega
    · have : c = 4 := by omega
      subst this
      have hr2 : Hid (RowAt wr (w.heap.size + 1 + 1) 23 (rowOf 16 (w8 (turnN f b)))) := h2.out.congr (part_all 16 _ _)
      have h1 : Hid (RowAt wr (w.heap.size + 1) 23 (rowOf 16 (w8 zeroN))) := r1.out.below hbl (by omega)
      clear h2
      go_wp2_with (first | (refine wpList_load_row rfl 23 _ rfl (w.heap.size + 1 + 1) rfl 23 _ (0, 0) _ hr2.out Try.underlying23 rfl (info_key _) ?_) | (refine wpList_store_row rfl 23 _ _ rfl (w.heap.size + 1) (rowOf 16 (w8 (turnN f b))) rfl rfl 23 _ h1.out (info_key _) (by rw [rowOf_size, rowOf_size]) (rowOf_cells8 _ _) ?_))
      refine bodyPost_ret (v := .agg (rowOf 16 (w8 (turnN f b)))) ?_ rfl ⟨rfl, below_setRow' (b0.trans (hbl.mono (by omega))) (by omega) _⟩
      exact results_cell_row Try.results32 _ _ (w.heap.size + 1) 23 (rowOf 16 (w8 (turnN f b))) (0, 0) _ rfl (h1.out.setRow _) Try.underlying23 rfl (info_key _)

end Go.Proofs.Ytmbkjbkbnigcfaa
