/-
  Texts 3 of 6, merged.
-/
import Derived.Test.YtacekpjkgkkekaaGreatDoorAll2
import Derived.Laws.CopyRow
import Derived.Tactics
import Derived.Tactics2
import Derived.Defers
import Derived.Laws.Pointers
import Derived.Laws.LoneSync
import Derived.RegionTactic
import Derived.RegionCalls
import Derived.RangeFuncNested
import Derived.StillTail
/-
  Contracts: sum, the document's xor.
-/
namespace Go.Proofs.YtacekpjkgkkekaaGreatDoor
open Go.RowKit

theorem u8_row (n : Nat) (f g : Nat → Nat) (j : Nat) : (rowOf n (w8 (part f g j))).setIfInBounds j (.int .u8 ((f j : Nat) : Int)) = rowOf n (w8 (part f g (j + 1))) := by
  rw [rowOf_upd8, part_upd]

theorem part_all (n : Nat) (f g : Nat → Nat) : rowOf n (w8 (part f g n)) = rowOf n (w8 f) := rowOf_congr fun k hk => by unfold w8; rw [part_below _ _ _ _ hk]

set_option maxHeartbeats 400000 in
set_option maxRecDepth 8000 in
theorem sum_keys (f g : Nat → Nat) (hf : Hid (Byt f)) (hg : Hid (Byt g)) (w : World) :
    Calls Tryz.prog 63 #[.agg (rowOf 16 (w8 f)), .agg (rowOf 16 (w8 g))] w fun e w' => e = .returned (.agg (rowOf 16 (w8 (aAdd f g)))) ∧ Below w.heap.size w w' := by
  go_enter Tryz.func63, Tryz.ntmps63
  go_wp2
  rw [← z8_16]
  have r0 : Hid (RowAt (((w.alloc (.cells (rowOf 16 (w8 f)) 23)).alloc (.cells (rowOf 16 (w8 g)) 23)).alloc (.cells (rowOf 16 (w8 zeroN)) 23)) w.heap.size 23 (rowOf 16 (w8 f))) := ((RowAt.new _ _ _).alloc _).alloc _
  have r1 : Hid (RowAt (((w.alloc (.cells (rowOf 16 (w8 f)) 23)).alloc (.cells (rowOf 16 (w8 g)) 23)).alloc (.cells (rowOf 16 (w8 zeroN)) 23)) (w.heap.size + 1) 23 (rowOf 16 (w8 g))) := row_new1 w _ _ _ _
  have r2 : Hid (RowAt (((w.alloc (.cells (rowOf 16 (w8 f)) 23)).alloc (.cells (rowOf 16 (w8 g)) 23)).alloc (.cells (rowOf 16 (w8 zeroN)) 23)) (w.heap.size + 1 + 1) 23 (rowOf 16 (w8 zeroN))) := row_new2 w _ _ _ _
  have b0 : Below w.heap.size w (((w.alloc (.cells (rowOf 16 (w8 f)) 23)).alloc (.cells (rowOf 16 (w8 g)) 23)).alloc (.cells (rowOf 16 (w8 zeroN)) 23)) := (((Below.refl _ _).alloc (Nat.le_refl _) _).alloc (by simp) _).alloc (by simp; omega) _
  generalize ((w.alloc (.cells (rowOf 16 (w8 f)) 23)).alloc (.cells (rowOf 16 (w8 g)) 23)).alloc (.cells (rowOf 16 (w8 zeroN)) 23) = w1 at *
  go_loopw [6] (fun i wr => ∃ j : Nat, j ≤ 16 ∧ i = .int .i64 j ∧ Hid (RowAt wr w.heap.size 23 (rowOf 16 (w8 (part (aAdd f g) f j)))) ∧ Hid (RowAt wr (w.heap.size + 1) 23 (rowOf 16 (w8 g))) ∧ Hid (RowAt wr (w.heap.size + 1 + 1) 23 (rowOf 16 (w8 zeroN))) ∧ Below w.heap.size w wr)
    (fun i _ => 16 - (intOf i).toNat)
  case atStart => exact ⟨0, by omega, rfl, by rw [part_zero]; exact r0, r1, r2, b0⟩
  case round =>
    clear r0 r1 r2 b0
    obtain ⟨j, hj, rfl, h0, h1, h2, hbl⟩ := hrel
    by_cases hlt : j < 16
    · go_wp2
      refine wp_region_still_tail 8 (by kernel_rfl) (by kernel_rfl) ?_
      change wpStill _ _ wr.drew (fun a' => wpList _ _ _ _ a' wr.drew) _ _
      replace h0 : Hid (RowAt wr.drew w.heap.size 23 (rowOf 16 (w8 (part (aAdd f g) f j)))) := h0
      replace h1 : Hid (RowAt wr.drew (w.heap.size + 1) 23 (rowOf 16 (w8 g))) := h1
      replace h2 : Hid (RowAt wr.drew (w.heap.size + 1 + 1) 23 (rowOf 16 (w8 zeroN))) := h2
      replace hbl : Below w.heap.size w wr.drew := hbl.drew
      generalize wr.drew = w9 at *
      have c0 := h0.out.cell j hlt
      have f0 := h0.out.free j
      have c1 := h1.out.cell j hlt
      unfold w8 at c0 c1
      rw [part_above _ _ _ _ (Nat.le_refl j)] at c0
      have E1 := Lib.hid (u8_xor_nat (f j) (g j) (hf.out j) (hg.out j))
      have e3 := Lib.hid (u8_row 16 (aAdd f g) f j)
      simp only [List.take_succ_cons, List.take_zero, List.drop_succ_cons, List.drop_zero]
      refine wpStill_of_quiet _ _ ?_
      repeat (first | go_big_quiet_skip | (go_big_quiet_want; go_big_quiet_op; go_big_quiet_on))
      refine wpQuiet_nil ?_
      go_wp2
      go_roundw
      case rel =>
        refine ⟨j + 1, by omega, by go_num, ?_, h1.out.setOther _ _ (by simp), h2.out.setOther _ _ (by simp; omega), hbl.setCell (Nat.le_refl _) _⟩
        rw [E1.out]
        exact (h0.out.set j _).congr e3.out
      case measure => simp [intOf]; omega
    · have : j = 16 := by omega
      subst this
      have hr2 : Hid (RowAt wr w.heap.size 23 (rowOf 16 (w8 (aAdd f g)))) := h0.out.congr (part_all 16 _ _)
      clear h0
      go_wp2_with (first | (refine wpList_load_row rfl 23 _ rfl w.heap.size rfl 23 _ (0, 0) _ hr2.out Tryz.underlying23 rfl (info_key _) ?_) | (refine wpList_store_row rfl 23 _ _ rfl (w.heap.size + 1 + 1) (rowOf 16 (w8 (aAdd f g))) rfl rfl 23 _ h2.out (info_key _) (by rw [rowOf_size, rowOf_size]) (rowOf_cells8 _ _) ?_))
      refine bodyPost_ret (v := .agg (rowOf 16 (w8 (aAdd f g)))) ?_ rfl ⟨rfl, below_setRow' hbl (by omega) _⟩
      exact results_cell_row Tryz.results63 _ _ (w.heap.size + 1 + 1) 23 (rowOf 16 (w8 (aAdd f g))) (0, 0) _ rfl (h2.out.setRow _) Tryz.underlying23 rfl (info_key _)

set_option maxHeartbeats 400000 in
set_option maxRecDepth 8000 in
theorem refXor_keys (f g : Nat → Nat) (hf : Hid (Byt f)) (hg : Hid (Byt g)) (w : World) :
    Calls Tryz.prog 57 #[.agg (rowOf 16 (w8 f)), .agg (rowOf 16 (w8 g))] w fun e w' => e = .returned (.agg (rowOf 16 (w8 (aAdd f g)))) ∧ Below w.heap.size w w' := by
  go_enter Tryz.func57, Tryz.ntmps57
  go_wp2
  rw [← z8_16]
  have r0 : Hid (RowAt (((w.alloc (.cells (rowOf 16 (w8 f)) 23)).alloc (.cells (rowOf 16 (w8 g)) 23)).alloc (.cells (rowOf 16 (w8 zeroN)) 23)) w.heap.size 23 (rowOf 16 (w8 f))) := ((RowAt.new _ _ _).alloc _).alloc _
  have r1 : Hid (RowAt (((w.alloc (.cells (rowOf 16 (w8 f)) 23)).alloc (.cells (rowOf 16 (w8 g)) 23)).alloc (.cells (rowOf 16 (w8 zeroN)) 23)) (w.heap.size + 1) 23 (rowOf 16 (w8 g))) := row_new1 w _ _ _ _
  have r2 : Hid (RowAt (((w.alloc (.cells (rowOf 16 (w8 f)) 23)).alloc (.cells (rowOf 16 (w8 g)) 23)).alloc (.cells (rowOf 16 (w8 zeroN)) 23)) (w.heap.size + 1 + 1) 23 (rowOf 16 (w8 zeroN))) := row_new2 w _ _ _ _
  have b0 : Below w.heap.size w (((w.alloc (.cells (rowOf 16 (w8 f)) 23)).alloc (.cells (rowOf 16 (w8 g)) 23)).alloc (.cells (rowOf 16 (w8 zeroN)) 23)) := (((Below.refl _ _).alloc (Nat.le_refl _) _).alloc (by simp) _).alloc (by simp; omega) _
  generalize ((w.alloc (.cells (rowOf 16 (w8 f)) 23)).alloc (.cells (rowOf 16 (w8 g)) 23)).alloc (.cells (rowOf 16 (w8 zeroN)) 23) = w1 at *
  go_loopw [5] (fun i wr => ∃ j : Nat, j ≤ 16 ∧ i = .int .i64 j ∧ Hid (RowAt wr w.heap.size 23 (rowOf 16 (w8 (part (aAdd f g) f j)))) ∧ Hid (RowAt wr (w.heap.size + 1) 23 (rowOf 16 (w8 g))) ∧ Hid (RowAt wr (w.heap.size + 1 + 1) 23 (rowOf 16 (w8 zeroN))) ∧ Below w.heap.size w wr)
    (fun i _ => 16 - (intOf i).toNat)
  case atStart => exact ⟨0, by omega, rfl, by rw [part_zero]; exact r0, r1, r2, b0⟩
  case round =>
    clear r0 r1 r2 b0
    obtain ⟨j, hj, rfl, h0, h1, h2, hbl⟩ := hrel
    by_cases hlt : j < 16
    · go_wp2
      refine wp_region_still_tail 9 (by kernel_rfl) (by kernel_rfl) ?_
      change wpStill _ _ wr.drew (fun a' => wpList _ _ _ _ a' wr.drew) _ _
      replace h0 : Hid (RowAt wr.drew w.heap.size 23 (rowOf 16 (w8 (part (aAdd f g) f j)))) := h0
      replace h1 : Hid (RowAt wr.drew (w.heap.size + 1) 23 (rowOf 16 (w8 g))) := h1
      replace h2 : Hid (RowAt wr.drew (w.heap.size + 1 + 1) 23 (rowOf 16 (w8 zeroN))) := h2
      replace hbl : Below w.heap.size w wr.drew := hbl.drew
      generalize wr.drew = w9 at *
      have c0 := h0.out.cell j hlt
      have f0 := h0.out.free j
      have c1 := h1.out.cell j hlt
      unfold w8 at c0 c1
      rw [part_above _ _ _ _ (Nat.le_refl j)] at c0
      have E1 := Lib.hid (u8_xor_nat (f j) (g j) (hf.out j) (hg.out j))
      have e3 := Lib.hid (u8_row 16 (aAdd f g) f j)
      simp only [List.take_succ_cons, List.take_zero, List.drop_succ_cons, List.drop_zero]
      refine wpStill_of_quiet _ _ ?_
      repeat (first | go_big_quiet_skip | (go_big_quiet_want; go_big_quiet_op; go_big_quiet_on))
      refine wpQuiet_nil ?_
      go_wp2
      go_roundw
      case rel =>
        refine ⟨j + 1, by omega, by go_num, ?_, h1.out.setOther _ _ (by simp), h2.out.setOther _ _ (by simp; omega), hbl.setCell (Nat.le_refl _) _⟩
        rw [E1.out]
        exact (h0.out.set j _).congr e3.out
      case measure => simp [intOf]; omega
    · have : j = 16 := by omega
      subst this
      have hr2 : Hid (RowAt wr w.heap.size 23 (rowOf 16 (w8 (aAdd f g)))) := h0.out.congr (part_all 16 _ _)
      clear h0
      go_wp2_with (first | (refine wpList_load_row rfl 23 _ rfl w.heap.size rfl 23 _ (0, 0) _ hr2.out Tryz.underlying23 rfl (info_key _) ?_) | (refine wpList_store_row rfl 23 _ _ rfl (w.heap.size + 1 + 1) (rowOf 16 (w8 (aAdd f g))) rfl rfl 23 _ h2.out (info_key _) (by rw [rowOf_size, rowOf_size]) (rowOf_cells8 _ _) ?_))
      refine bodyPost_ret (v := .agg (rowOf 16 (w8 (aAdd f g)))) ?_ rfl ⟨rfl, below_setRow' hbl (by omega) _⟩
      exact results_cell_row Tryz.results57 _ _ (w.heap.size + 1 + 1) 23 (rowOf 16 (w8 (aAdd f g))) (0, 0) _ rfl (h2.out.setRow _) Tryz.underlying23 rfl (info_key _)

end Go.Proofs.YtacekpjkgkkekaaGreatDoor
/-
  Contracts: turned.
-/
namespace Go.Proofs.YtacekpjkgkkekaaGreatDoor
open Go.RowKit

/-- Each byte from by columns further on for each row. -/
def turnN (f : Nat → Nat) (b : Nat) : Nat → Nat := fun j => f (4 * ((j / 4 + b * (j % 4)) % 4) + j % 4)

theorem turn_one (f : Nat → Nat) : turnN f 1 = aShift f := by
  funext j
  unfold turnN aShift
  rw [Nat.one_mul]
theorem turn_three (f : Nat → Nat) : turnN f 3 = aUnshift f := by
  funext j
  unfold turnN aUnshift
  congr 1
  omega

theorem turn_at (f : Nat → Nat) (b c r m x : Nat) (hr : r < 4) (hm : b * r = m) (hx : x = 4 * ((c + m) % 4) + r) : turnN f b (4 * c + r) = f x := by
  unfold turnN
  rw [show (4 * c + r) / 4 = c by omega, show (4 * c + r) % 4 = r by omega, hm, hx]

set_option maxHeartbeats 400000 in
set_option maxRecDepth 8000 in
theorem turned_any (f : Nat → Nat) (b : Nat) (hb3 : b ≤ 3) (w : World) :
    Calls Tryz.prog 65 #[.agg (rowOf 16 (w8 f)), .int .i64 (b : Int)] w fun e w' => e = .returned (.agg (rowOf 16 (w8 (turnN f b)))) ∧ Below w.heap.size w w' := by
  go_enter Tryz.func65, Tryz.ntmps65
  go_wp2
  rw [← z8_16]
  have r0 : Hid (RowAt (((w.alloc (.cells (rowOf 16 (w8 f)) 23)).alloc (.cells (rowOf 16 (w8 zeroN)) 23)).alloc (.cells (rowOf 16 (w8 zeroN)) 23)) w.heap.size 23 (rowOf 16 (w8 f))) := ((RowAt.new _ _ _).alloc _).alloc _
  have r1 : Hid (RowAt (((w.alloc (.cells (rowOf 16 (w8 f)) 23)).alloc (.cells (rowOf 16 (w8 zeroN)) 23)).alloc (.cells (rowOf 16 (w8 zeroN)) 23)) (w.heap.size + 1) 23 (rowOf 16 (w8 zeroN))) := row_new1 w _ _ _ _
  have r2 : Hid (RowAt (((w.alloc (.cells (rowOf 16 (w8 f)) 23)).alloc (.cells (rowOf 16 (w8 zeroN)) 23)).alloc (.cells (rowOf 16 (w8 zeroN)) 23)) (w.heap.size + 1 + 1) 23 (rowOf 16 (w8 zeroN))) := row_new2 w _ _ _ _
  have b0 : Below w.heap.size w (((w.alloc (.cells (rowOf 16 (w8 f)) 23)).alloc (.cells (rowOf 16 (w8 zeroN)) 23)).alloc (.cells (rowOf 16 (w8 zeroN)) 23)) := (((Below.refl _ _).alloc (Nat.le_refl _) _).alloc (by simp) _).alloc (by simp; omega) _
  generalize ((w.alloc (.cells (rowOf 16 (w8 f)) 23)).alloc (.cells (rowOf 16 (w8 zeroN)) 23)).alloc (.cells (rowOf 16 (w8 zeroN)) 23) = w1 at *
  go_loopw [8] (fun i wr => ∃ c : Nat, c ≤ 4 ∧ i = .int .i64 c ∧ Hid (RowAt wr (w.heap.size + 1 + 1) 23 (rowOf 16 (w8 (part (turnN f b) zeroN (4 * c))))) ∧ Below (w.heap.size + 1 + 1) w1 wr)
    (fun i _ => 4 - (intOf i).toNat)
  case atStart => exact ⟨0, by omega, rfl, by rw [Nat.mul_zero, part_zero]; exact r2, Below.refl _ _⟩
  case round =>
    obtain ⟨c, hc, rfl, h2, hbl⟩ := hrel
    by_cases hlt : c < 4
    · go_wp2
      go_loopw [11] (fun i wr' => ∃ r : Nat, r ≤ 4 ∧ i = .int .i64 r ∧ Hid (RowAt wr' (w.heap.size + 1 + 1) 23 (rowOf 16 (w8 (part (turnN f b) zeroN (4 * c + r))))) ∧ Below (w.heap.size + 1 + 1) w1 wr')
        (fun i _ => 4 - (intOf i).toNat)
      case atStart => exact ⟨0, by omega, rfl, h2, hbl⟩
      case round =>
        clear h2 hbl
        obtain ⟨r, hr, rfl, h2, hbl⟩ := hrel
        by_cases hlr : r < 4
        · obtain ⟨m, hm⟩ : ∃ m, b * r = m := ⟨_, rfl⟩
          obtain ⟨x, hx⟩ : ∃ x, x = 4 * ((c + m) % 4) + r := ⟨_, rfl⟩
          obtain ⟨y, hy⟩ : ∃ y, y = 4 * c + r := ⟨_, rfl⟩
          have m9 : m ≤ 9 := by
            have : b * r ≤ 3 * 3 := Nat.mul_le_mul hb3 (by omega)
            omega
          have em : (b : Int) * (r : Int) = (m : Int) := by rw [← hm]; simp
          have ex : (4 : Int) * (((c : Int) + (m : Int)) % 4) + (r : Int) = (x : Int) := by omega
          have ey : (4 : Int) * (c : Int) + (r : Int) = (y : Int) := by omega
          have hx16 : x < 16 := by omega
          have hy16 : y < 16 := by omega
          have T := Lib.hid (turn_at f b c r m x hlr hm hx)
          have c0 := (r0.out.below hbl (by omega)).cell x hx16
          unfold w8 at c0
          rw [← hy] at h2 T
          have Y := Lib.hid hy
          clear hm hx hy
          have c2 := h2.out.cell y hy16
          have f2 := h2.out.free y
          have e3 := Lib.hid (u8_row 16 (turnN f b) zeroN y)
          go_wp2
          go_roundw
          case rel =>
            refine ⟨r + 1, by omega, by go_num, ?_, hbl.setCell (Nat.le_refl _) _⟩
            rw [← T.out, show 4 * c + (r + 1) = y + 1 by rw [Y.out]; omega]
            exact (h2.out.set y _).congr e3.out
          case measure => simp [intOf]; omega
        · have : r = 4 := by omega
          subst this
          go_wp2
          go_roundw
          case rel => exact ⟨c + 1, by omega, by go_num, h2, hbl⟩
          case measure => simp [intOf]; omega
    · have : c = 4 := by omega
      subst this
      have hr2 : Hid (RowAt wr (w.heap.size + 1 + 1) 23 (rowOf 16 (w8 (turnN f b)))) := h2.out.congr (part_all 16 _ _)
      have h1 : Hid (RowAt wr (w.heap.size + 1) 23 (rowOf 16 (w8 zeroN))) := r1.out.below hbl (by omega)
      clear h2
      go_wp2_with (first | (refine wpList_load_row rfl 23 _ rfl (w.heap.size + 1 + 1) rfl 23 _ (0, 0) _ hr2.out Tryz.underlying23 rfl (info_key _) ?_) | (refine wpList_store_row rfl 23 _ _ rfl (w.heap.size + 1) (rowOf 16 (w8 (turnN f b))) rfl rfl 23 _ h1.out (info_key _) (by rw [rowOf_size, rowOf_size]) (rowOf_cells8 _ _) ?_))
      refine bodyPost_ret (v := .agg (rowOf 16 (w8 (turnN f b)))) ?_ rfl ⟨rfl, below_setRow' (b0.trans (hbl.mono (by omega))) (by omega) _⟩
      exact results_cell_row Tryz.results65 _ _ (w.heap.size + 1) 23 (rowOf 16 (w8 (turnN f b))) (0, 0) _ rfl (h1.out.setRow _) Tryz.underlying23 rfl (info_key _)

end Go.Proofs.YtacekpjkgkkekaaGreatDoor
/-
  Contracts: mixed.
-/
namespace Go.Proofs.YtacekpjkgkkekaaGreatDoor
open Go.RowKit

/-- What the first k of a column's bytes, with their weights, add up to at place j. -/
def mixTo (f g : Nat → Nat) (j : Nat) : Nat → Nat
  | 0 => 0
  | k + 1 => mixTo f g j k ^^^ timesN (f (colN j k)) (g k)
def mixM (f g : Nat → Nat) : Nat → Nat := fun j => mixTo f g j 4

theorem mixTo_lt {f g : Nat → Nat} (hf : Byt f) (j : Nat) : ∀ k, mixTo f g j k < 256
  | 0 => by simp [mixTo]
  | k + 1 => xor8 (mixTo_lt hf j k) (times_lt (hf _) _)

def wLock : Nat → Nat | 0 => 2 | 1 => 3 | 2 => 1 | 3 => 1 | _ => 0
def wOpen : Nat → Nat | 0 => 14 | 1 => 11 | 2 => 13 | 3 => 9 | _ => 0

theorem mixM_lock {f : Nat → Nat} (hf : Byt f) : mixM f wLock = aMix f := by
  funext j
  show 0 ^^^ timesN (f (colN j 0)) 2 ^^^ timesN (f (colN j 1)) 3 ^^^ timesN (f (colN j 2)) 1 ^^^ timesN (f (colN j 3)) 1 = _
  rw [col_0, Nat.zero_xor, times_one (hf _), times_one (hf _)]
  rfl
theorem mixM_open (f : Nat → Nat) : mixM f wOpen = aUnmix f := by
  funext j
  show 0 ^^^ timesN (f (colN j 0)) 14 ^^^ timesN (f (colN j 1)) 11 ^^^ timesN (f (colN j 2)) 13 ^^^ timesN (f (colN j 3)) 9 = _
  rw [col_0, Nat.zero_xor]
  rfl

theorem info_w4 (f : Nat → Value) : (Tryz.prog.info? 114).map (·.size) = some (rowOf 4 f).size := by rw [rowOf_size]; kernel_rfl

theorem mix_start (f g : Nat → Nat) (j : Nat) : upd (part (mixM f g) zeroN j) j (mixTo f g j 0) = part (mixM f g) zeroN j := by
  funext k
  unfold upd
  split
  · rename_i h
    subst h
    rw [part_above _ _ _ _ (Nat.le_refl k)]
    rfl
  · rfl
theorem mix_end (f g : Nat → Nat) (j : Nat) : upd (part (mixM f g) zeroN j) j (mixTo f g j 4) = part (mixM f g) zeroN (j + 1) := part_upd (mixM f g) zeroN j
theorem mix_step (f g : Nat → Nat) (j k v : Nat) (hv : v = mixTo f g j (k + 1)) :
    (rowOf 16 (w8 (upd (part (mixM f g) zeroN j) j (mixTo f g j k)))).setIfInBounds j (.int .u8 ((v : Nat) : Int)) = rowOf 16 (w8 (upd (part (mixM f g) zeroN j) j (mixTo f g j (k + 1)))) := by
  subst hv
  rw [rowOf_upd8]
  congr 1
  funext i
  unfold w8 upd
  split <;> rfl

set_option maxHeartbeats 1000000 in
set_option maxRecDepth 8000 in
theorem mixed_keys (f g : Nat → Nat) (hf : Hid (Byt f)) (hg : Hid (Byt g)) (w : World) :
    Calls Tryz.prog 66 #[.agg (rowOf 16 (w8 f)), .agg (rowOf 4 (w8 g))] w fun e w' => e = .returned (.agg (rowOf 16 (w8 (mixM f g)))) ∧ Below w.heap.size w w' := by
  go_enter Tryz.func66, Tryz.ntmps66
  go_wp2
  rw [← z8_16]
  have hw1 := Lib.hid (allocs_row [.cells (rowOf 16 (w8 f)) 23, .cells (rowOf 4 (w8 g)) 114, .cells (rowOf 16 (w8 zeroN)) 23, .cells (rowOf 16 (w8 zeroN)) 23] w)
  have r0 : Hid (RowAt ((((w.alloc (.cells (rowOf 16 (w8 f)) 23)).alloc (.cells (rowOf 4 (w8 g)) 114)).alloc (.cells (rowOf 16 (w8 zeroN)) 23)).alloc (.cells (rowOf 16 (w8 zeroN)) 23)) w.heap.size 23 (rowOf 16 (w8 f))) := hw1.out 0 _ _ rfl
  have r1 : Hid (RowAt ((((w.alloc (.cells (rowOf 16 (w8 f)) 23)).alloc (.cells (rowOf 4 (w8 g)) 114)).alloc (.cells (rowOf 16 (w8 zeroN)) 23)).alloc (.cells (rowOf 16 (w8 zeroN)) 23)) (w.heap.size + 1) 114 (rowOf 4 (w8 g))) := hw1.out 1 _ _ rfl
  have r2 : Hid (RowAt ((((w.alloc (.cells (rowOf 16 (w8 f)) 23)).alloc (.cells (rowOf 4 (w8 g)) 114)).alloc (.cells (rowOf 16 (w8 zeroN)) 23)).alloc (.cells (rowOf 16 (w8 zeroN)) 23)) (w.heap.size + 1 + 1) 23 (rowOf 16 (w8 zeroN))) := hw1.out 2 _ _ rfl
  have r3 : Hid (RowAt ((((w.alloc (.cells (rowOf 16 (w8 f)) 23)).alloc (.cells (rowOf 4 (w8 g)) 114)).alloc (.cells (rowOf 16 (w8 zeroN)) 23)).alloc (.cells (rowOf 16 (w8 zeroN)) 23)) (w.heap.size + 1 + 1 + 1) 23 (rowOf 16 (w8 zeroN))) := hw1.out 3 _ _ rfl
  have b0 : Below w.heap.size w ((((w.alloc (.cells (rowOf 16 (w8 f)) 23)).alloc (.cells (rowOf 4 (w8 g)) 114)).alloc (.cells (rowOf 16 (w8 zeroN)) 23)).alloc (.cells (rowOf 16 (w8 zeroN)) 23)) := allocs_below [.cells (rowOf 16 (w8 f)) 23, .cells (rowOf 4 (w8 g)) 114, .cells (rowOf 16 (w8 zeroN)) 23, .cells (rowOf 16 (w8 zeroN)) 23] w
  clear hw1
  generalize (((w.alloc (.cells (rowOf 16 (w8 f)) 23)).alloc (.cells (rowOf 4 (w8 g)) 114)).alloc (.cells (rowOf 16 (w8 zeroN)) 23)).alloc (.cells (rowOf 16 (w8 zeroN)) 23) = w1 at *
  go_loopw [11] (fun i wr => ∃ j : Nat, j ≤ 16 ∧ i = .int .i64 j ∧ Hid (RowAt wr (w.heap.size + 1 + 1 + 1) 23 (rowOf 16 (w8 (part (mixM f g) zeroN j)))) ∧ Below (w.heap.size + 1 + 1 + 1) w1 wr)
    (fun i _ => 16 - (intOf i).toNat)
  case atStart => exact ⟨0, by omega, rfl, by rw [part_zero]; exact r3, Below.refl _ _⟩
  case round =>
    clear r3
    obtain ⟨j, hj, rfl, h3, hbl⟩ := hrel
    by_cases hlt : j < 16
    · obtain ⟨r, hr⟩ : ∃ r, r = j % 4 := ⟨_, rfl⟩
      obtain ⟨a, ha⟩ : ∃ a, a = 4 * (j / 4) := ⟨_, rfl⟩
      have e8 : (j : Int) % 4 = (r : Int) := by omega
      have e7 : (j : Int) - (r : Int) = (a : Int) := by omega
      have r4 : r < 4 := by omega
      have a16 : a ≤ 12 := by omega
      have C : Hid (∀ k, colN j k = a + (r + k) % 4) := by intro k; unfold colN; rw [hr, ha]
      have hr1 : Hid (RowAt wr (w.heap.size + 1) 114 (rowOf 4 (w8 g))) := r1.out.below hbl (by omega)
      clear hr ha
      go_wp2_with (refine wpList_load_row rfl 114 _ rfl (w.heap.size + 1) rfl 114 _ (0, 0) _ hr1.out Tryz.underlying114 rfl (info_w4 _) ?_)
      clear e8 e7 hr1
      go_loopw [21] (fun i wr' => ∃ k : Nat, k ≤ 4 ∧ i = .int .i64 k ∧ Hid (RowAt wr' (w.heap.size + 1 + 1 + 1) 23 (rowOf 16 (w8 (upd (part (mixM f g) zeroN j) j (mixTo f g j k))))) ∧ Below (w.heap.size + 1 + 1 + 1) w1 wr')
        (fun i _ => 4 - (intOf i).toNat)
      case atStart => exact ⟨0, by omega, rfl, by rw [mix_start]; exact h3, hbl⟩
      case round =>
        clear h3 hbl
        obtain ⟨k, hk, rfl, h3, hbl⟩ := hrel
        by_cases hlk : k < 4
        · obtain ⟨x, hx⟩ : ∃ x, x = a + (r + k) % 4 := ⟨_, rfl⟩
          have ex : (a : Int) + ((r : Int) + (k : Int)) % 4 = (x : Int) := by omega
          have hx16 : x < 16 := by omega
          have X : Hid (colN j k = x) := by unfold Hid; rw [C.out, hx]
          clear hx
          have ix : (Instr.index 114 (.agg (rowOf 4 (w8 g))) (.int .i64 (k : Int))).run Tryz.prog wr = .ok (.int .u8 ((g k : Nat) : Int)) wr := run_index_row wr 114 5 4 (w8 g) .i64 k Tryz.underlying114 sz8 plain8 hlk
          go_wp2
          clear ix
          refine wp_region_still_tail 15 (by kernel_rfl) (by kernel_rfl) ?_
          change wpStill _ _ wr.drew (fun a' => wpList _ _ _ _ a' wr.drew) _ _
          replace h3 : Hid (RowAt wr.drew (w.heap.size + 1 + 1 + 1) 23 (rowOf 16 (w8 (upd (part (mixM f g) zeroN j) j (mixTo f g j k))))) := h3
          replace hbl : Below (w.heap.size + 1 + 1 + 1) w1 wr.drew := hbl.drew
          generalize wr.drew = w9 at *
          have c0 := (r0.out.below hbl (by omega)).cell x hx16
          have c3 := h3.out.cell j hlt
          have f3 := h3.out.free j
          unfold w8 at c0 c3
          rw [show upd (part (mixM f g) zeroN j) j (mixTo f g j k) j = mixTo f g j k by simp [upd]] at c3
          have l1 := mixTo_lt (g := g) hf.out j k
          have l2 := hf.out x
          have l3 := hg.out k
          have T := Lib.hid (times_any (f x) (g k) l2 l3 w9)
          have l4 := times_lt l2 (g k)
          have N : Hid (mixTo f g j k ^^^ timesN (f x) (g k) = mixTo f g j (k + 1)) := by unfold Hid; rw [← X.out]; rfl
          have e3 := Lib.hid (mix_step f g j k _ N.out)
          have E1 := Lib.hid (u8_xor_nat (mixTo f g j k) (timesN (f x) (g k)) l1 l4)
          generalize timesN (f x) (g k) = z at *
          simp only [List.take_succ_cons, List.take_zero, List.drop_succ_cons, List.drop_zero]
          refine wpStill_of_quiet _ _ ?_
          repeat (first | go_big_quiet_skip | (go_big_quiet_want; go_big_quiet_op; go_big_quiet_on))
          (go_big_quiet_want; go_big_quiet_op; apply Exists.intro; refine ⟨T.out, ?_⟩; go_big_quiet_on)
          repeat (first | go_big_quiet_skip | (go_big_quiet_want; go_big_quiet_op; go_big_quiet_on))
          refine wpQuiet_nil ?_
          clear T
          go_wp2
          go_roundw
          case rel =>
            refine ⟨k + 1, by omega, by go_num, ?_, hbl.setCell (Nat.le_refl _) _⟩
            rw [E1.out]
            exact (h3.out.set j _).congr e3.out
          case measure => simp [intOf]; omega
        · have : k = 4 := by omega
          subst this
          rw [mix_end] at h3
          go_wp2
          go_roundw
          case rel => exact ⟨j + 1, by omega, by go_num, h3, hbl⟩
          case measure => simp [intOf]; omega
    · have : j = 16 := by omega
      subst this
      have hr2 : Hid (RowAt wr (w.heap.size + 1 + 1 + 1) 23 (rowOf 16 (w8 (mixM f g)))) := h3.out.congr (part_all 16 _ _)
      have h1 : Hid (RowAt wr (w.heap.size + 1 + 1) 23 (rowOf 16 (w8 zeroN))) := r2.out.below hbl (by omega)
      clear h3
      go_wp2_with (first | (refine wpList_load_row rfl 23 _ rfl (w.heap.size + 1 + 1 + 1) rfl 23 _ (0, 0) _ hr2.out Tryz.underlying23 rfl (info_key _) ?_) | (refine wpList_store_row rfl 23 _ _ rfl (w.heap.size + 1 + 1) (rowOf 16 (w8 (mixM f g))) rfl rfl 23 _ h1.out (info_key _) (by rw [rowOf_size, rowOf_size]) (rowOf_cells8 _ _) ?_))
      refine bodyPost_ret (v := .agg (rowOf 16 (w8 (mixM f g)))) ?_ rfl ⟨rfl, below_setRow' (b0.trans (hbl.mono (by omega))) (by omega) _⟩
      exact results_cell_row Tryz.results66 _ _ (w.heap.size + 1 + 1) 23 (rowOf 16 (w8 (mixM f g))) (0, 0) _ rfl (h1.out.setRow _) Tryz.underlying23 rfl (info_key _)

end Go.Proofs.YtacekpjkgkkekaaGreatDoor
/-
  Contracts: nextRound.
-/
namespace Go.Proofs.YtacekpjkgkkekaaGreatDoor
open Go.RowKit

/-- The first column of the next round key, but for the mark. -/
def nextA (f : Nat → Nat) : Nat → Nat := fun j => f j ^^^ boxN (f (12 + (j + 1) % 4))

theorem nextA_lt {f : Nat → Nat} (hf : Byt f) (j : Nat) : nextA f j < 256 := xor8 (hf _) (box_lt_any _)

theorem next_mark (f : Nat → Nat) (x : Nat) : (rowOf 16 (w8 (part (nextA f) f 4))).setIfInBounds 0 (.int .u8 ((nextA f 0 ^^^ x : Nat) : Int)) = rowOf 16 (w8 (part (rkNext f x) f 4)) := by
  rw [rowOf_upd8]
  refine rowOf_congr fun j hj => ?_
  unfold w8
  congr 2
  unfold upd
  by_cases h0 : j = 0
  · subst h0
    rw [if_pos rfl, part_below _ _ _ _ (by decide)]
    show _ = f 0 ^^^ (boxN (f (12 + (0 + 1) % 4)) ^^^ x)
    unfold nextA
    rw [Nat.xor_assoc]
  · rw [if_neg h0]
    by_cases h4 : j < 4
    · rw [part_below _ _ _ _ h4, part_below _ _ _ _ h4]
      unfold rkNext nextA
      rw [show j / 4 = 0 by omega, show j % 4 = j by omega]
      unfold rkCol
      rw [if_neg h0]
    · rw [part_above _ _ _ _ (by omega), part_above _ _ _ _ (by omega)]

theorem next_col (f : Nat → Nat) (x j i : Nat) (hi : j = i + 4) : f j ^^^ rkNext f x i = rkNext f x j := by
  unfold rkNext
  obtain ⟨c, hc⟩ : ∃ c, i / 4 = c := ⟨_, rfl⟩
  rw [show j / 4 = c + 1 by omega, show j % 4 = i % 4 by omega, hc]
  show _ = f (4 * (c + 1) + i % 4) ^^^ _
  rw [show 4 * (c + 1) + i % 4 = j by omega]

theorem rkNext_byt {f : Nat → Nat} (hf : Byt f) {x : Nat} (hx : x < 256) : Byt (rkNext f x) := fun _ => rkCol_lt hf hx _ _

set_option maxHeartbeats 1000000 in
set_option maxRecDepth 8000 in
theorem next_any (f : Nat → Nat) (x : Nat) (hf : Hid (Byt f)) (hx : x < 256) (w : World) :
    Calls Tryz.prog 76 #[.agg (rowOf 16 (w8 f)), .int .u8 (x : Int)] w fun e w' => e = .returned (.agg (rowOf 16 (w8 (rkNext f x)))) ∧ Below w.heap.size w w' := by
  have la : Hid (RowAt ((w.alloc (.cells (rowOf 16 (w8 f)) 23)).alloc (.cells (rowOf 16 (w8 zeroN)) 23)) w.heap.size 23 (rowOf 16 (w8 f))) := (RowAt.new _ _ _).alloc _
  have lb : Hid (RowAt (((w.alloc (.cells (rowOf 16 (w8 f)) 23)).alloc (.cells (rowOf 16 (w8 zeroN)) 23)).alloc (.cells (rowOf 16 (w8 zeroN)) 23)) (w.heap.size + 1 + 1) 23 (rowOf 16 (w8 zeroN))) := row_new2 w _ _ _ _
  have lc : Hid (RowAt (((w.alloc (.cells (rowOf 16 (w8 f)) 23)).alloc (.cells (rowOf 16 (w8 zeroN)) 23)).alloc (.cells (rowOf 16 (w8 zeroN)) 23)) (w.heap.size + 1) 23 (rowOf 16 (w8 zeroN))) := row_new1 w _ _ _ _
  have bb : Below w.heap.size w (((w.alloc (.cells (rowOf 16 (w8 f)) 23)).alloc (.cells (rowOf 16 (w8 zeroN)) 23)).alloc (.cells (rowOf 16 (w8 zeroN)) 23)) := (((Below.refl _ _).alloc (Nat.le_refl _) _).alloc (by simp) _).alloc (by simp; omega) _
  have r0 := Lib.hid ((la.out.alloc (.cells (rowOf 16 (w8 zeroN)) 23)).setRowOther (w.heap.size + 1 + 1) (rowOf 16 (w8 f)) (by omega))
  have r1 := Lib.hid (lc.out.setRowOther (w.heap.size + 1 + 1) (rowOf 16 (w8 f)) (by omega))
  have r2 := Lib.hid (lb.out.setRow (rowOf 16 (w8 f)))
  have b0 := below_setRow' bb (show w.heap.size ≤ w.heap.size + 1 + 1 by omega) (rowOf 16 (w8 f))
  have sl : ∀ W, (Instr.sliceAt 23 (.pointer (some ⟨w.heap.size, 0, none⟩)) (some (.int .i64 12)) none none).run Tryz.prog W = .ok (.slice (some ⟨w.heap.size, 12, none⟩) 4 4) W := fun W => run_slice_l (P := Tryz.prog) Tryz.underlying23 sz8 w.heap.size 12 12 rfl (by decide) W
  rw [z8_16] at la lb
  clear lc bb
  go_enter Tryz.func76, Tryz.ntmps76
  go_wp2_with (first | (refine wpList_load_row rfl 23 _ rfl w.heap.size rfl 23 _ (0, 0) _ la.out Tryz.underlying23 rfl (info_key _) ?_) | (refine wpList_store_row rfl 23 _ _ rfl (w.heap.size + 1 + 1) (rowOf 16 (w8 f)) rfl rfl 23 _ lb.out (info_key _) (by rw [rowOf_size]; rfl) (rowOf_cells8 _ _) ?_))
  clear la lb sl
  rw [← z8_16]
  generalize World.setRow _ _ _ = w1 at *
  go_loopw [11] (fun i wr => ∃ r : Nat, r ≤ 4 ∧ i = .int .i64 r ∧ Hid (RowAt wr (w.heap.size + 1 + 1) 23 (rowOf 16 (w8 (part (nextA f) f r)))) ∧ Below (w.heap.size + 1 + 1) w1 wr)
    (fun i _ => 4 - (intOf i).toNat)
  case atStart => exact ⟨0, by omega, rfl, by rw [part_zero]; exact r2, Below.refl _ _⟩
  case round =>
    clear r2
    obtain ⟨r, hr, rfl, h2, hbl⟩ := hrel
    by_cases hlt : r < 4
    · obtain ⟨y, hy⟩ : ∃ y, y = (r + 1) % 4 := ⟨_, rfl⟩
      have ey : ((r : Int) + 1) % 4 = (y : Int) := by omega
      have y4 : y < 4 := by omega
      have N : Hid (f r ^^^ boxN (f (12 + y)) = nextA f r) := by unfold Hid nextA; rw [hy]
      clear hy
      go_wp2
      refine wp_region_still_tail 12 (by kernel_rfl) (by kernel_rfl) ?_
      change wpStill _ _ wr.drew (fun a' => wpList _ _ _ _ a' wr.drew) _ _
      replace h2 : Hid (RowAt wr.drew (w.heap.size + 1 + 1) 23 (rowOf 16 (w8 (part (nextA f) f r)))) := h2
      replace hbl : Below (w.heap.size + 1 + 1) w1 wr.drew := hbl.drew
      generalize wr.drew = w9 at *
      have c0 := (r0.out.below hbl (by omega)).cell (12 + y) (by omega)
      have c2 := h2.out.cell r (by omega)
      have f2 := h2.out.free r
      unfold w8 at c0 c2
      rw [part_above _ _ _ _ (Nat.le_refl r)] at c2
      have l1 := hf.out (12 + y)
      have l2 := hf.out r
      have T := Lib.hid (box_any (f (12 + y)) l1 w9)
      have l3 := box_lt_any (f (12 + y))
      have E1 := Lib.hid (u8_xor_nat (f r) (boxN (f (12 + y))) l2 l3)
      have e3 := Lib.hid (u8_row 16 (nextA f) f r)
      rw [N.out] at E1
      generalize boxN (f (12 + y)) = z at *
      simp only [List.take_succ_cons, List.take_zero, List.drop_succ_cons, List.drop_zero]
      refine wpStill_of_quiet _ _ ?_
      repeat (first | go_big_quiet_skip | (go_big_quiet_want; go_big_quiet_op; go_big_quiet_on))
      (go_big_quiet_want; go_big_quiet_op; apply Exists.intro; refine ⟨T.out, ?_⟩; go_big_quiet_on)
      repeat (first | go_big_quiet_skip | (go_big_quiet_want; go_big_quiet_op; go_big_quiet_on))
      refine wpQuiet_nil ?_
      clear T
      go_wp2
      go_roundw
      case rel =>
        refine ⟨r + 1, by omega, by go_num, ?_, hbl.setCell (Nat.le_refl _) _⟩
        rw [E1.out]
        exact (h2.out.set r _).congr e3.out
      case measure => simp [intOf]; omega
    · have : r = 4 := by omega
      subst this
      have c2 := h2.out.cell 0 (by decide)
      have f2 := h2.out.free 0
      unfold w8 at c2
      rw [part_below _ _ _ _ (by decide)] at c2
      have E1 := Lib.hid (u8_xor_nat (nextA f 0) x (nextA_lt hf.out 0) hx)
      have e3 := Lib.hid (next_mark f x)
      generalize hz : nextA f 0 = z at *
      clear hz
      go_wp2
      rw [E1.out]
      replace h2 := Lib.hid ((h2.out.set 0 (.int .u8 ((z ^^^ x : Nat) : Int))).congr e3.out)
      replace hbl : Below (w.heap.size + 1 + 1) w1 (wr.setCell ⟨w.heap.size + 1 + 1, 0, none⟩ (.int .u8 ((z ^^^ x : Nat) : Int))) := hbl.setCell (Nat.le_refl _) _
      clear c2 f2 E1 e3
      generalize wr.setCell _ _ = w5 at *
      go_loopw [8] (fun i wr => ∃ j : Nat, 4 ≤ j ∧ j ≤ 16 ∧ i = .int .i64 j ∧ Hid (RowAt wr (w.heap.size + 1 + 1) 23 (rowOf 16 (w8 (part (rkNext f x) f j)))) ∧ Below (w.heap.size + 1 + 1) w1 wr)
        (fun i _ => 16 - (intOf i).toNat)
      case atStart => exact ⟨4, by omega, by omega, rfl, h2, hbl⟩
      case round =>
        clear h2 hbl
        obtain ⟨j, hj4, hj, rfl, h2, hbl⟩ := hrel
        by_cases hlj : j < 16
        · obtain ⟨i, hi⟩ : ∃ i, j = i + 4 := ⟨j - 4, by omega⟩
          have ei : (j : Int) - 4 = (i : Int) := by omega
          have N := Lib.hid (next_col f x j i hi)
          have ij : i < j := by omega
          clear hi
          go_wp2
          refine wp_region_still_tail 9 (by kernel_rfl) (by kernel_rfl) ?_
          change wpStill _ _ wr.drew (fun a' => wpList _ _ _ _ a' wr.drew) _ _
          replace h2 : Hid (RowAt wr.drew (w.heap.size + 1 + 1) 23 (rowOf 16 (w8 (part (rkNext f x) f j)))) := h2
          replace hbl : Below (w.heap.size + 1 + 1) w1 wr.drew := hbl.drew
          generalize wr.drew = w9 at *
          have c2 := h2.out.cell j hlj
          have c3 := h2.out.cell i (by omega)
          have f2 := h2.out.free j
          unfold w8 at c2 c3
          rw [part_above _ _ _ _ (Nat.le_refl j)] at c2
          rw [part_below _ _ _ _ ij] at c3
          have l1 := hf.out j
          have l2 := rkNext_byt hf.out hx i
          have E1 := Lib.hid (u8_xor_nat (f j) (rkNext f x i) l1 l2)
          have e3 := Lib.hid (u8_row 16 (rkNext f x) f j)
          rw [N.out] at E1
          generalize rkNext f x i = z at *
          simp only [List.take_succ_cons, List.take_zero, List.drop_succ_cons, List.drop_zero]
          refine wpStill_of_quiet _ _ ?_
          repeat (first | go_big_quiet_skip | (go_big_quiet_want; go_big_quiet_op; go_big_quiet_on))
          refine wpQuiet_nil ?_
          go_wp2
          go_roundw
          case rel =>
            refine ⟨j + 1, by omega, by omega, by go_num, ?_, hbl.setCell (Nat.le_refl _) _⟩
            rw [E1.out]
            exact (h2.out.set j _).congr e3.out
          case measure => simp [intOf]; omega
        · have : j = 16 := by omega
          subst this
          have hr2 : Hid (RowAt wr (w.heap.size + 1 + 1) 23 (rowOf 16 (w8 (rkNext f x)))) := h2.out.congr (part_all 16 _ _)
          have h1 : Hid (RowAt wr (w.heap.size + 1) 23 (rowOf 16 (w8 zeroN))) := r1.out.below hbl (by omega)
          clear h2
          go_wp2_with (first | (refine wpList_load_row rfl 23 _ rfl (w.heap.size + 1 + 1) rfl 23 _ (0, 0) _ hr2.out Tryz.underlying23 rfl (info_key _) ?_) | (refine wpList_store_row rfl 23 _ _ rfl (w.heap.size + 1) (rowOf 16 (w8 (rkNext f x))) rfl rfl 23 _ h1.out (info_key _) (by rw [rowOf_size, rowOf_size]) (rowOf_cells8 _ _) ?_))
          refine bodyPost_ret (v := .agg (rowOf 16 (w8 (rkNext f x)))) ?_ rfl ⟨rfl, below_setRow' (b0.trans (hbl.mono (by omega))) (by omega) _⟩
          exact results_cell_row Tryz.results76 _ _ (w.heap.size + 1) 23 (rowOf 16 (w8 (rkNext f x))) (0, 0) _ rfl (h1.out.setRow _) Tryz.underlying23 rfl (info_key _)

end Go.Proofs.YtacekpjkgkkekaaGreatDoor
/-
  Contracts: the document's Boxes.
-/
namespace Go.Proofs.YtacekpjkgkkekaaGreatDoor
open Go.RowKit

theorem zero256 : (Tryz.prog.info? 88).map (fun i => (i.zero, i.size)) = some (some (.agg (rowOf 256 (w8 zeroN))), 256) := by kernel_rfl
theorem info_256 (f : Nat → Value) : (Tryz.prog.info? 88).map (·.size) = some (rowOf 256 f).size := by rw [rowOf_size]; kernel_rfl

set_option maxHeartbeats 1000000 in
set_option maxRecDepth 8000 in
theorem refBoxes_any (w : World) :
    Calls Tryz.prog 55 #[] w fun e w' => e = .returned (.agg (rowOf 256 (w8 boxN))) ∧ Below w.heap.size w w' := by
  have zv := (zero_of_info zero256).1
  have r0 : Hid (RowAt ((w.alloc (.cells (rowOf 256 (w8 zeroN)) 88)).alloc (.cells (rowOf 256 (w8 zeroN)) 88)) w.heap.size 88 (rowOf 256 (w8 zeroN))) := (RowAt.new _ _ _).alloc _
  have r1 : Hid (RowAt ((w.alloc (.cells (rowOf 256 (w8 zeroN)) 88)).alloc (.cells (rowOf 256 (w8 zeroN)) 88)) (w.heap.size + 1) 88 (rowOf 256 (w8 zeroN))) := by
    have := RowAt.new (w.alloc (.cells (rowOf 256 (w8 zeroN)) 88)) 88 (rowOf 256 (w8 zeroN))
    rw [World.size_alloc] at this
    exact this
  have b0 : Below w.heap.size w ((w.alloc (.cells (rowOf 256 (w8 zeroN)) 88)).alloc (.cells (rowOf 256 (w8 zeroN)) 88)) := ((Below.refl _ _).alloc (Nat.le_refl _) _).alloc (by simp) _
  go_enter Tryz.func55, Tryz.ntmps55
  go_wp2_with (first | (refine wpList_buildTo rfl 88 _ rfl _ rfl (rowOf 256 (w8 zeroN)) (by kernel_rfl) ?_) | (refine wpList_store_row rfl 88 _ _ rfl (w.heap.size + 1) (rowOf 256 (w8 zeroN)) rfl rfl 88 _ r1.out (info_256 _) (by rw [rowOf_size]) (rowOf_cells8 _ _) ?_))
  clear zv
  replace r0 := Lib.hid (r0.out.setRowOther (w.heap.size + 1) (rowOf 256 (w8 zeroN)) (by omega))
  replace r1 := Lib.hid (r1.out.setRow (rowOf 256 (w8 zeroN)))
  replace b0 := below_setRow' b0 (show w.heap.size ≤ w.heap.size + 1 by omega) (rowOf 256 (w8 zeroN))
  generalize World.setRow _ _ _ = w1 at *
  go_loopw [2] (fun i wr => ∃ j : Nat, j ≤ 256 ∧ i = .int .i64 j ∧ Hid (RowAt wr (w.heap.size + 1) 88 (rowOf 256 (w8 (part boxN zeroN j)))) ∧ Below (w.heap.size + 1) w1 wr)
    (fun i _ => 256 - (intOf i).toNat)
  case atStart => exact ⟨0, by omega, rfl, by rw [part_zero]; exact r1, Below.refl _ _⟩
  case round =>
    clear r1
    obtain ⟨j, hj, rfl, h1, hbl⟩ := hrel
    by_cases hlt : j < 256
    · have T := Lib.hid (refBox_any j hlt wr)
      have c1 := h1.out.cell j hlt
      have f1 := h1.out.free j
      have e3 := Lib.hid (u8_row 256 boxN zeroN j)
      generalize hy : boxN j = y at *
      clear hy
      go_wp2_with fail
      refine T.out.mono ?_
      rintro e w' ⟨rfl, rfl⟩
      clear T
      go_wp2
      go_roundw
      case rel => exact ⟨j + 1, by omega, by go_num, (h1.out.set j _).congr e3.out, hbl.setCell (Nat.le_refl _) _⟩
      case measure => simp [intOf]; omega
    · have : j = 256 := by omega
      subst this
      have hr2 : Hid (RowAt wr (w.heap.size + 1) 88 (rowOf 256 (w8 boxN))) := h1.out.congr (part_all 256 _ _)
      have h0 : Hid (RowAt wr w.heap.size 88 (rowOf 256 (w8 zeroN))) := r0.out.below hbl (by omega)
      clear h1
      go_wp2_with (first | (refine wpList_load_row rfl 88 _ rfl (w.heap.size + 1) rfl 88 _ (0, 0) _ hr2.out Tryz.underlying88 rfl (info_256 _) ?_) | (refine wpList_store_row rfl 88 _ _ rfl w.heap.size (rowOf 256 (w8 boxN)) rfl rfl 88 _ h0.out (info_256 _) (by rw [rowOf_size, rowOf_size]) (rowOf_cells8 _ _) ?_))
      refine bodyPost_ret (v := .agg (rowOf 256 (w8 boxN))) ?_ rfl ⟨rfl, below_setRow' (b0.trans (hbl.mono (by omega))) (by omega) _⟩
      exact results_cell_row Tryz.results55 _ _ w.heap.size 88 (rowOf 256 (w8 boxN)) (0, 0) _ rfl (h0.out.setRow _) Tryz.underlying88 rfl (info_256 _)

end Go.Proofs.YtacekpjkgkkekaaGreatDoor
/-
  The cipher's block; contract of New.
-/
namespace Go.Proofs.YtacekpjkgkkekaaGreatDoor
open Go.RowKit

/-- The cells of a cipher: whether it is done, the lock's state and its queue, the round keys. -/
def cipV (d m : Int) (r : Nat → Nat) : Nat → Value
  | 0 => .int .u32 d
  | 1 => .int .i32 m
  | 2 => .int .u32 0
  | j + 3 => .int .u8 (r j : Nat)

theorem cip_at (d m : Int) (r : Nat → Nat) (j : Nat) : cipV d m r (3 + j) = .int .u8 (r j : Nat) := by rw [Nat.add_comm]; rfl

theorem cip_cells (d m : Int) (r : Nat → Nat) (n : Nat) : (rowOf n (cipV d m r)).all (·.oneCell') = true := by
  rw [Array.all_eq_true_iff_forall_mem]
  intro v hv
  unfold rowOf at hv
  simp only [List.mem_toArray, List.mem_map] at hv
  obtain ⟨b, _, rfl⟩ := hv
  unfold cipV
  split <;> rfl

theorem cip_congr {d m : Int} {r s : Nat → Nat} (h : ∀ j, j < 176 → r j = s j) : rowOf 179 (cipV d m r) = rowOf 179 (cipV d m s) := rowOf_congr fun j hj => by
  match j with
  | 0 => rfl
  | 1 => rfl
  | 2 => rfl
  | j + 3 => show Value.int .u8 _ = Value.int .u8 _; rw [h j (by omega)]

theorem cip_set0 (d m d' : Int) (r : Nat → Nat) : (rowOf 179 (cipV d m r)).setIfInBounds 0 (.int .u32 d') = rowOf 179 (cipV d' m r) := by
  rw [rowOf_set]
  refine rowOf_congr fun j _ => ?_
  match j with
  | 0 => rfl
  | 1 => rfl
  | 2 => rfl
  | j + 3 => rfl
theorem cip_set1 (d m m' : Int) (r : Nat → Nat) : (rowOf 179 (cipV d m r)).setIfInBounds 1 (.int .i32 m') = rowOf 179 (cipV d m' r) := by
  rw [rowOf_set]
  refine rowOf_congr fun j _ => ?_
  match j with
  | 0 => rfl
  | 1 => rfl
  | 2 => rfl
  | j + 3 => rfl

/-- Round key i laid. -/
def layK (x f : Nat → Nat) (i : Nat) : Nat → Nat := fun j => if 16 * i ≤ j ∧ j < 16 * i + 16 then f (j - 16 * i) else x j

theorem cip_lay (d m : Int) (x f : Nat → Nat) (i : Nat) : rowOf 179 (laidV (cipV d m x) (w8 f) (3 + i * 16) 16) = rowOf 179 (cipV d m (layK x f i)) := by
  rw [Nat.mul_comm i 16]
  refine rowOf_congr fun j _ => ?_
  unfold laidV
  match j with
  | 0 => rw [if_neg (by omega)]; rfl
  | 1 => rw [if_neg (by omega)]; rfl
  | 2 => rw [if_neg (by omega)]; rfl
  | j + 3 =>
    show _ = Value.int .u8 (layK x f i j : Nat)
    unfold layK
    by_cases h : 16 * i ≤ j ∧ j < 16 * i + 16
    · rw [if_pos (by omega), if_pos h]
      unfold w8
      rw [show j + 3 - (3 + 16 * i) = j - 16 * i by omega]
    · rw [if_neg (by omega), if_neg h]
      rfl

theorem cip_get (d m : Int) (x f : Nat → Nat) (i : Nat) (hi : i < 11) (h : ∀ j, j < 16 → x (16 * i + j) = f j) : ∀ j, j < 16 → (rowOf 179 (cipV d m x))[3 + i * 16 + j]? = some (w8 f j) := fun j hj => by
  rw [Nat.mul_comm i 16, rowOf_get _ _ _ (by omega), Nat.add_assoc, cip_at, h j hj]
  rfl

/-- All round keys, one behind the other. -/
def ringN (key : Nat → Nat) : Nat → Nat := fun j => rkN key (j / 16) (j % 16)

theorem ring_at (key : Nat → Nat) (i j : Nat) (hj : j < 16) : ringN key (16 * i + j) = rkN key i j := by
  unfold ringN
  rw [show (16 * i + j) / 16 = i by omega, show (16 * i + j) % 16 = j by omega]

/-- A cipher whose round keys are not made; one whose are. -/
def Fresh (w : World) (p : Nat) (key : Nat → Nat) : Prop := ∃ x, RowAt w p 109 (rowOf 179 (cipV 0 0 x)) ∧ ∀ j, j < 16 → x j = key j
def Made (w : World) (p : Nat) (key : Nat → Nat) : Prop := RowAt w p 109 (rowOf 179 (cipV 1 0 (ringN key)))
def Cip (w : World) (p : Nat) (key : Nat → Nat) : Prop := Fresh w p key ∨ Made w p key

theorem Made.below {B p : Nat} {w w' : World} {key : Nat → Nat} (h : Made w p key) (hb : Below B w w') (hp : p < B) : Made w' p key := RowAt.below h hb hp
theorem Fresh.below {B p : Nat} {w w' : World} {key : Nat → Nat} (h : Fresh w p key) (hb : Below B w w') (hp : p < B) : Fresh w' p key := by
  obtain ⟨x, h1, h2⟩ := h
  exact ⟨x, h1.below hb hp, h2⟩
theorem Cip.below {B p : Nat} {w w' : World} {key : Nat → Nat} (h : Cip w p key) (hb : Below B w w') (hp : p < B) : Cip w' p key := by
  rcases h with h | h
  · exact .inl (h.below hb hp)
  · exact .inr (h.below hb hp)
theorem Fresh.lt {w : World} {p : Nat} {key : Nat → Nat} (h : Fresh w p key) : p < w.heap.size := by
  obtain ⟨x, h1, _⟩ := h
  exact h1.lt
theorem Cip.lt {w : World} {p : Nat} {key : Nat → Nat} (h : Cip w p key) : p < w.heap.size := by
  rcases h with h | h
  · exact h.lt
  · exact RowAt.lt h

set_option maxHeartbeats 1000000 in
set_option maxRecDepth 8000 in
theorem new_any (key : Nat → Nat) (w : World) :
    Calls Tryz.prog 49 #[.agg (rowOf 16 (w8 key))] w fun e w' => ∃ p, e = .returned (.pointer (some ⟨p, 0, none⟩)) ∧ w.heap.size ≤ p ∧ Fresh w' p key ∧ Below w.heap.size w w' := by
  have r0 : Hid (RowAt ((w.alloc (.cells (rowOf 16 (w8 key)) 23)).alloc (.cells (rowOf 179 (cipV 0 0 zeroN)) 109)) w.heap.size 23 (rowOf 16 (w8 key))) := (RowAt.new _ _ _).alloc _
  have r1 : Hid (RowAt ((w.alloc (.cells (rowOf 16 (w8 key)) 23)).alloc (.cells (rowOf 179 (cipV 0 0 zeroN)) 109)) (w.heap.size + 1) 109 (rowOf 179 (cipV 0 0 zeroN))) := by
    have := RowAt.new (w.alloc (.cells (rowOf 16 (w8 key)) 23)) 109 (rowOf 179 (cipV 0 0 zeroN))
    rw [World.size_alloc] at this
    exact this
  have b0 : Below w.heap.size w ((w.alloc (.cells (rowOf 16 (w8 key)) 23)).alloc (.cells (rowOf 179 (cipV 0 0 zeroN)) 109)) := ((Below.refl _ _).alloc (Nat.le_refl _) _).alloc (by simp) _
  go_enter Tryz.func49, Tryz.ntmps49
  go_wp2_with (refine wpList_buildTo rfl 109 _ rfl _ rfl (rowOf 179 (cipV 0 0 zeroN)) (by kernel_rfl) ?_)
  refine wp_region_still_tail 5 (by kernel_rfl) (by kernel_rfl) ?_
  change wpStill _ _ (World.drew _) (fun a' => wpList _ _ _ _ a' (World.drew _)) _ _
  replace r0 := Lib.hid r0.out.drew
  replace r1 := Lib.hid r1.out.drew
  replace b0 := b0.drew
  generalize World.drew _ = w9 at *
  simp only [List.take_succ_cons, List.take_zero, List.drop_succ_cons, List.drop_zero]
  refine wpStill_of_quiet _ _ ?_
  (go_big_quiet_want; go_big_quiet_op; go_big_quiet_on)
  refine wpQuiet_load_row (by rfl) 23 _ rfl w.heap.size rfl 23 (rowOf 16 (w8 key)) _ (fun w' hw' => by subst hw'; exact r0.out) Tryz.underlying23 rfl (info_key _) ?_
  simp only [Act.put, List.setIfInBounds_toArray, List.set_cons_succ, List.set_cons_zero]
  repeat (first | go_big_quiet_skip | (go_big_quiet_want; go_big_quiet_op; go_big_quiet_on))
  refine wpQuiet_nil ?_
  refine wpList_store_at rfl 23 _ _ rfl (w.heap.size + 1) 3 179 16 (cipV 0 0 zeroN) (w8 key) rfl rfl 109 r1.out (by kernel_rfl) (rowOf_cells8 _ _) (by decide) ?_
  have r2 := Lib.hid (r1.out.setRow (rowOf 179 (cipV 0 0 (layK zeroN key 0))))
  have b2 := below_setRow' b0 (show w.heap.size ≤ w.heap.size + 1 by omega) (rowOf 179 (cipV 0 0 (layK zeroN key 0)))
  rw [show rowOf 179 (laidV (cipV 0 0 zeroN) (w8 key) 3 16) = rowOf 179 (cipV 0 0 (layK zeroN key 0)) from cip_lay 0 0 zeroN key 0]
  generalize World.setRow _ _ _ = w3 at *
  clear r0 r1 b0
  go_wp2
  go_ret
  refine ⟨w.heap.size + 1, rfl, by omega, ⟨_, r2.out, fun j hj => ?_⟩, b2⟩
  unfold layK
  rw [if_pos (by omega)]
  rfl

end Go.Proofs.YtacekpjkgkkekaaGreatDoor
/-
  Worlds that are as before but for one block, and what lies above.
-/
namespace Go.Proofs.YtacekpjkgkkekaaGreatDoor
open Go.RowKit

/-- But for block p, and what is new, w' is as w. -/
def Apart (p : Nat) (w w' : World) : Prop := ∀ cs, Below w.heap.size (w.setRow p cs) (w'.setRow p cs)

theorem below_both {B p : Nat} {a b : World} (h : Below B a b) (cs : Array Value) : Below B (a.setRow p cs) (b.setRow p cs) := by
  refine ⟨h.os, h.tape, h.output, by rw [setRow_size, setRow_size]; exact h.size, fun k hk => ?_⟩
  simp only [World.setRow, Array.getElem?_modify, h.block k hk]

theorem Apart.refl (p : Nat) (w : World) : Apart p w w := fun _ => Below.refl _ _
theorem Apart.size {p : Nat} {w w' : World} (h : Apart p w w') : w.heap.size ≤ w'.heap.size := by
  have := (h #[]).size
  rwa [setRow_size, setRow_size] at this
theorem Apart.trans {p : Nat} {a b c : World} (h : Apart p a b) (k : Apart p b c) : Apart p a c := fun cs => (h cs).trans ((k cs).mono h.size)
theorem Apart.of_below {p : Nat} {w w' : World} (h : Below w.heap.size w w') : Apart p w w' := fun cs => below_both h cs
theorem Apart.below {p : Nat} {w w' w'' : World} (h : Apart p w w') (k : Below w'.heap.size w' w'') : Apart p w w'' := h.trans (.of_below k)
theorem Apart.drew {p : Nat} {w w' : World} (h : Apart p w w') : Apart p w w'.drew := h.trans (.of_below (Below.refl _ _).drew)
theorem Apart.setRow {p : Nat} {w w' : World} (h : Apart p w w') (ds : Array Value) : Apart p w (w'.setRow p ds) := fun cs => by
  rw [setRow_setRow]
  exact h cs
theorem Apart.setCell {p i : Nat} {w w' : World} {t : TypeId} {ds : Array Value} (h : Apart p w w') (hr : RowAt w' p t ds) (v : Value) : Apart p w (w'.setCell ⟨p, i, none⟩ v) := by
  rw [setCell_eq_setRow w' p i ds t (0, 0) v hr]
  exact h.setRow _
theorem Apart.done {p : Nat} {w w' : World} {t : TypeId} {cs : Array Value} (h : Apart p w w') (hr : RowAt w' p t cs) : Below w.heap.size (w.setRow p cs) w' := by
  have := h cs
  rwa [setRow_self w' p cs t (0, 0) hr] at this
theorem Apart.row {p q : Nat} {w w' : World} {t : TypeId} {cs : Array Value} (h : Apart p w w') (hr : RowAt w q t cs) (hq : q ≠ p) : RowAt w' q t cs := by
  have h1 := (hr.setRowOther p #[] hq).below (h #[]) (by have := hr.lt; exact this)
  unfold RowAt at h1 ⊢
  rwa [setRow_other _ _ _ _ hq] at h1
/-- Below a number that block p is not below, nothing has turned. -/
theorem Apart.under {p B : Nat} {w w' : World} (h : Apart p w w') (hB : B ≤ p) (hw : B ≤ w.heap.size) : Below B w w' := by
  have h1 := h #[]
  refine ⟨h1.os, h1.tape, h1.output, h.size, fun k hk => ?_⟩
  have := h1.block k (by omega)
  rwa [setRow_other _ _ _ _ (by omega), setRow_other _ _ _ _ (by omega)] at this

/-- What stays while a region is gone through: a row; the rest above. -/
def RowC (w : World) (p : Nat) (t : TypeId) (cs : Array Value) (w' : World) : Prop := Below w.heap.size w w' ∧ RowAt w' p t cs
theorem RowC.after {w w1 w2 : World} {p : Nat} {t : TypeId} {cs : Array Value} (hb : Below w1.heap.size w1 w2) (h : RowC w p t cs w1) : RowC w p t cs w2 := ⟨h.1.trans (hb.mono h.1.size), h.2.below hb h.2.lt⟩

end Go.Proofs.YtacekpjkgkkekaaGreatDoor
/-
  Contract: makeRounds.
-/
namespace Go.Proofs.YtacekpjkgkkekaaGreatDoor
open Go.RowKit

theorem wrap_small (n : Int) (h0 : 0 ≤ n) (h1 : n < 1000) : IntKind.i64.wrap n = n := by
  simp [IntKind.wrap, IntKind.bits, IntKind.signed]
  omega

theorem lay_below {x f : Nat → Nat} {i j : Nat} (h : j < 16 * i) : layK x f i j = x j := if_neg (by omega)
theorem lay_at {x f : Nat → Nat} {i j : Nat} (h : j < 16) : layK x f i (16 * i + j) = f j := by
  unfold layK
  rw [if_pos (by omega)]
  congr 1
  omega

set_option maxHeartbeats 2000000 in
set_option maxRecDepth 8000 in
theorem makeRounds_any (p : Nat) (key : Nat → Nat) (hk : Hid (Byt key)) (m : Int) (w : World) (x0 : Nat → Nat) (h0 : Hid (RowAt w p 109 (rowOf 179 (cipV 0 m x0)))) (hx0 : Hid (∀ j, j < 16 → x0 j = key j)) :
    Calls Tryz.prog 62 #[.pointer (some ⟨p, 0, none⟩)] w fun e w' => e = .returned (.tuple #[]) ∧ RowAt w' p 109 (rowOf 179 (cipV 0 m (ringN key))) ∧ Apart p w w' := by
  go_enter Tryz.func62, Tryz.ntmps62
  go_wp2
  go_loopw [2, 3] (fun b c wr => ∃ (k i a : Nat) (x : Nat → Nat), i = k + 1 ∧ k ≤ 10 ∧ c = .int .i64 i ∧ b = .int .u8 a ∧ a < 256 ∧ Hid (a = xtsN 1 k) ∧ Hid (RowAt wr p 109 (rowOf 179 (cipV 0 m x))) ∧ Hid (∀ j, j < 16 * i → x j = ringN key j) ∧ Apart p w wr)
    (fun _ c _ => 11 - (intOf c).toNat)
  case atStart =>
    refine ⟨0, 1, 1, x0, rfl, by omega, rfl, rfl, by omega, rfl, h0, ?_, .refl _ _⟩
    intro j hj
    rw [hx0.out j (by omega)]
    have := ring_at key 0 j (by omega)
    rw [Nat.mul_zero, Nat.zero_add] at this
    rw [this]
    rfl
  case round =>
    clear h0 hx0
    obtain ⟨k, i, a, x, hi, hk10, rfl, rfl, ha, hax, hr, hx, hap⟩ := hrel
    by_cases hlt : k < 10
    · have ei : (i : Int) - 1 = (k : Int) := by omega
      have i10 : i ≤ 10 := by omega
      have lk : (k : Int) < 11 := by omega
      have li : (i : Int) < 11 := by omega
      have wk : IntKind.i64.wrap (k : Int) = (k : Int) := wrap_small _ (by omega) (by omega)
      have d0 : decide ((i : Int) ≤ 10) = true := decide_eq_true (by omega)
      have H1 : Hid (∀ j, j < 16 → x (16 * k + j) = rkN key k j) := fun j hj => by rw [hx.out _ (by omega), ring_at _ _ _ hj]
      have B1 := Lib.hid (rk_byt hk.out k)
      have N1 : Hid (∀ w', Calls Tryz.prog 76 #[.agg (rowOf 16 (w8 (rkN key k))), .int .u8 (a : Int)] w' fun e w'' => e = .returned (.agg (rowOf 16 (w8 (rkN key i)))) ∧ Below w'.heap.size w' w'') := by
        intro w'
        have := next_any (rkN key k) a B1 ha w'
        rw [hi]
        show Calls _ _ _ _ fun e w'' => e = .returned (.agg (rowOf 16 (w8 (rkNext (rkN key k) (xtsN 1 k))))) ∧ _
        rw [← hax.out]
        exact this
      have HI := Lib.hid hi
      have HC : RowC wr.drew p 109 (rowOf 179 (cipV 0 m x)) wr.drew := ⟨Below.refl _ _, hr.out⟩
      have X1 := Lib.hid (timesX_any a ha)
      have l1 := xt_lt ha
      have A1 : Hid (xtN a = xtsN 1 i) := by unfold Hid; rw [hax.out, hi]; rfl
      replace hap := hap.drew
      clear hi
      go_wp2
      refine wp_region_rely_tail 14 (RowC wr.drew p 109 (rowOf 179 (cipV 0 m x))) [eqv (.pointer (some ⟨p, 0, none⟩)), eqv (.int .i64 (i : Int)), eqv (.pointer (some ⟨p, 0, none⟩)), eqv (.int .i64 (i : Int)), eqv (.int .i64 (k : Int)), eqv (.pointer (some ⟨p, 0, none⟩)), eqv (.pointer (some ⟨p, 3, none⟩)), eqv (.pointer (some ⟨p, 3 + k * 16, none⟩)), eqv (.agg (rowOf 16 (w8 (rkN key k)))), eqv (.int .u8 (a : Int)), eqv (.agg (rowOf 16 (w8 (rkN key i)))), eqv (.pointer (some ⟨p, 0, none⟩)), eqv (.pointer (some ⟨p, 3, none⟩)), eqv (.pointer (some ⟨p, 3 + i * 16, none⟩))] (by kernel_rfl) (by kernel_rfl) HC
        (.cons (steady_eqv _) (.cons (steady_eqv _) (.cons (steady_eqv _) (.cons (steady_eqv _) (.cons (steady_eqv _) (.cons (steady_eqv _) (.cons (steady_eqv _) (.cons (steady_eqv _) (.cons (steady_eqv _) (.cons (steady_eqv _) (.cons (steady_eqv _) (.cons (steady_eqv _) (.cons (steady_eqv _) (.cons (steady_eqv _) .nil)))))))))))))) ?_
      intro R hR
      simp only [List.take_succ_cons, List.take_zero, List.drop_succ_cons, List.drop_zero]
      refine wpRely_cons (fun w' hC hf => ?_) (fun v0 => ?_)
      · (repeat (first | (obtain ⟨rfl, hf⟩ := hf) | (obtain ⟨⟨q, rfl, hq⟩, hf⟩ := hf) | (obtain ⟨_, hf⟩ := hf)))
        exact grows_eqv (by rfl) hC (by go_simp)
      simp only [Act.put, List.setIfInBounds_toArray, List.set_cons_succ, List.set_cons_zero, List.nil_append]
      refine wpRely_cons (fun w' hC hf => ?_) (fun v1 => ?_)
      · (repeat (first | (obtain ⟨rfl, hf⟩ := hf) | (obtain ⟨⟨q, rfl, hq⟩, hf⟩ := hf) | (obtain ⟨_, hf⟩ := hf)))
        exact grows_eqv (by rfl) hC (by go_simp)
      simp only [Act.put, List.setIfInBounds_toArray, List.set_cons_succ, List.set_cons_zero, List.nil_append, List.cons_append]
      refine wpRely_cons (fun w' hC hf => ?_) (fun v2 => ?_)
      · (repeat (first | (obtain ⟨rfl, hf⟩ := hf) | (obtain ⟨⟨q, rfl, hq⟩, hf⟩ := hf) | (obtain ⟨_, hf⟩ := hf)))
        exact grows_eqv (by rfl) hC (by go_simp)
      simp only [Act.put, List.setIfInBounds_toArray, List.set_cons_succ, List.set_cons_zero, List.nil_append, List.cons_append]
      refine wpRely_cons (fun w' hC hf => ?_) (fun v3 => ?_)
      · (repeat (first | (obtain ⟨rfl, hf⟩ := hf) | (obtain ⟨⟨q, rfl, hq⟩, hf⟩ := hf) | (obtain ⟨_, hf⟩ := hf)))
        exact grows_eqv (by rfl) hC (by go_simp)
      simp only [Act.put, List.setIfInBounds_toArray, List.set_cons_succ, List.set_cons_zero, List.nil_append, List.cons_append]
      refine wpRely_cons (fun w' hC hf => ?_) (fun v4 => ?_)
      · (repeat (first | (obtain ⟨rfl, hf⟩ := hf) | (obtain ⟨⟨q, rfl, hq⟩, hf⟩ := hf) | (obtain ⟨_, hf⟩ := hf)))
        exact grows_eqv (by rfl) hC (by go_simp)
      simp only [Act.put, List.setIfInBounds_toArray, List.set_cons_succ, List.set_cons_zero, List.nil_append, List.cons_append]
      refine wpRely_cons (fun w' hC hf => ?_) (fun v5 => ?_)
      · (repeat (first | (obtain ⟨rfl, hf⟩ := hf) | (obtain ⟨⟨q, rfl, hq⟩, hf⟩ := hf) | (obtain ⟨_, hf⟩ := hf)))
        exact grows_eqv (by rfl) hC (by go_simp)
      simp only [Act.put, List.setIfInBounds_toArray, List.set_cons_succ, List.set_cons_zero, List.nil_append, List.cons_append]
      refine wpRely_cons (fun w' hC hf => ?_) (fun v6 => ?_)
      · (repeat (first | (obtain ⟨rfl, hf⟩ := hf) | (obtain ⟨⟨q, rfl, hq⟩, hf⟩ := hf) | (obtain ⟨_, hf⟩ := hf)))
        exact grows_eqv (by rfl) hC (by go_simp)
      simp only [Act.put, List.setIfInBounds_toArray, List.set_cons_succ, List.set_cons_zero, List.nil_append, List.cons_append]
      refine wpRely_cons (fun w' hC hf => ?_) (fun v7 => ?_)
      · (repeat (first | (obtain ⟨rfl, hf⟩ := hf) | (obtain ⟨⟨q, rfl, hq⟩, hf⟩ := hf) | (obtain ⟨_, hf⟩ := hf)))
        exact grows_eqv (by rfl) hC (by go_simp)
      simp only [Act.put, List.setIfInBounds_toArray, List.set_cons_succ, List.set_cons_zero, List.nil_append, List.cons_append]
      refine wpRely_cons (fun w' hC hf => ?_) (fun v8 => ?_)
      · (repeat (first | (obtain ⟨rfl, hf⟩ := hf) | (obtain ⟨⟨q, rfl, hq⟩, hf⟩ := hf) | (obtain ⟨_, hf⟩ := hf)))
        exact grows_load_at (by rfl) hC rfl rfl hC.2 (cip_get 0 m x (rkN key k) k (by omega) H1.out) Tryz.underlying23 rfl (by kernel_rfl)
      simp only [Act.put, List.setIfInBounds_toArray, List.set_cons_succ, List.set_cons_zero, List.nil_append, List.cons_append]
      refine wpRely_cons (fun w' hC hf => ?_) (fun v9 => ?_)
      · (repeat (first | (obtain ⟨rfl, hf⟩ := hf) | (obtain ⟨⟨q, rfl, hq⟩, hf⟩ := hf) | (obtain ⟨_, hf⟩ := hf)))
        exact grows_eqv (by rfl) hC (by go_simp)
      simp only [Act.put, List.setIfInBounds_toArray, List.set_cons_succ, List.set_cons_zero, List.nil_append, List.cons_append]
      refine wpRely_cons (fun w' hC hf => ?_) (fun v10 => ?_)
      · (repeat (first | (obtain ⟨rfl, hf⟩ := hf) | (obtain ⟨⟨q, rfl, hq⟩, hf⟩ := hf) | (obtain ⟨_, hf⟩ := hf)))
        exact grows_calls hR (fun _ _ hb h => h.after hb) hC (by rfl) (by go_simp) (N1.out w')
      simp only [Act.put, List.setIfInBounds_toArray, List.set_cons_succ, List.set_cons_zero, List.nil_append, List.cons_append]
      refine wpRely_cons (fun w' hC hf => ?_) (fun v11 => ?_)
      · (repeat (first | (obtain ⟨rfl, hf⟩ := hf) | (obtain ⟨⟨q, rfl, hq⟩, hf⟩ := hf) | (obtain ⟨_, hf⟩ := hf)))
        exact grows_eqv (by rfl) hC (by go_simp)
      simp only [Act.put, List.setIfInBounds_toArray, List.set_cons_succ, List.set_cons_zero, List.nil_append, List.cons_append]
      refine wpRely_cons (fun w' hC hf => ?_) (fun v12 => ?_)
      · (repeat (first | (obtain ⟨rfl, hf⟩ := hf) | (obtain ⟨⟨q, rfl, hq⟩, hf⟩ := hf) | (obtain ⟨_, hf⟩ := hf)))
        exact grows_eqv (by rfl) hC (by go_simp)
      simp only [Act.put, List.setIfInBounds_toArray, List.set_cons_succ, List.set_cons_zero, List.nil_append, List.cons_append]
      refine wpRely_cons (fun w' hC hf => ?_) (fun v13 => ?_)
      · (repeat (first | (obtain ⟨rfl, hf⟩ := hf) | (obtain ⟨⟨q, rfl, hq⟩, hf⟩ := hf) | (obtain ⟨_, hf⟩ := hf)))
        exact grows_eqv (by rfl) hC (by go_simp)
      simp only [Act.put, List.setIfInBounds_toArray, List.set_cons_succ, List.set_cons_zero, List.nil_append, List.cons_append]
      refine wpRely_nil fun w9 hC hf => ?_
      obtain ⟨_, _, _, _, _, _, _, _, _, _, rfl, _, _, rfl, _⟩ := hf
      obtain ⟨hb9, hr9⟩ := hC
      have e9 := Lib.hid (cip_lay 0 m x (rkN key i) i)
      refine wpList_store_at rfl 23 _ _ rfl p (3 + i * 16) 179 16 (cipV 0 m x) (w8 (rkN key i)) rfl rfl 109 hr9 (by kernel_rfl) (rowOf_cells8 _ _) (by omega) ?_
      rw [e9.out]
      replace hap := (hap.below hb9).setRow (rowOf 179 (cipV 0 m (layK x (rkN key i) i)))
      replace hr9 := Lib.hid (hr9.setRow (rowOf 179 (cipV 0 m (layK x (rkN key i) i))))
      clear hb9 HC N1 H1 e9
      generalize World.setRow _ _ _ = w3 at *
      go_wp2_with fail
      refine (X1.out w3).mono ?_
      rintro e w4 ⟨rfl, rfl⟩
      clear X1
      go_wp2
      go_roundw
      case rel =>
        refine ⟨i, i + 1, xtN a, _, rfl, i10, by go_num, rfl, l1, A1, hr9, ?_, hap⟩
        intro j hj
        by_cases hji : j < 16 * i
        · rw [lay_below hji, hx.out j hji]
        · obtain ⟨t, rfl⟩ : ∃ t, j = 16 * i + t := ⟨j - 16 * i, by omega⟩
          rw [lay_at (by omega), ring_at _ _ _ (by omega)]
      case measure => simp [intOf]; omega
    · have : k = 10 := by omega
      subst this
      have : i = 11 := by omega
      subst this
      go_wp2
      go_end0
      exact ⟨rfl, hr.out.congr (cip_congr fun j hj => hx.out j (by omega)), hap⟩

end Go.Proofs.YtacekpjkgkkekaaGreatDoor
/-
  Contracts: what is done once (sync.Once), over a cipher's block.
-/
namespace Go.Proofs.YtacekpjkgkkekaaGreatDoor
open Go.RowKit

theorem race_off (w : World) : (callFunc 89 #[]).run Tryz.prog w = .ok (.value (.tuple #[])) w := run_call_mark0 Tryz.func89 (by kernel_rfl) (by kernel_rfl) (by kernel_rfl) .disable (by kernel_rfl) w
theorem race_on (w : World) : (callFunc 91 #[]).run Tryz.prog w = .ok (.value (.tuple #[])) w := run_call_mark0 Tryz.func91 (by kernel_rfl) (by kernel_rfl) (by kernel_rfl) .enable (by kernel_rfl) w
theorem race_acq (a : Addr) (w : World) : (callFunc 92 #[.pointer (some a)]).run Tryz.prog w = .ok (.value (.tuple #[])) w := run_call_marked Tryz.func92 (by kernel_rfl) (by kernel_rfl) (by kernel_rfl) .acquire (by kernel_rfl) a w
theorem race_rel (a : Addr) (w : World) : (callFunc 94 #[.pointer (some a)]).run Tryz.prog w = .ok (.value (.tuple #[])) w := run_call_marked Tryz.func94 (by kernel_rfl) (by kernel_rfl) (by kernel_rfl) .releaseMerge (by kernel_rfl) a w

set_option maxRecDepth 8000 in
/-- Store(true), as a deferred call. -/
theorem done_late (a : Addr) (x : Value) (u : FrameMode) (w : World) (hc : w.cell? a = some x) (hz : w.frozen? a = false) :
    CallsD Tryz.prog 84 #[.pointer (some a), .bool true] u w fun e u' w' => u' = u ∧ (e = .returned (.tuple #[]) ∧ w' = w.drew.setCell a (.int .u32 1)) := by
  have hc' : w.drew.cell? a = some x := by go_simp
  have hz' : w.drew.frozen? a = false := by go_simp
  have hst := run_call_store (P := Tryz.prog) Tryz.func87 (by kernel_rfl) (by kernel_rfl) (by kernel_rfl) (by kernel_rfl) (k := .u32) (y := 1) hc' hz'
  go_enter_d Tryz.func84, Tryz.ntmps84
  go_wp2
  go_region_calls
  all_goals (go_end0; exact ⟨rfl, rfl⟩)

set_option maxRecDepth 8000 in
/-- Unlock, as a deferred call; nobody waits. -/
theorem unlock_late (a : Addr) (u : FrameMode) (w : World) (hc : w.cell? a = some (.int .i32 1)) (hz : w.frozen? a = false) :
    CallsD Tryz.prog 83 #[.pointer (some a)] u w fun e u' w' => u' = u ∧ (e = .returned (.tuple #[]) ∧ w' = w.setCell a (.int .i32 0)) := by
  have hd := race_off
  have he := race_on
  have hr := race_rel
  have hadd := run_call_add (P := Tryz.prog) Tryz.func95 (by kernel_rfl) (by kernel_rfl) (by kernel_rfl) .i32 (by kernel_rfl) (y := -1) (s := 0) hc hz (by simp [go_sem]; rfl)
  have hcv := run_convert_to_unsafe (P := Tryz.prog) (src := 130) (dst := 134) Tryz.underlying130 Tryz.underlying134 (by kernel_rfl) hc
  go_enter_d Tryz.func83, Tryz.ntmps83
  go_wp2
  go_end0
  go_wp2
  go_end0
  exact ⟨rfl, rfl⟩

set_option maxRecDepth 8000 in
/-- Lock; the lock is free. -/
theorem lock_first (a : Addr) (w : World) (hc : w.cell? a = some (.int .i32 0)) (hz : w.frozen? a = false) :
    Calls Tryz.prog 82 #[.pointer (some a)] w fun e w' => e = .returned (.tuple #[]) ∧ w' = w.setCell a (.int .i32 1) := by
  have hd := race_off
  have he := race_on
  have ha := race_acq
  have hcas := run_call_cas_hit (P := Tryz.prog) Tryz.func90 (by kernel_rfl) (by kernel_rfl) (by kernel_rfl) .i32 (by kernel_rfl) (y := 1) hc hz
  have hc' : (w.setCell a (.int .i32 1)).cell? a = some (.int .i32 1) := World.cell?_setCell_same w a _ hc
  have hcv := run_convert_to_unsafe (P := Tryz.prog) (src := 130) (dst := 134) Tryz.underlying130 Tryz.underlying134 (by kernel_rfl) hc'
  go_enter Tryz.func82, Tryz.ntmps82
  go_wp2
  first | go_end0 | (simp only [Exit.inBlock, Exit.then]; refine bodyPost_ret (results_none rfl _ _ _) rfl ?_) | refine bodyPost_ret (results_none rfl _ _ _) rfl ?_
  go_wp2
  go_end0
  exact ⟨rfl, rfl⟩

set_option maxRecDepth 8000 in
/-- Load. -/
theorem done_no (a : Addr) (w : World) (hc : w.cell? a = some (.int .u32 0)) :
    Calls Tryz.prog 74 #[.pointer (some a)] w fun e w' => e = .returned (.bool false) ∧ w' = w := by
  have hl := run_call_load (P := Tryz.prog) Tryz.func81 (by kernel_rfl) (by kernel_rfl) (by kernel_rfl) .u32 (by kernel_rfl) hc
  go_enter Tryz.func74, Tryz.ntmps74
  go_wp2
  go_ret
  exact ⟨rfl, rfl⟩
set_option maxRecDepth 8000 in
theorem done_yes (a : Addr) (w : World) (hc : w.cell? a = some (.int .u32 1)) :
    Calls Tryz.prog 74 #[.pointer (some a)] w fun e w' => e = .returned (.bool true) ∧ w' = w := by
  have hl := run_call_load (P := Tryz.prog) Tryz.func81 (by kernel_rfl) (by kernel_rfl) (by kernel_rfl) .u32 (by kernel_rfl) hc
  go_enter Tryz.func74, Tryz.ntmps74
  go_wp2
  go_ret
  exact ⟨rfl, rfl⟩

set_option maxRecDepth 100000 in
set_option maxHeartbeats 1600000 in
theorem slow_first (p : Nat) (key : Nat → Nat) (hk : Hid (Byt key)) (w : World) (x0 : Nat → Nat) (h0 : Hid (RowAt w p 109 (rowOf 179 (cipV 0 0 x0)))) (hx0 : Hid (∀ j, j < 16 → x0 j = key j)) :
    Calls Tryz.prog 75 #[.pointer (some ⟨p, 0, none⟩), .func (.func 62) #[.pointer (some ⟨p, 0, none⟩)] #[]] w fun e w' => e = .returned (.tuple #[]) ∧
      RowAt w' p 109 (rowOf 179 (cipV 1 0 (ringN key))) ∧ Apart p w w' := by
  have c1 : w.cell? ⟨p, 1, none⟩ = some (.int .i32 0) := h0.out.cell 1 (by decide)
  have f1 := h0.out.free 1
  have L1 := Lib.hid (lock_first ⟨p, 1, none⟩ w c1 f1)
  have r1 : Hid (RowAt (w.setCell ⟨p, 1, none⟩ (.int .i32 1)) p 109 (rowOf 179 (cipV 0 1 x0))) := (h0.out.set 1 _).congr (cip_set1 0 0 1 x0)
  have ap : Apart p w (w.setCell ⟨p, 1, none⟩ (.int .i32 1)) := (Apart.refl p w).setCell h0.out _
  have hnot : ∀ (x : Bool) (w : World), (Op.unary .not (.bool x)).run Tryz.prog w = .ok (.bool (!x)) w := fun _ _ => rfl
  clear c1 f1
  go_enter_defers Tryz.func75, Tryz.ntmps75
  go_wp2_with fail
  refine L1.out.mono ?_
  rintro e w1 ⟨rfl, rfl⟩
  clear L1
  generalize w.setCell ⟨p, 1, none⟩ (.int .i32 1) = w1 at *
  have c0 : w1.cell? ⟨p, 0, none⟩ = some (.int .u32 0) := r1.out.cell 0 (by decide)
  have D0 := Lib.hid (done_no ⟨p, 0, none⟩ w1 c0)
  have M0 := Lib.hid (makeRounds_any p key hk 1 w1 x0 r1 hx0)
  clear c0
  go_wp2_with fail
  refine D0.out.mono ?_
  rintro e w2 ⟨rfl, rfl⟩
  clear D0
  go_wp2_with fail
  refine M0.out.mono ?_
  rintro e w3 ⟨rfl, hr, ha⟩
  clear M0
  replace ap := ap.trans ha
  replace hr := Lib.hid hr
  clear ha r1
  go_wp2
  refine leaves_cons (f := 84) (args := #[.pointer (some ⟨p, 0, none⟩), .bool true]) (by simp) (by simp [go_sem]) ?_
  refine (done_late ⟨p, 0, none⟩ (.int .u32 0) .returning _ (hr.out.cell 0 (by decide)) (hr.out.free 0)).mono ?_
  rintro e u' w4 ⟨rfl, rfl, rfl⟩
  have hr4 : RowAt (w3.drew.setCell ⟨p, 0, none⟩ (.int .u32 1)) p 109 (rowOf 179 (cipV 1 1 (ringN key))) := (hr.out.drew.set 0 _).congr (cip_set0 0 1 1 (ringN key))
  have ap4 : Apart p w (w3.drew.setCell ⟨p, 0, none⟩ (.int .u32 1)) := ap.drew.setCell hr.out.drew _
  generalize w3.drew.setCell ⟨p, 0, none⟩ (.int .u32 1) = w4 at *
  refine leaves_cons (f := 83) (args := #[.pointer (some ⟨p, 1, none⟩)]) (by simp [settle]) (by simp [go_sem]) ?_
  refine (unlock_late ⟨p, 1, none⟩ _ _ (hr4.cell 1 (by decide)) (hr4.free 1)).mono ?_
  rintro e u' w5 ⟨rfl, rfl, rfl⟩
  have hr5 : RowAt (w4.setCell ⟨p, 1, none⟩ (.int .i32 0)) p 109 (rowOf 179 (cipV 1 0 (ringN key))) := (hr4.set 1 _).congr (cip_set1 1 1 0 (ringN key))
  have ap5 : Apart p w (w4.setCell ⟨p, 1, none⟩ (.int .i32 0)) := ap4.setCell hr4 _
  generalize w4.setCell ⟨p, 1, none⟩ (.int .i32 0) = w5 at *
  simp [Leaves, settle, results, Tryz.results75]
  exact ⟨hr5, ap5⟩

set_option maxRecDepth 100000 in
set_option maxHeartbeats 1600000 in
theorem do_first (p : Nat) (key : Nat → Nat) (hk : Hid (Byt key)) (w : World) (x0 : Nat → Nat) (h0 : Hid (RowAt w p 109 (rowOf 179 (cipV 0 0 x0)))) (hx0 : Hid (∀ j, j < 16 → x0 j = key j)) :
    Calls Tryz.prog 61 #[.pointer (some ⟨p, 0, none⟩), .func (.func 62) #[.pointer (some ⟨p, 0, none⟩)] #[]] w fun e w' => e = .returned (.tuple #[]) ∧
      RowAt w' p 109 (rowOf 179 (cipV 1 0 (ringN key))) ∧ Apart p w w' := by
  have D0 := Lib.hid (done_no ⟨p, 0, none⟩ w (h0.out.cell 0 (by decide)))
  have S0 := Lib.hid (slow_first p key hk w x0 h0 hx0)
  have hnot : ∀ (x : Bool) (w : World), (Op.unary .not (.bool x)).run Tryz.prog w = .ok (.bool (!x)) w := fun _ _ => rfl
  go_enter Tryz.func61, Tryz.ntmps61
  go_wp2_with fail
  refine D0.out.mono ?_
  rintro e w1 ⟨rfl, rfl⟩
  go_wp2_with fail
  refine S0.out.mono ?_
  rintro e w1 ⟨rfl, hr, ha⟩
  clear D0 S0
  replace hr := Lib.hid hr
  go_wp2
  go_end0
  exact ⟨rfl, hr.out, ha⟩

set_option maxRecDepth 8000 in
theorem do_again (p : Nat) (key : Nat → Nat) (fv : Value) (w : World) (h : Made w p key) :
    Calls Tryz.prog 61 #[.pointer (some ⟨p, 0, none⟩), fv] w fun e w' => e = .returned (.tuple #[]) ∧ w' = w := by
  have D0 := Lib.hid (done_yes ⟨p, 0, none⟩ w (RowAt.cell h 0 (by decide)))
  have hnot : ∀ (x : Bool) (w : World), (Op.unary .not (.bool x)).run Tryz.prog w = .ok (.bool (!x)) w := fun _ _ => rfl
  replace h := Lib.hid h
  go_enter Tryz.func61, Tryz.ntmps61
  go_wp2_with fail
  refine D0.out.mono ?_
  rintro e w1 ⟨rfl, rfl⟩
  go_wp2
  go_end0
  exact ⟨rfl, rfl⟩

/-- However often: the round keys are there; but for the cipher's block nothing that was there has turned. -/
theorem do_any (p : Nat) (key : Nat → Nat) (hk : Byt key) (w : World) (h : Cip w p key) :
    Calls Tryz.prog 61 #[.pointer (some ⟨p, 0, none⟩), .func (.func 62) #[.pointer (some ⟨p, 0, none⟩)] #[]] w fun e w' => e = .returned (.tuple #[]) ∧ Made w' p key ∧ Apart p w w' := by
  rcases h with ⟨x0, h0, hx0⟩ | h
  · exact do_first p key hk w x0 h0 hx0
  · exact (do_again p key _ w h).mono fun e w' ⟨he, hw⟩ => by subst hw; exact ⟨he, h, .refl _ _⟩

end Go.Proofs.YtacekpjkgkkekaaGreatDoor
/-
  What stays while a block is locked, or opened: the cipher, the block, the room for the answer.
-/
namespace Go.Proofs.YtacekpjkgkkekaaGreatDoor
open Go.RowKit

theorem Apart.setAbove {p q : Nat} {w w' : World} (h : Apart p w w') (hq : w.heap.size ≤ q) (ds : Array Value) : Apart p w (w'.setRow q ds) := fun cs => by
  refine (h cs).trans ⟨rfl, rfl, rfl, by simp, fun k hk => ?_⟩
  have hne : q ≠ k := by omega
  simp only [World.setRow, Array.getElem?_modify, if_neg hne]
theorem Apart.setCellAbove {p : Nat} {a : Addr} {w w' : World} (h : Apart p w w') (hq : w.heap.size ≤ a.block) (v : Value) : Apart p w (w'.setCell a v) := fun cs => by
  refine (h cs).trans ⟨rfl, rfl, rfl, by simp [World.setCell, World.setRow], fun k hk => ?_⟩
  have hne : a.block ≠ k := by omega
  simp only [World.setRow, World.setCell, Array.getElem?_modify, if_neg hne]

/-- The cipher of key at p, the block s at q, room for a block at r; but for them all is as in w. -/
structure LkI (w : World) (p q r : Nat) (key s : Nat → Nat) (w' : World) : Prop where
  made : Made w' p key
  blk : RowAt w' q 23 (rowOf 16 (w8 s))
  room : RowAt w' r 23 (rowOf 16 (w8 zeroN))
  rest : Apart p w w'
  hp : p < w.heap.size
  hq : w.heap.size ≤ q
  hr : w.heap.size ≤ r
  hqr : q ≠ r

section
variable {w w1 w2 : World} {p q r : Nat} {key s : Nat → Nat}
theorem LkI.after (hb : Below w1.heap.size w1 w2) (h : LkI w p q r key s w1) : LkI w p q r key s w2 :=
  ⟨h.made.below hb (RowAt.lt h.made), h.blk.below hb h.blk.lt, h.room.below hb h.room.lt, h.rest.below hb, h.hp, h.hq, h.hr, h.hqr⟩
theorem LkI.drew (h : LkI w p q r key s w1) : LkI w p q r key s w1.drew := h.after (Below.refl _ _).drew
theorem LkI.store (h : LkI w p q r key s w1) (t : Nat → Nat) : LkI w p q r key t (w1.setRow q (rowOf 16 (w8 t))) :=
  ⟨RowAt.setRowOther h.made q _ (by have := h.hp; have := h.hq; omega), h.blk.setRow _, h.room.setRowOther q _ h.hqr.symm, h.rest.setAbove h.hq _, h.hp, h.hq, h.hr, h.hqr⟩
theorem LkI.cell {j : Nat} {f g : Nat → Nat} (h : LkI w p q r key (part f g j) w1) : LkI w p q r key (part f g (j + 1)) (w1.setCell ⟨q, j, none⟩ (.int .u8 ((f j : Nat) : Int))) :=
  ⟨RowAt.setOther h.made _ _ (by have := h.hp; have := h.hq; show p ≠ q; omega), (h.blk.set j _).congr (u8_row 16 f g j), h.room.setOther _ _ (by show r ≠ q; exact h.hqr.symm), h.rest.setCellAbove h.hq _, h.hp, h.hq, h.hr, h.hqr⟩
theorem LkI.congr {t : Nat → Nat} (h : LkI w p q r key s w1) (e : ∀ j, j < 16 → s j = t j) : LkI w p q r key t w1 :=
  ⟨h.made, h.blk.congr (rowOf_congr fun j hj => by unfold w8; rw [e j hj]), h.room, h.rest, h.hp, h.hq, h.hr, h.hqr⟩
theorem LkI.round (_h : LkI w p q r key s w1) (i : Nat) (hi : i < 11) : ∀ j, j < 16 → (rowOf 179 (cipV 1 0 (ringN key)))[3 + i * 16 + j]? = some (w8 (rkN key i) j) :=
  cip_get 1 0 (ringN key) (rkN key i) i hi fun j hj => ring_at key i j hj
theorem LkI.endMade (h : LkI w p q r key s w1) (cs : Array Value) : Made (w1.setRow r cs) p key := RowAt.setRowOther h.made r _ (by have := h.hp; have := h.hr; omega)
theorem LkI.endApart (h : LkI w p q r key s w1) (cs : Array Value) : Apart p w (w1.setRow r cs) := h.rest.setAbove h.hr _
end

theorem wLock_byt : Byt wLock := fun j => by unfold wLock; split <;> decide
theorem wOpen_byt : Byt wOpen := fun j => by unfold wOpen; split <;> decide

theorem Apart.same {p : Nat} {w w' : World} {key : Nat → Nat} (h : Apart p w w') (h1 : Made w p key) (h2 : Made w' p key) : Below w.heap.size w w' := by
  have := h.done h2
  rwa [setRow_self w p _ _ (0, 0) h1] at this

/-- What is there behind Do. -/
theorem lk_start (p : Nat) (key s : Nat → Nat) (w w2 : World) (h : Cip w p key) (hm : Made w2 p key) (ha : Apart p ((w.alloc (.cells (rowOf 16 (w8 s)) 23)).alloc (.cells (rowOf 16 (w8 zeroN)) 23)) w2) :
    LkI w p w.heap.size (w.heap.size + 1) key s w2 := by
  have hp := h.lt
  have b0 : Below w.heap.size w ((w.alloc (.cells (rowOf 16 (w8 s)) 23)).alloc (.cells (rowOf 16 (w8 zeroN)) 23)) := ((Below.refl _ _).alloc (Nat.le_refl _) _).alloc (by simp) _
  have r0 : RowAt ((w.alloc (.cells (rowOf 16 (w8 s)) 23)).alloc (.cells (rowOf 16 (w8 zeroN)) 23)) w.heap.size 23 (rowOf 16 (w8 s)) := (RowAt.new _ _ _).alloc _
  have r1 : RowAt ((w.alloc (.cells (rowOf 16 (w8 s)) 23)).alloc (.cells (rowOf 16 (w8 zeroN)) 23)) (w.heap.size + 1) 23 (rowOf 16 (w8 zeroN)) := by
    have := RowAt.new (w.alloc (.cells (rowOf 16 (w8 s)) 23)) 23 (rowOf 16 (w8 zeroN))
    rw [World.size_alloc] at this
    exact this
  exact ⟨hm, ha.row r0 (by omega), ha.row r1 (by omega), (Apart.of_below b0).trans ha, hp, Nat.le_refl _, by omega, by omega⟩

theorem cip_new (p : Nat) (key s : Nat → Nat) (w : World) (h : Cip w p key) : Cip ((w.alloc (.cells (rowOf 16 (w8 s)) 23)).alloc (.cells (rowOf 16 (w8 zeroN)) 23)) p key :=
  h.below (((Below.refl _ _).alloc (Nat.le_refl _) _).alloc (by simp) _) h.lt

end Go.Proofs.YtacekpjkgkkekaaGreatDoor
/-
  Contract: Lock.
-/
namespace Go.Proofs.YtacekpjkgkkekaaGreatDoor
open Go.RowKit

set_option maxHeartbeats 2000000 in
set_option maxRecDepth 8000 in
theorem lock_any (p : Nat) (key b : Nat → Nat) (hk : Hid (Byt key)) (hb : Hid (Byt b)) (w : World) (hc : Hid (Cip w p key)) :
    Calls Tryz.prog 50 #[.pointer (some ⟨p, 0, none⟩), .agg (rowOf 16 (w8 b))] w fun e w' => e = .returned (.agg (rowOf 16 (w8 (lockN key b)))) ∧ Made w' p key ∧ Apart p w w' := by
  have D := Lib.hid (do_any p key hk.out _ (cip_new p key b w hc.out))
  have st := Lib.hid (fun w2 => lk_start p key b w w2 hc.out)
  have K0 := Lib.hid (rk_byt hk.out 0)
  rw [z8_16] at D
  go_enter Tryz.func50, Tryz.ntmps50
  go_wp2_with fail
  refine D.out.mono ?_
  rintro e w2 ⟨rfl, hm, ha⟩
  rw [← z8_16] at ha
  have hI := Lib.hid (st.out w2 hm ha)
  clear D st hm ha hc
  go_wp2
  refine wp_region_rely_tail 7 (LkI w p w.heap.size (w.heap.size + 1) key b) [eqv (.agg (rowOf 16 (w8 b))), eqv (.pointer (some ⟨p, 0, none⟩)), eqv (.pointer (some ⟨p, 0, none⟩)), eqv (.pointer (some ⟨p, 3, none⟩)), eqv (.pointer (some ⟨p, 3, none⟩)), eqv (.agg (rowOf 16 (w8 (rkN key 0)))), eqv (.agg (rowOf 16 (w8 (aAdd b (rkN key 0)))))] (by kernel_rfl) (by kernel_rfl) hI.out.drew
    (.cons (steady_eqv _) (.cons (steady_eqv _) (.cons (steady_eqv _) (.cons (steady_eqv _) (.cons (steady_eqv _) (.cons (steady_eqv _) (.cons (steady_eqv _) .nil))))))) ?_
  intro R hR
  simp only [List.take_succ_cons, List.take_zero, List.drop_succ_cons, List.drop_zero]
  refine wpRely_cons (fun w' hC hf => ?_) (fun v0 => ?_)
  · (repeat (first | (obtain ⟨rfl, hf⟩ := hf) | (obtain ⟨⟨q, rfl, hq⟩, hf⟩ := hf) | (obtain ⟨_, hf⟩ := hf)))
    exact grows_load (by rfl) hC rfl rfl (hC.blk) Tryz.underlying23 rfl (info_key _)
  simp only [Act.put, List.setIfInBounds_toArray, List.set_cons_succ, List.set_cons_zero, List.nil_append]
  refine wpRely_cons (fun w' hC hf => ?_) (fun v1 => ?_)
  · (repeat (first | (obtain ⟨rfl, hf⟩ := hf) | (obtain ⟨⟨q, rfl, hq⟩, hf⟩ := hf) | (obtain ⟨_, hf⟩ := hf)))
    exact grows_eqv (by rfl) hC (by go_simp)
  simp only [Act.put, List.setIfInBounds_toArray, List.set_cons_succ, List.set_cons_zero, List.nil_append, List.cons_append]
  refine wpRely_cons (fun w' hC hf => ?_) (fun v2 => ?_)
  · (repeat (first | (obtain ⟨rfl, hf⟩ := hf) | (obtain ⟨⟨q, rfl, hq⟩, hf⟩ := hf) | (obtain ⟨_, hf⟩ := hf)))
    exact grows_eqv (by rfl) hC (by go_simp)
  simp only [Act.put, List.setIfInBounds_toArray, List.set_cons_succ, List.set_cons_zero, List.nil_append, List.cons_append]
  refine wpRely_cons (fun w' hC hf => ?_) (fun v3 => ?_)
  · (repeat (first | (obtain ⟨rfl, hf⟩ := hf) | (obtain ⟨⟨q, rfl, hq⟩, hf⟩ := hf) | (obtain ⟨_, hf⟩ := hf)))
    exact grows_eqv (by rfl) hC (by go_simp)
  simp only [Act.put, List.setIfInBounds_toArray, List.set_cons_succ, List.set_cons_zero, List.nil_append, List.cons_append]
  refine wpRely_cons (fun w' hC hf => ?_) (fun v4 => ?_)
  · (repeat (first | (obtain ⟨rfl, hf⟩ := hf) | (obtain ⟨⟨q, rfl, hq⟩, hf⟩ := hf) | (obtain ⟨_, hf⟩ := hf)))
    exact grows_eqv (by rfl) hC (by go_simp)
  simp only [Act.put, List.setIfInBounds_toArray, List.set_cons_succ, List.set_cons_zero, List.nil_append, List.cons_append]
  refine wpRely_cons (fun w' hC hf => ?_) (fun v5 => ?_)
  · (repeat (first | (obtain ⟨rfl, hf⟩ := hf) | (obtain ⟨⟨q, rfl, hq⟩, hf⟩ := hf) | (obtain ⟨_, hf⟩ := hf)))
    exact grows_load_at (by rfl) hC rfl rfl hC.made (hC.round 0 (by omega)) Tryz.underlying23 rfl (by kernel_rfl)
  simp only [Act.put, List.setIfInBounds_toArray, List.set_cons_succ, List.set_cons_zero, List.nil_append, List.cons_append]
  refine wpRely_cons (fun w' hC hf => ?_) (fun v6 => ?_)
  · (repeat (first | (obtain ⟨rfl, hf⟩ := hf) | (obtain ⟨⟨q, rfl, hq⟩, hf⟩ := hf) | (obtain ⟨_, hf⟩ := hf)))
    exact grows_calls hR (fun _ _ hb h => h.after hb) hC (by rfl) (by go_simp) (sum_keys b (rkN key 0) hb K0 w')
  simp only [Act.put, List.setIfInBounds_toArray, List.set_cons_succ, List.set_cons_zero, List.nil_append, List.cons_append]
  refine wpRely_nil fun w9 hC hf => ?_
  obtain ⟨_, _, _, _, _, _, rfl, _⟩ := hf
  replace hI := Lib.hid hC
  clear hC
  refine wpList_store_row rfl 23 _ _ rfl w.heap.size (rowOf 16 (w8 (aAdd b (rkN key 0)))) rfl rfl 23 _ hI.out.blk (info_key _) (by rw [rowOf_size, rowOf_size]) (rowOf_cells8 _ _) ?_
  replace hI := Lib.hid (hI.out.store (aAdd b (rkN key 0)))
  generalize World.setRow _ _ _ = w5 at *
  clear K0
  go_wp2
  go_loopw [5] (fun i wr => ∃ k i' : Nat, i' = k + 1 ∧ k ≤ 10 ∧ i = .int .i64 i' ∧ Hid (LkI w p w.heap.size (w.heap.size + 1) key (lockTo key b k) wr))
    (fun i _ => 11 - (intOf i).toNat)
  case atStart => exact ⟨0, 1, rfl, by omega, rfl, hI⟩
  case round =>
    clear hI
    obtain ⟨k, i, hi, hk10, rfl, hI⟩ := hrel
    by_cases hlt : k < 10
    · have BS := Lib.hid (lockTo_byt hk.out hb.out k)
      have BK := Lib.hid (rk_byt hk.out i)
      have L1 : Hid (lockTo key b i = roundS (lockTo key b k) (rkN key i) (decide (i = 10))) := by unfold Hid; rw [hi]; rfl
      generalize lockTo key b k = s at *
      have d0 : decide ((i : Int) ≤ 10) = true := decide_eq_true (by omega)
      have i10 : i ≤ 10 := by omega
      have li : (i : Int) < 11 := by omega
      have hi1 : 1 ≤ i := by omega
      clear hi hk10 hlt
      go_wp2_with (refine wpList_load_row rfl 23 _ rfl w.heap.size rfl 23 _ (0, 0) _ hI.out.blk Tryz.underlying23 rfl (info_key _) ?_)
      go_loopw [26] (fun x wr' => ∃ j : Nat, j ≤ 16 ∧ x = .int .i64 j ∧ Hid (LkI w p w.heap.size (w.heap.size + 1) key (part (aSub s) s j) wr'))
        (fun x _ => 16 - (intOf x).toNat)
      case atStart => exact ⟨0, by omega, rfl, by rw [part_zero]; exact hI⟩
      case round =>
        clear hI
        obtain ⟨j, hj, rfl, hI⟩ := hrel
        by_cases hlj : j < 16
        · have ix : (Instr.index 23 (.agg (rowOf 16 (w8 s))) (.int .i64 (j : Int))).run Tryz.prog wr = .ok (.int .u8 ((s j : Nat) : Int)) wr := run_index_row wr 23 5 16 (w8 s) .i64 j Tryz.underlying23 sz8 plain8 hlj
          have T := Lib.hid (box_any (s j) (BS.out j) wr)
          have c0 := hI.out.blk.cell j hlj
          have f0 := hI.out.blk.free j
          have lj : (j : Int) < 16 := by omega
          go_wp2_with fail
          refine T.out.mono ?_
          rintro e w' ⟨rfl, rfl⟩
          clear T ix
          go_wp2
          go_roundw
          case rel => exact ⟨j + 1, by omega, by go_num, hI.out.cell⟩
          case measure => simp [intOf]; omega
        · have : j = 16 := by omega
          subst this
          replace hI := Lib.hid (hI.out.congr (t := aSub s) fun j hj => part_below _ _ _ _ hj)
          have T := Lib.hid (fun w' => turned_any (aSub s) 1 (by decide) w')
          rw [turn_one] at T
          go_wp2_with (refine wpList_load_row rfl 23 _ rfl w.heap.size rfl 23 _ (0, 0) _ hI.out.blk Tryz.underlying23 rfl (info_key _) ?_)
          refine (T.out _).mono ?_
          rintro e w3 ⟨rfl, hb3⟩
          clear T
          replace hI := Lib.hid (hI.out.after hb3)
          clear hb3
          by_cases h10 : i < 10
          · have d1 : decide ((i : Int) < 10) = true := decide_eq_true (by omega)
            have d2 : decide (i = 10) = false := decide_eq_false (by omega)
            rw [d2] at L1
            have T2 := Lib.hid (fun w' => mixed_keys (aShift (aSub s)) wLock (Lib.hid (aShift_byt (aSub_byt s))) (Lib.hid wLock_byt) w')
            rw [mixM_lock (aShift_byt (aSub_byt s))] at T2
            go_wp2_with (first | (refine wpList_store_row rfl 23 _ _ rfl w.heap.size (rowOf 16 (w8 (aShift (aSub s)))) rfl rfl 23 _ hI.out.blk (info_key _) (by rw [rowOf_size, rowOf_size]) (rowOf_cells8 _ _) ?_) | (refine wpList_load_row rfl 23 _ rfl w.heap.size rfl 23 _ (0, 0) _ (hI.out.store (aShift (aSub s))).blk Tryz.underlying23 rfl (info_key _) ?_) | (refine wpList_buildTo rfl 114 _ rfl _ rfl (rowOf 4 (w8 wLock)) (by kernel_rfl) ?_))
            replace hI := Lib.hid (hI.out.store (aShift (aSub s)))
            generalize World.setRow _ _ _ = w5 at *
            refine (T2.out _).mono ?_
            rintro e w4 ⟨rfl, hb4⟩
            clear T2
            replace hI := Lib.hid (hI.out.after hb4)
            clear hb4
            go_wp2_with (refine wpList_store_row rfl 23 _ _ rfl w.heap.size (rowOf 16 (w8 (aMix (aShift (aSub s))))) rfl rfl 23 _ hI.out.blk (info_key _) (by rw [rowOf_size, rowOf_size]) (rowOf_cells8 _ _) ?_)
            replace hI := Lib.hid (hI.out.store (aMix (aShift (aSub s))))
            generalize World.setRow _ _ _ = w5 at *
            have BT := Lib.hid (aMix_byt (aShift_byt (aSub_byt s)))
            refine wp_region_rely_tail 8 (LkI w p w.heap.size (w.heap.size + 1) key (aMix (aShift (aSub s)))) [eqv (.agg (rowOf 16 (w8 (aMix (aShift (aSub s)))))), eqv (.pointer (some ⟨p, 0, none⟩)), eqv (.int .i64 (i : Int)), eqv (.pointer (some ⟨p, 0, none⟩)), eqv (.pointer (some ⟨p, 3, none⟩)), eqv (.pointer (some ⟨p, 3 + i * 16, none⟩)), eqv (.agg (rowOf 16 (w8 (rkN key i)))), eqv (.agg (rowOf 16 (w8 (aAdd (aMix (aShift (aSub s))) (rkN key i)))))] (by kernel_rfl) (by kernel_rfl) hI.out.drew
              (.cons (steady_eqv _) (.cons (steady_eqv _) (.cons (steady_eqv _) (.cons (steady_eqv _) (.cons (steady_eqv _) (.cons (steady_eqv _) (.cons (steady_eqv _) (.cons (steady_eqv _) .nil)))))))) ?_
            intro R hR
            simp only [List.take_succ_cons, List.take_zero, List.drop_succ_cons, List.drop_zero]
            refine wpRely_cons (fun w' hC hf => ?_) (fun v0 => ?_)
            · (repeat (first | (obtain ⟨rfl, hf⟩ := hf) | (obtain ⟨⟨q, rfl, hq⟩, hf⟩ := hf) | (obtain ⟨_, hf⟩ := hf)))
              exact grows_load (by rfl) hC rfl rfl (hC.blk) Tryz.underlying23 rfl (info_key _)
            simp only [Act.put, List.setIfInBounds_toArray, List.set_cons_succ, List.set_cons_zero, List.nil_append]
            refine wpRely_cons (fun w' hC hf => ?_) (fun v1 => ?_)
            · (repeat (first | (obtain ⟨rfl, hf⟩ := hf) | (obtain ⟨⟨q, rfl, hq⟩, hf⟩ := hf) | (obtain ⟨_, hf⟩ := hf)))
              exact grows_eqv (by rfl) hC (by go_simp)
            simp only [Act.put, List.setIfInBounds_toArray, List.set_cons_succ, List.set_cons_zero, List.nil_append, List.cons_append]
            refine wpRely_cons (fun w' hC hf => ?_) (fun v2 => ?_)
            · (repeat (first | (obtain ⟨rfl, hf⟩ := hf) | (obtain ⟨⟨q, rfl, hq⟩, hf⟩ := hf) | (obtain ⟨_, hf⟩ := hf)))
              exact grows_eqv (by rfl) hC (by go_simp)
            simp only [Act.put, List.setIfInBounds_toArray, List.set_cons_succ, List.set_cons_zero, List.nil_append, List.cons_append]
            refine wpRely_cons (fun w' hC hf => ?_) (fun v3 => ?_)
            · (repeat (first | (obtain ⟨rfl, hf⟩ := hf) | (obtain ⟨⟨q, rfl, hq⟩, hf⟩ := hf) | (obtain ⟨_, hf⟩ := hf)))
              exact grows_eqv (by rfl) hC (by go_simp)
            simp only [Act.put, List.setIfInBounds_toArray, List.set_cons_succ, List.set_cons_zero, List.nil_append, List.cons_append]
            refine wpRely_cons (fun w' hC hf => ?_) (fun v4 => ?_)
            · (repeat (first | (obtain ⟨rfl, hf⟩ := hf) | (obtain ⟨⟨q, rfl, hq⟩, hf⟩ := hf) | (obtain ⟨_, hf⟩ := hf)))
              exact grows_eqv (by rfl) hC (by go_simp)
            simp only [Act.put, List.setIfInBounds_toArray, List.set_cons_succ, List.set_cons_zero, List.nil_append, List.cons_append]
            refine wpRely_cons (fun w' hC hf => ?_) (fun v5 => ?_)
            · (repeat (first | (obtain ⟨rfl, hf⟩ := hf) | (obtain ⟨⟨q, rfl, hq⟩, hf⟩ := hf) | (obtain ⟨_, hf⟩ := hf)))
              exact grows_eqv (by rfl) hC (by go_simp)
            simp only [Act.put, List.setIfInBounds_toArray, List.set_cons_succ, List.set_cons_zero, List.nil_append, List.cons_append]
            refine wpRely_cons (fun w' hC hf => ?_) (fun v6 => ?_)
            · (repeat (first | (obtain ⟨rfl, hf⟩ := hf) | (obtain ⟨⟨q, rfl, hq⟩, hf⟩ := hf) | (obtain ⟨_, hf⟩ := hf)))
              exact grows_load_at (by rfl) hC rfl rfl hC.made (hC.round i (by omega)) Tryz.underlying23 rfl (by kernel_rfl)
            simp only [Act.put, List.setIfInBounds_toArray, List.set_cons_succ, List.set_cons_zero, List.nil_append, List.cons_append]
            refine wpRely_cons (fun w' hC hf => ?_) (fun v7 => ?_)
            · (repeat (first | (obtain ⟨rfl, hf⟩ := hf) | (obtain ⟨⟨q, rfl, hq⟩, hf⟩ := hf) | (obtain ⟨_, hf⟩ := hf)))
              exact grows_calls hR (fun _ _ hb h => h.after hb) hC (by rfl) (by go_simp) (sum_keys (aMix (aShift (aSub s))) (rkN key i) BT BK w')
            simp only [Act.put, List.setIfInBounds_toArray, List.set_cons_succ, List.set_cons_zero, List.nil_append, List.cons_append]
            refine wpRely_nil fun w9 hC hf => ?_
            obtain ⟨_, _, _, _, _, _, _, rfl, _⟩ := hf
            replace hI := Lib.hid hC
            clear hC
            refine wpList_store_row rfl 23 _ _ rfl w.heap.size (rowOf 16 (w8 (aAdd (aMix (aShift (aSub s))) (rkN key i)))) rfl rfl 23 _ hI.out.blk (info_key _) (by rw [rowOf_size, rowOf_size]) (rowOf_cells8 _ _) ?_
            replace hI := Lib.hid (hI.out.store (aAdd (aMix (aShift (aSub s))) (rkN key i)))
            generalize World.setRow _ _ _ = w5 at *
            rw [show aAdd (aMix (aShift (aSub s))) (rkN key i) = lockTo key b i from L1.out.symm] at hI
            clear L1
            go_wp2
            go_roundw
            case rel => exact ⟨i, i + 1, rfl, i10, by go_num, hI⟩
            case measure => simp [intOf]; omega
          · have d1 : decide ((i : Int) < 10) = false := decide_eq_false (by omega)
            have d2 : decide (i = 10) = true := decide_eq_true (by omega)
            rw [d2] at L1
            go_wp2_with (refine wpList_store_row rfl 23 _ _ rfl w.heap.size (rowOf 16 (w8 (aShift (aSub s)))) rfl rfl 23 _ hI.out.blk (info_key _) (by rw [rowOf_size, rowOf_size]) (rowOf_cells8 _ _) ?_)
            replace hI := Lib.hid (hI.out.store (aShift (aSub s)))
            generalize World.setRow _ _ _ = w5 at *
            have BT := Lib.hid (aShift_byt (aSub_byt s))
            refine wp_region_rely_tail 8 (LkI w p w.heap.size (w.heap.size + 1) key (aShift (aSub s))) [eqv (.agg (rowOf 16 (w8 (aShift (aSub s))))), eqv (.pointer (some ⟨p, 0, none⟩)), eqv (.int .i64 (i : Int)), eqv (.pointer (some ⟨p, 0, none⟩)), eqv (.pointer (some ⟨p, 3, none⟩)), eqv (.pointer (some ⟨p, 3 + i * 16, none⟩)), eqv (.agg (rowOf 16 (w8 (rkN key i)))), eqv (.agg (rowOf 16 (w8 (aAdd (aShift (aSub s)) (rkN key i)))))] (by kernel_rfl) (by kernel_rfl) hI.out.drew
              (.cons (steady_eqv _) (.cons (steady_eqv _) (.cons (steady_eqv _) (.cons (steady_eqv _) (.cons (steady_eqv _) (.cons (steady_eqv _) (.cons (steady_eqv _) (.cons (steady_eqv _) .nil)))))))) ?_
            intro R hR
            simp only [List.take_succ_cons, List.take_zero, List.drop_succ_cons, List.drop_zero]
            refine wpRely_cons (fun w' hC hf => ?_) (fun v0 => ?_)
            · (repeat (first | (obtain ⟨rfl, hf⟩ := hf) | (obtain ⟨⟨q, rfl, hq⟩, hf⟩ := hf) | (obtain ⟨_, hf⟩ := hf)))
              exact grows_load (by rfl) hC rfl rfl (hC.blk) Tryz.underlying23 rfl (info_key _)
            simp only [Act.put, List.setIfInBounds_toArray, List.set_cons_succ, List.set_cons_zero, List.nil_append]
            refine wpRely_cons (fun w' hC hf => ?_) (fun v1 => ?_)
            · (repeat (first | (obtain ⟨rfl, hf⟩ := hf) | (obtain ⟨⟨q, rfl, hq⟩, hf⟩ := hf) | (obtain ⟨_, hf⟩ := hf)))
              exact grows_eqv (by rfl) hC (by go_simp)
            simp only [Act.put, List.setIfInBounds_toArray, List.set_cons_succ, List.set_cons_zero, List.nil_append, List.cons_append]
            refine wpRely_cons (fun w' hC hf => ?_) (fun v2 => ?_)
            · (repeat (first | (obtain ⟨rfl, hf⟩ := hf) | (obtain ⟨⟨q, rfl, hq⟩, hf⟩ := hf) | (obtain ⟨_, hf⟩ := hf)))
              exact grows_eqv (by rfl) hC (by go_simp)
            simp only [Act.put, List.setIfInBounds_toArray, List.set_cons_succ, List.set_cons_zero, List.nil_append, List.cons_append]
            refine wpRely_cons (fun w' hC hf => ?_) (fun v3 => ?_)
            · (repeat (first | (obtain ⟨rfl, hf⟩ := hf) | (obtain ⟨⟨q, rfl, hq⟩, hf⟩ := hf) | (obtain ⟨_, hf⟩ := hf)))
              exact grows_eqv (by rfl) hC (by go_simp)
            simp only [Act.put, List.setIfInBounds_toArray, List.set_cons_succ, List.set_cons_zero, List.nil_append, List.cons_append]
            refine wpRely_cons (fun w' hC hf => ?_) (fun v4 => ?_)
            · (repeat (first | (obtain ⟨rfl, hf⟩ := hf) | (obtain ⟨⟨q, rfl, hq⟩, hf⟩ := hf) | (obtain ⟨_, hf⟩ := hf)))
              exact grows_eqv (by rfl) hC (by go_simp)
            simp only [Act.put, List.setIfInBounds_toArray, List.set_cons_succ, List.set_cons_zero, List.nil_append, List.cons_append]
            refine wpRely_cons (fun w' hC hf => ?_) (fun v5 => ?_)
            · (repeat (first | (obtain ⟨rfl, hf⟩ := hf) | (obtain ⟨⟨q, rfl, hq⟩, hf⟩ := hf) | (obtain ⟨_, hf⟩ := hf)))
              exact grows_eqv (by rfl) hC (by go_simp)
            simp only [Act.put, List.setIfInBounds_toArray, List.set_cons_succ, List.set_cons_zero, List.nil_append, List.cons_append]
            refine wpRely_cons (fun w' hC hf => ?_) (fun v6 => ?_)
            · (repeat (first | (obtain ⟨rfl, hf⟩ := hf) | (obtain ⟨⟨q, rfl, hq⟩, hf⟩ := hf) | (obtain ⟨_, hf⟩ := hf)))
              exact grows_load_at (by rfl) hC rfl rfl hC.made (hC.round i (by omega)) Tryz.underlying23 rfl (by kernel_rfl)
            simp only [Act.put, List.setIfInBounds_toArray, List.set_cons_succ, List.set_cons_zero, List.nil_append, List.cons_append]
            refine wpRely_cons (fun w' hC hf => ?_) (fun v7 => ?_)
            · (repeat (first | (obtain ⟨rfl, hf⟩ := hf) | (obtain ⟨⟨q, rfl, hq⟩, hf⟩ := hf) | (obtain ⟨_, hf⟩ := hf)))
              exact grows_calls hR (fun _ _ hb h => h.after hb) hC (by rfl) (by go_simp) (sum_keys (aShift (aSub s)) (rkN key i) BT BK w')
            simp only [Act.put, List.setIfInBounds_toArray, List.set_cons_succ, List.set_cons_zero, List.nil_append, List.cons_append]
            refine wpRely_nil fun w9 hC hf => ?_
            obtain ⟨_, _, _, _, _, _, _, rfl, _⟩ := hf
            replace hI := Lib.hid hC
            clear hC
            refine wpList_store_row rfl 23 _ _ rfl w.heap.size (rowOf 16 (w8 (aAdd (aShift (aSub s)) (rkN key i)))) rfl rfl 23 _ hI.out.blk (info_key _) (by rw [rowOf_size, rowOf_size]) (rowOf_cells8 _ _) ?_
            replace hI := Lib.hid (hI.out.store (aAdd (aShift (aSub s)) (rkN key i)))
            generalize World.setRow _ _ _ = w5 at *
            rw [show aAdd (aShift (aSub s)) (rkN key i) = lockTo key b i from L1.out.symm] at hI
            clear L1
            go_wp2
            go_roundw
            case rel => exact ⟨i, i + 1, rfl, i10, by go_num, hI⟩
            case measure => simp [intOf]; omega
    · have : k = 10 := by omega
      subst this
      have : i = 11 := by omega
      subst this
      replace hI : Hid (LkI w p w.heap.size (w.heap.size + 1) key (lockN key b) wr) := hI
      go_wp2_with (first | (refine wpList_load_row rfl 23 _ rfl w.heap.size rfl 23 _ (0, 0) _ hI.out.blk Tryz.underlying23 rfl (info_key _) ?_) | (refine wpList_store_row rfl 23 _ _ rfl (w.heap.size + 1) (rowOf 16 (w8 (lockN key b))) rfl rfl 23 _ hI.out.room (info_key _) (by rw [rowOf_size, rowOf_size]) (rowOf_cells8 _ _) ?_))
      refine bodyPost_ret (v := .agg (rowOf 16 (w8 (lockN key b)))) ?_ rfl ⟨rfl, hI.out.endMade _, hI.out.endApart _⟩
      exact results_cell_row Tryz.results50 _ _ (w.heap.size + 1) 23 (rowOf 16 (w8 (lockN key b))) (0, 0) _ rfl (hI.out.room.setRow _) Tryz.underlying23 rfl (info_key _)

/-- Of a cipher whose round keys are made nothing turns. -/
theorem lock_made (p : Nat) (key b : Nat → Nat) (hk : Hid (Byt key)) (hb : Hid (Byt b)) (w : World) (hm : Hid (Made w p key)) :
    Calls Tryz.prog 50 #[.pointer (some ⟨p, 0, none⟩), .agg (rowOf 16 (w8 b))] w fun e w' => e = .returned (.agg (rowOf 16 (w8 (lockN key b)))) ∧ Below w.heap.size w w' :=
  (lock_any p key b hk hb w (Or.inr hm.out)).mono fun _ _ ⟨he, h1, h2⟩ => ⟨he, h2.same hm.out h1⟩

end Go.Proofs.YtacekpjkgkkekaaGreatDoor
/-
  A range over a function whose iterator keeps memory of its own: which blocks the iterator turns, which the loop's body; the law of the statement.
-/
namespace Go.Proofs.YtacekpjkgkkekaaGreatDoor
open Go.RowKit

/-- What a loop's body turns: rows of bytes, and variables that hold such a row. -/
def looseO : Obj → Bool
  | .cells _ t _ => t == 5 || t == 45
  | _ => false
/-- What an iterator turns: other cells, of its own. -/
def firmO : Obj → Bool
  | .cells _ t _ => !(t == 5 || t == 45)
  | _ => false

/-- What a round does. -/
structure Outer (W W' : World) : Prop where
  os : W'.os = W.os
  tape : W'.tape = W.tape
  output : W'.output = W.output
  size : W.heap.size ≤ W'.heap.size
  block : ∀ (k : Nat) (o : Obj), W.heap[k]? = some o → looseO o = false → W'.heap[k]? = some o

/-- What the iterator does between two rounds, its own blocks lying from m on. -/
structure Inner (m : Nat) (W W' : World) : Prop where
  os : W'.os = W.os
  tape : W'.tape = W.tape
  output : W'.output = W.output
  size : W.heap.size ≤ W'.heap.size
  block : ∀ (k : Nat) (o : Obj), W.heap[k]? = some o → (k < m ∨ firmO o = false) → W'.heap[k]? = some o

theorem Outer.refl (W : World) : Outer W W := ⟨rfl, rfl, rfl, Nat.le_refl _, fun _ _ h _ => h⟩
theorem Outer.trans {A B C : World} (h : Outer A B) (k : Outer B C) : Outer A C :=
  ⟨k.os.trans h.os, k.tape.trans h.tape, k.output.trans h.output, Nat.le_trans h.size k.size, fun i o hi ho => k.block i o (h.block i o hi ho) ho⟩
theorem Inner.refl (m : Nat) (W : World) : Inner m W W := ⟨rfl, rfl, rfl, Nat.le_refl _, fun _ _ h _ => h⟩
theorem Inner.trans {m : Nat} {A B C : World} (h : Inner m A B) (k : Inner m B C) : Inner m A C :=
  ⟨k.os.trans h.os, k.tape.trans h.tape, k.output.trans h.output, Nat.le_trans h.size k.size, fun i o hi ho => k.block i o (h.block i o hi ho) ho⟩
theorem Inner.mono {m m' : Nat} {A B : World} (h : Inner m A B) (hm : m' ≤ m) : Inner m' A B :=
  ⟨h.os, h.tape, h.output, h.size, fun i o hi ho => h.block i o hi (ho.imp (fun x => Nat.lt_of_lt_of_le x hm) id)⟩
theorem Inner.below {m : Nat} {A B : World} (h : Inner m A B) (hm : m ≤ A.heap.size) : Below m A B :=
  ⟨h.os, h.tape, h.output, h.size, fun k hk => by
    have hk' : k < A.heap.size := by omega
    rw [Array.getElem?_eq_getElem hk']
    exact h.block k _ (Array.getElem?_eq_getElem hk') (.inl hk)⟩
theorem block_some {A B : World} {k : Nat} {o : Obj} (h : Below A.heap.size A B) (hk : A.heap[k]? = some o) : B.heap[k]? = some o :=
  (h.block k (Array.getElem?_eq_some_iff.1 hk).1).trans hk
theorem Inner.of_below {m : Nat} {A B : World} (h : Below A.heap.size A B) : Inner m A B := ⟨h.os, h.tape, h.output, h.size, fun _ _ hi _ => block_some h hi⟩
theorem Outer.of_below {A B : World} (h : Below A.heap.size A B) : Outer A B := ⟨h.os, h.tape, h.output, h.size, fun _ _ hi _ => block_some h hi⟩
/-- A firm block of the iterator's own turned. -/
theorem Inner.of_apart {m p : Nat} {A B : World} {o : Obj} (h : Apart p A B) (hp : m ≤ p) (ho : A.heap[p]? = some o) (hf : firmO o = true) : Inner m A B := by
  have h1 := h #[]
  refine ⟨h1.os, h1.tape, h1.output, h.size, fun k x hx hk => ?_⟩
  by_cases e : k = p
  · subst e
    rw [ho] at hx
    cases hx
    rcases hk with hk | hk
    · omega
    · rw [hf] at hk; cases hk
  · have hlt := (Array.getElem?_eq_some_iff.1 hx).1
    have := h1.block k hlt
    rw [setRow_other _ _ _ _ e, setRow_other _ _ _ _ e] at this
    exact this.trans hx
theorem Outer.row {A B : World} {p : Nat} {t : TypeId} {cs : Array Value} (h : Outer A B) (hr : RowAt A p t cs) (ht : (t == 5 || t == 45) = false) : RowAt B p t cs := h.block _ _ hr ht

/-- An iterator that hands out xs 0 .. xs (N - 1), whatever the body that keeps what is no row of bytes, and asks for more. -/
def SeqAll (P : Program) (g : Nat) (lb : Array Value) (N : Nat) (xs : Nat → Array Value) (w0 : World) : Prop :=
  ∀ (l : Nat) (J : Nat → World → Prop) (W : World), Inner w0.heap.size w0 W → w0.heap.size ≤ W.heap.size →
    (∀ k A B, J k A → Inner W.heap.size A B → J k B) →
    (∀ k W1, J k W1 → k < N → YieldAt Fence.wide 0 P l (xs k) W1 fun e W' => e = .returned (.bool true) ∧ J (k + 1) W' ∧ Outer W1 W') →
    J 0 W → Calls P g (#[.func (.yield l) #[] #[]] ++ lb) W fun e W' => (∃ v, e = .returned v) ∧ J N W'

/-- What a round's body is asked for. -/
def roundPostN (I : World → Prop) (W : World) (e : Exit) (_ : Act) (W' : World) : Prop := e = .normal ∧ I W' ∧ Outer W W'

theorem wp_rangeFunc_all {P : Program} {g : Operand} {ps : Array Tmp} {assign body : Code} {Q : Exit → Act → World → Prop} {a : Act} {w : World}
    {gf : Nat} {lb : Array Value} (hg : a.eval g = .func (.func gf) #[] lb) (eg : ∀ args w, (callFunc gf args).run P w = .ok (.enter gf args) w)
    {N : Nat} {xs : Nat → Array Value} {w0 : World} (hseq : SeqAll P gf lb N xs w0) (hb0 : Below w0.heap.size w0 w) (hps : ∀ k, (xs k).size = ps.size)
    (I : Nat → World → Prop) (hI : ∀ k A B, I k A → Inner w.heap.size A B → I k B) (hL : ∀ k A j o o', I k A → w.heap.size ≤ j → A.heap[j]? = some o → o.isCells = false → I k (A.putObj j o')) (h0 : I 0 w)
    (a₁ : Nat → Act)
    (hassign : ∀ (l : Nat) (k : Nat) (W : World) (K : Act → World → Prop), K (a₁ k) W →
      assign.wpIn (Fence.wide.inRound l) 0 P (Exit.then K (fun _ _ _ => False)) { tmps := (ps.zip (xs k)).foldl (fun t (p, v) => t.setIfInBounds p v) a.tmps, defers := [] } W)
    (hbody : ∀ (l : Nat) (k : Nat) (W : World), I k W → k < N → body.wpIn (Fence.wide.inRound l) 0 P (roundPostN (I (k + 1)) W) (a₁ k) W)
    (hdone : ∀ (D : Nat) (W : World), w.heap.size ≤ D → I N W → W.heap[D]? = some (.deferred (some [])) → Q .normal { a with defers := { target := .collected D, args := #[] } :: a.defers } W) :
    (Code.rangeFunc g ps assign body).wp P Q a w := by
  refine (wpIn_wide (n := 1)).1 (wpIn_rangeFunc ?_)
  intro fn hfn
  obtain ⟨rec, hrec⟩ : ∃ rec : LoopState → Option Code → Loop, rec = fun st pe => { state := st, pending := pe, fn, tmps := a.tmps, params := ps, assign, body, defers := w.heap.size } := ⟨_, rfl⟩
  obtain ⟨W1, hW1⟩ : ∃ W1, (w.alloc (.deferred (some []))).alloc (.loop (rec .ready none)) = W1 := ⟨_, rfl⟩
  have hL1 : W1.heap[w.heap.size + 1]? = some (.loop (rec .ready none)) := by
    rw [← hW1]; have := World.alloc_heap_new (w.alloc (.deferred (some []))) (.loop (rec .ready none)); rwa [World.size_alloc] at this
  have hK1 : W1.heap[w.heap.size]? = some (.deferred (some [])) := by
    rw [← hW1]; exact (Below.heap_alloc _ _ _ (by simp)).trans (World.alloc_heap_new w _)
  have hbW : Below w.heap.size w W1 := by rw [← hW1]; exact ((Below.refl _ w).alloc (Nat.le_refl _) _).alloc (by simp) _
  have hsz : W1.heap.size = w.heap.size + 1 + 1 := by rw [← hW1, World.size_alloc, World.size_alloc]
  have hI1 : I 0 W1 := hI _ _ _ h0 (Inner.of_below hbW)
  have hb1 : Below w0.heap.size w0 W1 := hb0.trans (hbW.mono hb0.size)
  refine ⟨w.heap.size + 1, [{ target := .collected w.heap.size, args := #[] }], W1, { target := .fn (.func gf) lb, args := #[.func (.yield (w.heap.size + 1)) #[] #[]] }, W1, gf,
    #[.func (.yield (w.heap.size + 1)) #[] #[]] ++ lb, W1, ?_, ?_, ?_, ?_, fun _ => Nat.le_refl _, ?_⟩
  · rw [← hW1, hrec]; exact run_enterLoop_outer _ _ _ _ _
  · simp only [resolve, hg]
    simp [go_sem]
  · intro f' _; trivial
  · simp [invoke, go_sem, eg]
  · refine callsIn_wide.2 ((hseq (w.heap.size + 1)
      (fun k W => I k W ∧ W.heap[w.heap.size + 1]? = some (.loop (rec .ready none)) ∧ W.heap[w.heap.size]? = some (.deferred (some [])))
      W1 (Inner.of_below hb1) hb1.size ?_ ?_ ⟨hI1, hL1, hK1⟩).mono ?_)
    · rintro k A B ⟨h1, h2, h3⟩ hAB
      exact ⟨hI k A B h1 (hAB.mono (by omega)), hAB.block _ _ h2 (.inr rfl), hAB.block _ _ h3 (.inr rfl)⟩
    · -- ONE ROUND
      rintro k W ⟨hi, hl, hk⟩ hlen
      have hlt : w.heap.size + 1 < W.heap.size := (Array.getElem?_eq_some_iff.1 hl).1
      have hy := run_yield (P := P) (args := xs k) hl (by rw [hrec]; exact hps k)
      rw [hrec] at hy
      refine ⟨fn, _, assign, body, hy, roundIn_of_wpIn hfn (hassign _ k W _ ?_)⟩
      clear hy
      refine ⟨_, run_beginRound hl (by rw [hrec]), ?_⟩
      have hl2 : (W.putObj (w.heap.size + 1) (.loop { rec .ready none with state := .busy })).heap[w.heap.size + 1]? = some (.loop { rec .ready none with state := .busy }) := World.putObj_heap_same hlt
      have hk2 : (W.putObj (w.heap.size + 1) (.loop { rec .ready none with state := .busy })).heap[w.heap.size]? = some (.deferred (some [])) := (World.putObj_heap_other (by omega)).trans hk
      refine wpIn_mono (hbody _ k _ (hL _ _ _ _ _ hi (by omega) hl rfl) hlen) ?_
      rintro e a3 W3 ⟨rfl, hi3, hout⟩
      have hl3 := hout.block _ _ hl2 rfl
      have hk3 := hout.block _ _ hk2 rfl
      have hend := run_endRound (P := P) none hl3
      refine ⟨_, _, hend, rfl, ⟨hL _ _ _ _ _ hi3 (by omega) hl3 rfl, ?_, (World.putObj_heap_other (by omega)).trans hk3⟩, ?_⟩
      · rw [hrec]
        exact World.putObj_heap_same (Array.getElem?_eq_some_iff.1 hl3).1
      · refine ⟨hout.os, hout.tape, hout.output, by rw [World.putObj_size]; have := hout.size; rwa [World.putObj_size] at this, fun j o hj ho => ?_⟩
        by_cases e : j = w.heap.size + 1
        · subst e
          rw [hl] at hj
          cases hj
          rw [hrec]
          exact World.putObj_heap_same (Array.getElem?_eq_some_iff.1 hl3).1
        · rw [World.putObj_heap_other e]
          exact hout.block j o ((World.putObj_heap_other e).trans hj) ho
    · rintro e W2 ⟨⟨v, rfl⟩, hi, hl, hk⟩
      exact ⟨none, _, by have := run_endLoop (P := P) hl (by rw [hrec]; simp); rw [hrec] at this; exact this, hdone _ _ (Nat.le_refl _) (hL _ _ _ _ _ hi (by omega) hl rfl) ((World.putObj_heap_other (by omega)).trans hk)⟩

/-! ### Regions of a round, by the plain walk -/

theorem operIn_of {P : Program} (l : Nat) {o : Oper} {a : Act} {w : World} {next : Act → World → Prop} {Q : Exit → Act → World → Prop} (hd : ∀ c, o.op ≠ .defer c) (h : o.wp P a w next Q) :
    o.wpIn (Fence.wide.inRound l) 0 P a w next Q := by
  refine ⟨fun _ _ => trivial, ?_⟩
  have hs : (o.semAt (Fence.wide.inRound l).round a.eval) = execOp a.eval o := Oper.semAt_some l _ _ hd
  rw [hs]
  unfold Oper.wp at h
  generalize (execOp a.eval o).run P w = r at h
  match r, h with
  | .ok (.value v) w', h => exact h
  | .ok .skip w', h => exact h
  | .ok (.defer d) w', h => exact h
  | .ok (.enter f args) w', h => exact ⟨(fun e => by cases e), CallsIn.inRound l (callsIn_wide.2 h)⟩
  | .ok (.row row args) w', h =>
    refine ⟨(fun e => by cases e), fun c cs _ => ?_⟩
    obtain ⟨v, w'', hv, hs⟩ := h c cs
    exact ⟨v, w'', hv, stepsIn_wide.2 hs⟩
  | .halt (.panic v) w', h => exact h

/-- An operation that is no defer statement. -/
def plainOp (o : Oper) : Bool := match o.op with | .defer _ => false | _ => true
theorem plainOp_ne {o : Oper} (h : plainOp o = true) : ∀ c, o.op ≠ .defer c := fun c e => by
  unfold plainOp at h
  rw [e] at h
  cases h

theorem opsIn_of {P : Program} (l : Nat) {ops : Array Oper} {Q : Exit → Act → World → Prop} (hd : ops.all plainOp = true) (hQ : ¬ LetsOut Q) :
    ∀ (li : List Nat) (a : Act) (w : World), wpOps P ops Q li a w → wpOpsIn (Fence.wide.inRound l) 0 P ops Q li a w := by
  intro li
  induction li with
  | nil => exact fun a w h => h
  | cons i rest ih =>
    intro a w h
    simp only [wpOps] at h
    simp only [wpOpsIn]
    cases ho : ops[i]? with
    | none => rw [ho] at h; exact ih a w h
    | some o =>
      rw [ho] at h
      simp only at h ⊢
      have hp : plainOp o = true := by
        obtain ⟨hi, e⟩ := Array.getElem?_eq_some_iff.1 ho
        rw [← e]
        exact (Array.all_eq_true.1 hd) i hi
      by_cases hw : Region.wanted o (yielded ops a.tmps) = true
      · rw [if_pos hw] at h ⊢
        rcases h with h | ⟨_, h⟩
        · exact operIn_of l (plainOp_ne hp) (Oper.wp_mono ih h)
        · exact absurd h hQ
      · rw [if_neg hw] at h ⊢
        exact ⟨fun _ _ => trivial, ih _ _ h⟩

/-- A plain region of a round. -/
theorem wpIn_round_list {P : Program} (l : Nat) {id : Nat} {ops : List Oper} {Q : Exit → Act → World → Prop} {a : Act} {w : World} (hd : ops.toArray.all plainOp = true) (hQ : ¬ LetsOut Q)
    (h : wpList P ops.toArray Q ops a w) : (Code.region id ops.toArray false).wpIn (Fence.wide.inRound l) 0 P Q a w := by
  refine wpIn_region (opsIn_of l hd hQ _ _ _ ?_)
  rw [List.range_eq_range', ← Array.length_toList, wpOps_eq_wpList ops.toArray.toList 0 (by simp)]
  exact h

/-- A drawn region of a round whose last operations alone write. -/
theorem wpIn_round_tail {P : Program} (l : Nat) {id : Nat} {Q : Exit → Act → World → Prop} {a : Act} {w : World} {ops : List Oper} (n : Nat) (hd : ops.toArray.all plainOp = true) (hQ : ¬ LetsOut Q)
    (hm : P.follows .mixedOrders = true) (hB : Region.lexTailB .any ops.toArray n = true)
    (h : wpStill P ops.toArray { w with drawn := w.drawn + 1 } (fun a' => wpList P ops.toArray Q (ops.drop n) a' { w with drawn := w.drawn + 1 }) (ops.take n) a) : (Code.region id ops.toArray true).wpIn (Fence.wide.inRound l) 0 P Q a w := by
  refine wpIn_region_draw fun t => opsIn_of l hd hQ _ _ _ ?_
  simp only [Region.schedule, hm, Bool.true_or, if_true]
  refine wpAny_sound ops.toArray.size t _ a _ ?_
  simp only [Region.lexTailB, Bool.and_eq_true, decide_eq_true_eq] at hB
  obtain ⟨⟨⟨⟨hsel, hn⟩, hs⟩, hc⟩, hlex⟩ := hB
  have hn' : n < ops.length := by simpa using hn
  have htl : (ops.take n).length = n := by simp; omega
  have hdl : (ops.drop n).length = ops.toArray.size - n := by simp
  have inv0 : HeadInv .any ops.toArray n (Array.replicate ops.toArray.size false) :=
    ⟨by simp, fun j oj _ hl => (by rw [getD_replicate_false] at hl; cases hl), fun t _ ht => getD_in (by simpa using ht) (getD_replicate_false _ _)⟩
  have H := wpAnyL_lex (md := .any) (g := ops.toArray.size - n) hsel hs hc hn (ops.take n) 0 _ a (fun j hj => by
    have hj' : j < n := by rw [htl] at hj; exact hj
    simp [hj']) (by simpa using htl) inv0 (by rw [htl]; exact hlex) h
  have := wpAny_of_head (Q' := Q) (g := ops.toArray.size - n) (fun listed a' hL => by
    have := wpAny_of_seq (md := .any) (Q' := Q) (ops.drop n) n listed a' { w with drawn := w.drawn + 1 } (fun j => by simp [List.getElem?_drop]) (by rw [hdl]; exact hL.1) hL.2
    rwa [hdl] at this) _ _ _ H
  rw [htl, show n + (ops.toArray.size - n) = ops.toArray.size by omega] at this
  exact this

theorem roundPostN_in {I : World → Prop} {W : World} : ¬ LetsOut (roundPostN I W) := fun ⟨_, _, h, _⟩ => by cases h
theorem roundPostN_block {I : World → Prop} {W : World} {id : Nat} : ¬ LetsOut (Exit.inBlock id (roundPostN I W)) := fun ⟨_, _, h⟩ => by
  simp only [Exit.inBlock] at h
  obtain ⟨h, _⟩ := h
  cases h

end Go.Proofs.YtacekpjkgkkekaaGreatDoor
/-
  Contracts: counted, stream.
-/
namespace Go.Proofs.YtacekpjkgkkekaaGreatDoor
open Go.RowKit

set_option maxHeartbeats 1000000 in
set_option maxRecDepth 8000 in
theorem counted_any (nonce i : Nat) (hn : Hid (nonce < 18446744073709551616)) (hi : i < 100000) (w : World) :
    Calls Tryz.prog 51 #[.int .u64 (nonce : Int), .int .i64 (i : Int)] w fun e w' => e = .returned (.agg (rowOf 16 (w8 (cntN nonce i)))) ∧ Below w.heap.size w w' := by
  have N1 : Hid (∀ w, Calls Tryz.prog 17 #[.int .u64 (nonce : Int), .int .i64 8] w fun e w' => e = .returned (.tuple #[.string (bs (numB 8 nonce)), .int .i64 0]) ∧ Below w.heap.size w w') :=
    fun w => number_yes nonce 8 (by omega) (by have := hn.out; unfold Hid; omega) (by omega) (by omega) (fits_8 _ (by have := hn.out; omega)) w
  have N2 : Hid (∀ w, Calls Tryz.prog 17 #[.int .u64 (i : Int), .int .i64 8] w fun e w' => e = .returned (.tuple #[.string (bs (numB 8 i)), .int .i64 0]) ∧ Below w.heap.size w w') :=
    fun w => number_yes i 8 (by omega) (by unfold Hid; omega) (by omega) (by omega) (fits_8 _ (by omega)) w
  obtain ⟨hl, hk⟩ := cnt_key nonce i _ rfl
  have T : Hid (∀ w, Calls Tryz.prog 67 #[.string (bs (numB 8 nonce) ++ bs (numB 8 i))] w fun e w' => e = .returned (.tuple #[.agg (rowOf 16 (w8 (cntN nonce i))), .string (bs ((bs (numB 8 nonce) ++ bs (numB 8 i)).data.toList.drop 16)), .int .i64 0]) ∧ Below w.heap.size w w') :=
    fun w => by rw [← hk]; exact takeKey_yes _ (Nat.le_of_eq hl.symm) w
  clear hl hk hn
  generalize cntN nonce i = f at *
  generalize bs (List.drop 16 _) = z at *
  have r0 : Hid (RowAt (w.alloc (.cells (rowOf 16 (w8 zeroN)) 23)) w.heap.size 23 (rowOf 16 (w8 zeroN))) := RowAt.new _ _ _
  have b0 : Below w.heap.size w (w.alloc (.cells (rowOf 16 (w8 zeroN)) 23)) := (Below.refl _ _).alloc (Nat.le_refl _) _
  go_enter Tryz.func51, Tryz.ntmps51
  go_wp2_with fail
  rw [← z8_16]
  generalize w.alloc (.cells (rowOf 16 (w8 zeroN)) 23) = w0 at *
  refine (N1.out w0).mono ?_
  rintro e w1 ⟨rfl, hb1⟩
  replace r0 := Lib.hid (r0.out.below hb1 r0.out.lt)
  replace b0 := b0.trans (hb1.mono b0.size)
  clear hb1
  go_wp2_with fail
  refine (N2.out w1).mono ?_
  rintro e w2 ⟨rfl, hb1⟩
  replace r0 := Lib.hid (r0.out.below hb1 r0.out.lt)
  replace b0 := b0.trans (hb1.mono b0.size)
  clear hb1
  have hz1 : (bs (numB 8 nonce)).size = 8 := by rw [bs_size, numB_length]
  have hz2 : (bs (numB 8 i)).size = 8 := by rw [bs_size, numB_length]
  go_wp2_with fail
  clear hz1 hz2
  refine (T.out w2).mono ?_
  rintro e w3 ⟨rfl, hb1⟩
  replace r0 := Lib.hid (r0.out.below hb1 r0.out.lt)
  replace b0 := b0.trans (hb1.mono b0.size)
  clear hb1 N1 N2 T
  have r1 : Hid (RowAt (w3.alloc (.cells (rowOf 16 (w8 zeroN)) 23)) w3.heap.size 23 (rowOf 16 (w8 zeroN))) := RowAt.new _ _ _
  have hlt := r0.out.lt
  have r2 : Hid (RowAt ((w3.alloc (.cells (rowOf 16 (w8 zeroN)) 23)).setRow w3.heap.size (rowOf 16 (w8 f))) w3.heap.size 23 (rowOf 16 (w8 f))) := r1.out.setRow _
  have r3 : Hid (RowAt ((w3.alloc (.cells (rowOf 16 (w8 zeroN)) 23)).setRow w3.heap.size (rowOf 16 (w8 f))) w.heap.size 23 (rowOf 16 (w8 zeroN))) := (r0.out.alloc _).setRowOther _ _ (by omega)
  rw [z8_16] at r1 r2 r3
  go_wp2_with (first | (refine wpList_store_row rfl 23 _ _ rfl w3.heap.size (rowOf 16 (w8 f)) rfl rfl 23 _ r1.out (info_key _) (by rw [rowOf_size]; rfl) (rowOf_cells8 _ _) ?_) | (refine wpList_load_row rfl 23 _ rfl w3.heap.size rfl 23 (rowOf 16 (w8 f)) (0, 0) _ r2.out Tryz.underlying23 rfl (info_key _) ?_) | (refine wpList_store_row rfl 23 _ _ rfl w.heap.size (rowOf 16 (w8 f)) rfl rfl 23 _ r3.out (info_key _) (by rw [rowOf_size]; rfl) (rowOf_cells8 _ _) ?_))
  refine bodyPost_ret (v := .agg (rowOf 16 (w8 f))) ?_ rfl ⟨rfl, below_setRow' (below_setRow' (b0.alloc b0.size _) (by omega) _) (Nat.le_refl _) _⟩
  exact results_cell_row Tryz.results51 _ _ w.heap.size 23 (rowOf 16 (w8 f)) (0, 0) _ rfl (r3.out.setRow _) Tryz.underlying23 rfl (info_key _)

/-- What the iterator has captured: key, nonce, from, to. -/
structure Cap (s : Nat) (key : Nat → Nat) (nonce fr to : Nat) (w : World) : Prop where
  key : RowAt w s 23 (rowOf 16 (w8 key))
  nonce : RowAt w (s + 1) 25 #[.int .u64 (nonce : Int)]
  fr : RowAt w (s + 2) 3 #[.int .i64 (fr : Int)]
  to : RowAt w (s + 3) 3 #[.int .i64 (to : Int)]

theorem Cap.outer {s : Nat} {key : Nat → Nat} {nonce fr to : Nat} {A B : World} (h : Cap s key nonce fr to A) (k : Outer A B) : Cap s key nonce fr to B :=
  ⟨k.row h.key rfl, k.row h.nonce rfl, k.row h.fr rfl, k.row h.to rfl⟩
theorem Cap.inner {s m : Nat} {key : Nat → Nat} {nonce fr to : Nat} {A B : World} (h : Cap s key nonce fr to A) (k : Inner m A B) (hm : s + 3 < m) : Cap s key nonce fr to B :=
  ⟨k.block _ _ h.key (.inl (by omega)), k.block _ _ h.nonce (.inl (by omega)), k.block _ _ h.fr (.inl (by omega)), k.block _ _ h.to (.inl (by omega))⟩

def capV (s : Nat) : Array Value := #[.pointer (some ⟨s, 0, none⟩), .pointer (some ⟨s + 2, 0, none⟩), .pointer (some ⟨s + 3, 0, none⟩), .pointer (some ⟨s + 1, 0, none⟩)]

theorem heap_new4 (w : World) (o1 o2 o3 o4 : Obj) : ((((w.alloc o1).alloc o2).alloc o3).alloc o4).heap[w.heap.size]? = some o1 ∧ ((((w.alloc o1).alloc o2).alloc o3).alloc o4).heap[w.heap.size + 1]? = some o2 ∧
    ((((w.alloc o1).alloc o2).alloc o3).alloc o4).heap[w.heap.size + 2]? = some o3 ∧ ((((w.alloc o1).alloc o2).alloc o3).alloc o4).heap[w.heap.size + 3]? = some o4 := by
  obtain ⟨h1, h2, h3⟩ := heap_new3 w o1 o2 o3
  have s3 : (((w.alloc o1).alloc o2).alloc o3).heap.size = w.heap.size + 3 := by rw [World.size_alloc, World.size_alloc, World.size_alloc]
  refine ⟨?_, ?_, ?_, ?_⟩
  · rw [Below.heap_alloc _ _ _ (by omega)]; exact h1
  · rw [Below.heap_alloc _ _ _ (by omega)]; exact h2
  · rw [Below.heap_alloc _ _ _ (by omega)]; exact h3
  · rw [← s3]; exact heap_alloc_new _ o4

set_option maxHeartbeats 1000000 in
set_option maxRecDepth 8000 in
theorem stream_make (key : Nat → Nat) (nonce fr to : Nat) (w : World) :
    Calls Tryz.prog 36 #[.agg (rowOf 16 (w8 key)), .int .u64 (nonce : Int), .int .i64 (fr : Int), .int .i64 (to : Int)] w fun e w' =>
      e = .returned (.func (.func 48) #[] (capV w.heap.size)) ∧ Cap w.heap.size key nonce fr to w' ∧ w'.heap.size = w.heap.size + 4 ∧ Below w.heap.size w w' := by
  go_enter Tryz.func36, Tryz.ntmps36
  go_wp2
  go_ret
  obtain ⟨h1, h2, h3, h4⟩ := heap_new4 w (.cells (rowOf 16 (w8 key)) 23) (.cells #[.int .u64 (nonce : Int)] 25) (.cells #[.int .i64 (fr : Int)] 3) (.cells #[.int .i64 (to : Int)] 3)
  exact ⟨rfl, ⟨h1, h2, h3, h4⟩, by rw [World.size_alloc, World.size_alloc, World.size_alloc, World.size_alloc], ((((Below.refl _ _).alloc (Nat.le_refl _) _).alloc (by simp) _).alloc (by simp; omega) _).alloc (by simp; omega) _⟩

end Go.Proofs.YtacekpjkgkkekaaGreatDoor
