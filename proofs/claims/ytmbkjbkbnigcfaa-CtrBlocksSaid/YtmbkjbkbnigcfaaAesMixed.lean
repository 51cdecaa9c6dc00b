/-
  Contracts: mixed.
-/
import Derived.Test.YtmbkjbkbnigcfaaAesTurn
namespace Go.Proofs.Ytmbkjbkbnigcfaa
open Go.RowKit

/-- What the first k of a column's bytes, with their weights, add up to at place j. -/
def mixTo (f g : Nat → Nat) (j : Nat) : Nat → Nat
  | 0 => 0
  | k + 1 => mixTo f g j k ^^^ timesN (f (colN j k)) (g k)
def mixM (f g : Nat → Nat) : Nat → Nat := fun j => mixTo f g j 4

theorem mixTo_lt {f g : Nat → Nat} (hf : Byt f) (j : Nat) : ∀ k, mixTo f g j k < 256
  | 0 => by simp [mixTo]
  | k + 1 => xor8 (mixTo_lt hf j k) (times_lt (hf _) _)

def wLock : Nat → Nat | 0 => 2 | 1 => 3 | 2 => 1 | 3 => 1 | _ => 0
def wOpen : Nat → Nat | 0 => 14 | 1 => 11 | 2 => 13 | 3 => 9 | _ => 0

theorem mixM_lock {f : Nat → Nat} (hf : Byt f) : mixM f wLock = aMix f := by
  funext j
  show 0 ^^^ timesN (f (colN j 0)) 2 ^^^ timesN (f (colN j 1)) 3 ^^^ timesN (f (colN j 2)) 1 ^^^ timesN (f (colN j 3)) 1 = _
  rw [col_0, Nat.zero_xor, times_one (hf _), times_one (hf _)]
  rfl
theorem mixM_open (f : Nat → Nat) : mixM f wOpen = aUnmix f := by
  funext j
  show 0 ^^^ timesN (f (colN j 0)) 14 ^^^ timesN (f (colN j 1)) 11 ^^^ timesN (f (colN j 2)) 13 ^^^ timesN (f (colN j 3)) 9 = _
  rw [col_0, Nat.zero_xor]
  rfl

theorem info_w4 (f : Nat → Value) : (Try.prog.info? 75).map (·.size) = some (rowOf 4 f).size := by rw [rowOf_size]; kernel_rfl

theorem mix_start (f g : Nat → Nat) (j : Nat) : upd (part (mixM f g) zeroN j) j (mixTo f g j 0) = part (mixM f g) zeroN j := by
  funext k
  unfold upd
  split
  · rename_i h
    subst h
    rw [part_above _ _ _ _ (Nat.le_refl k)]
    rfl
  · rfl
theorem mix_end (f g : Nat → Nat) (j : Nat) : upd (part (mixM f g) zeroN j) j (mixTo f g j 4) = part (mixM f g) zeroN (j + 1) := part_upd (mixM f g) zeroN j
theorem mix_step (f g : Nat → Nat) (j k v : Nat) (hv : v = mixTo f g j (k + 1)) :
    (rowOf 16 (w8 (upd (part (mixM f g) zeroN j) j (mixTo f g j k)))).setIfInBounds j (.int .u8 ((v : Nat) : Int)) = rowOf 16 (w8 (upd (part (mixM f g) zeroN j) j (mixTo f g j (k + 1)))) := by
  subst hv
  rw [rowOf_upd8]
  congr 1
  funext i
  unfold w8 upd
  split <;> rfl

set_option maxHeartbeats 1000000 in
set_option maxRecDepth 8000 in
theorem mixed_keys (f g : Nat → Nat) (hf : Hid (Byt f)) (hg : Hid (Byt g)) (w : World) :
    Calls Try.prog 33 #[.agg (rowOf 16 (w8 f)), .agg (rowOf 4 (w8 g))] w fun e w' => e = .returned (.agg (rowOf 16 (w8 (mixM f g)))) ∧ Below w.heap.size w w' := by
  go_enter Try.func33, Try.ntmps33
  go_wp2
  rw [← z8_16]
  have hw1 := Lib.hid (allocs_row [.cells (rowOf 16 (w8 f)) 23, .cells (rowOf 4 (w8 g)) 75, .cells (rowOf 16 (w8 zeroN)) 23, .cells (rowOf 16 (w8 zeroN)) 23] w)
  have r0 : Hid (RowAt ((((w.alloc (.cells (rowOf 16 (w8 f)) 23)).alloc (.cells (rowOf 4 (w8 g)) 75)).alloc (.cells (rowOf 16 (w8 zeroN)) 23)).alloc (.cells (rowOf 16 (w8 zeroN)) 23)) w.heap.size 23 (rowOf 16 (w8 f))) := hw1.out 0 _ _ rfl
  have r1 : Hid (RowAt ((((w.alloc (.cells (rowOf 16 (w8 f)) 23)).alloc (.cells (rowOf 4 (w8 g)) 75)).alloc (.cells (rowOf 16 (w8 zeroN)) 23)).alloc (.cells (rowOf 16 (w8 zeroN)) 23)) (w.heap.size + 1) 75 (rowOf 4 (w8 g))) := hw1.out 1 _ _ rfl
  have r2 : Hid (RowAt ((((w.alloc (.cells (rowOf 16 (w8 f)) 23)).alloc (.cells (rowOf 4 (w8 g)) 75)).alloc (.cells (rowOf 16 (w8 zeroN)) 23)).alloc (.cells (rowOf 16 (w8 zeroN)) 23)) (w.heap.size + 1 + 1) 23 (rowOf 16 (w8 zeroN))) := hw1.out 2 _ _ rfl
  have r3 : Hid (RowAt ((((w.alloc (.cells (rowOf 16 (w8 f)) 23)).alloc (.cells (rowOf 4 (w8 g)) 75)).alloc (.cells (rowOf 16 (w8 zeroN)) 23)).alloc (.cells (rowOf 16 (w8 zeroN)) 23)) (w.heap.size + 1 + 1 + 1) 23 (rowOf 16 (w8 zeroN))) := hw1.out 3 _ _ rfl
  have b0 : Below w.heap.size w ((((w.alloc (.cells (rowOf 16 (w8 f)) 23)).alloc (.cells (rowOf 4 (w8 g)) 75)).alloc (.cells (rowOf 16 (w8 zeroN)) 23)).alloc (.cells (rowOf 16 (w8 zeroN)) 23)) := allocs_below [.cells (rowOf 16 (w8 f)) 23, .cells (rowOf 4 (w8 g)) 75, .cells (rowOf 16 (w8 zeroN)) 23, .cells (rowOf 16 (w8 zeroN)) 23] w
  clear hw1
  generalize (((w.alloc (.cells (rowOf 16 (w8 f)) 23)).alloc (.cells (rowOf 4 (w8 g)) 75)).alloc (.cells (rowOf 16 (w8 zeroN)) 23)).alloc (.cells (rowOf 16 (w8 zeroN)) 23) = w1 at *
  go_loopw [11] (fun i wr => ∃ j : Nat, j ≤ 16 ∧ i = .int .i64 j ∧ Hid (RowAt wr (w.heap.size + 1 + 1 + 1) 23 (rowOf 16 (w8 (part (mixM f g) zeroN j)))) ∧ Below (w.heap.size + 1 + 1 + 1) w1 wr)
    (fun i _ => 16 - (intOf i).toNat)
  case atStart => exact ⟨0, by omega, rfl, by rw [part_zero]; exact r3, Below.refl _ _⟩
  case round =>
    clear r3
    obtain ⟨j, hj, rfl, h3, hbl⟩ := hrel
    by_cases hlt : j < 16
    · obtain ⟨r, hr⟩ : ∃ r, r = j % 4 := ⟨_, rfl⟩
      obtain ⟨a, ha⟩ : ∃ a, a = 4 * (j / 4) := ⟨_, rfl⟩
      have e8 : (j : Int) % 4 = (r : Int) := by omega
      have e7 : (j : Int) - (r : Int) = (a : Int) := by omega
      have r4 : r < 4 := by omega
      have a16 : a ≤ 12 := by omega
      have C : Hid (∀ k, colN j k = a + (r + k) % 4) := by intro k; unfold colN; rw [hr, ha]
      have hr1 : Hid (RowAt wr (w.heap.size + 1) 75 (rowOf 4 (w8 g))) := r1.out.below hbl (by omega)
      clear hr ha
      go_wp2_with (refine wpList_load_row rfl 75 _ rfl (w.heap.size + 1) rfl 75 _ (0, 0) _ hr1.out Try.underlying75 rfl (info_w4 _) ?_)
      clear e8 e7 hr1
      go_loopw [21] (fun i wr' => ∃ k : Nat, k ≤ 4 ∧ i = .int .i64 k ∧ Hid (RowAt wr' (w.heap.size + 1 + 1 + 1) 23 (rowOf 16 (w8 (upd (part (mixM f g) zeroN j) j (mixTo f g j k))))) ∧ Below (w.heap.size + 1 + 1 + 1) w1 wr')
        (fun i _ => 4 - (intOf i).toNat)
      case atStart => exact ⟨0, by omega, rfl, by rw [mix_start]; exact h3, hbl⟩
      case round =>
        clear h3 hbl
        obtain ⟨k, hk, rfl, h3, hbl⟩ := hrel
        by_cases hlk : k < 4
        · obtain ⟨x, hx⟩ : ∃ x, x = a + (r + k) % 4 := ⟨_, rfl⟩
          have ex : (a : Int) + ((r : Int) + (k : Int)) % 4 = (x : Int) := by omega
          have hx16 : x < 16 := by omega
          have X : Hid (colN j k = x) := by unfold Hid; rw [C.out, hx]
          clear hx
          have ix : (Instr.index 75 (.agg (rowOf 4 (w8 g))) (.int .i64 (k : Int))).run Try.prog wr = .ok (.int .u8 ((g k : Nat) : Int)) wr := run_index_row wr 75 5 4 (w8 g) .i64 k Try.underlying75 sz8 plain8 hlk
          go_wp2
          clear ix
          refine wp_region_still_tail 15 (by kernel_rfl) (by kernel_rfl) ?_
          change wpStill _ _ wr.drew (fun a' => wpList _ _ _ _ a' wr.drew) _ _
          replace h3 : Hid (RowAt wr.drew (w.heap.size + 1 + 1 + 1) 23 (rowOf 16 (w8 (upd (part (mixM f g) zeroN j) j (mixTo f g j k))))) := h3
          replace hbl : Below (w.heap.size + 1 + 1 + 1) w1 wr.drew := hbl.drew
          generalize wr.drew = w9 at *
          have c0 := (r0.out.below hbl (by omega)).cell x hx16
          have c3 := h3.out.cell j hlt
          have f3 := h3.out.free j
          unfold w8 at c0 c3
          rw [show upd (part (mixM f g) zeroN j) j (mixTo f g j k) j = mixTo f g j k by simp [upd]] at c3
          have l1 := mixTo_lt (g := g) hf.out j k
          have l2 := hf.out x
          have l3 := hg.out k
          have T := Lib.hid (times_any (f x) (g k) l2 l3 w9)
          have l4 := times_lt l2 (g k)
          have N : Hid (mixTo f g j k ^^^ timesN (f x) (g k) = mixTo f g j (k + 1)) := by unfold Hid; rw [← X.out]; rfl
          have e3 := Lib.hid (mix_step f g j k _ N.out)
          have E1 := Lib.hid (u8_xor_nat (mixTo f g j k) (timesN (f x) (g k)) l1 l4)
          generalize timesN (f x) (g k) = z at *
          simp only [List.take_succ_cons, List.take_zero, List.drop_succ_cons, List.drop_zero]
          refine wpStill_of_quiet _ _ ?_
          repeat (first | go_big_quiet_skip | (go_big_quiet_want; go_big_quiet_op; go_big_quiet_on))
          (go_big_quiet_want; go_big_quiet_op; apply Exists.intro; refine ⟨T.out, ?_⟩; go_big_quiet_on)
          repeat (first | go_big_quiet_skip | (go_big_quiet_want; go_big_quiet_op; go_big_quiet_on))
          refine wpQuiet_nil ?_
          clear T
          go_wp2
          go_roundw
          case rel =>
            refine ⟨k + 1, by omega, by go_num, ?_, hbl.setCell (Nat.le_refl _) _⟩
            rw [E1.out]
            exact (h3.out.set j _).congr e3.out
          case measure => simp [intOf]; omega
        · have : k = 4 := by omega
          subst this
          rw [mix_end] at h3
          go_wp2
          go_roundw
          case rel => exact ⟨j + 1, by omega, by go_num, h3, hbl⟩
          case measure => simp [intOf]; omega
    · have : j = 16 := by omega
      subst this
      have hr2 : Hid (RowAt wr (w.heap.size + 1 + 1 + 1) 23 (rowOf 16 (w8 (mixM f g)))) := h3.out.congr (part_all 16 _ _)
      have h1 : Hid (RowAt wr (w.heap.size + 1 + 1) 23 (rowOf 16 (w8 zeroN))) := r2.out.below hbl (by omega)
      clear h3
      go_wp2_with (first | (refine wpList_load_row rfl 23 _ rfl (w.heap.size + 1 + 1 + 1) rfl 23 _ (0, 0) _ hr2.out Try.underlying23 rfl (info_key _) ?_) | (refine wpList_store_row rfl 23 _ _ rfl (w.heap.size + 1 + 1) (rowOf 16 (w8 (mixM f g))) rfl rfl 23 _ h1.out (info_key _) (by rw [rowOf_size, rowOf_size]) (rowOf_cells8 _ _) ?_))
      refine bodyPost_ret (v := .agg (rowOf 16 (w8 (mixM f g)))) ?_ rfl ⟨rfl, below_setRow' (b0.trans (hbl.mono (by omega))) (by omega) _⟩
      exact results_cell_row Try.results33 _ _ (w.heap.size + 1 + 1) 23 (rowOf 16 (w8 (mixM f g))) (0, 0) _ rfl (h1.out.setRow _) Try.underlying23 rfl (info_key _)

end Go.Proofs.Ytmbkjbkbnigcfaa
