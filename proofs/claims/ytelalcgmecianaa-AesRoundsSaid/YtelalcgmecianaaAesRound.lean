/-
  Contract: Round.
-/
import Derived.Test.YtelalcgmecianaaAesWorld
import Derived.Test.YtelalcgmecianaaWant
namespace Go.Proofs.Ytelalcgmecianaa
open Go.RowKit

set_option maxHeartbeats 1000000 in
set_option maxRecDepth 8000 in
theorem round_yes (p : Nat) (key : Nat → Nat) (hk : Hid (Byt key)) (i : Nat) (hi : i ≤ 10) (w : World) (hc : Hid (Cip w p key)) :
    Calls Try.prog 16 #[.pointer (some ⟨p, 0, none⟩), .int .i64 (i : Int)] w fun e w' => e = .returned (.tuple #[.agg (rowOf 16 (w8 (rkN key i))), .int .i64 0]) ∧ Made w' p key ∧ Apart p w w' := by
  have b0 : Below w.heap.size w (w.alloc (.cells (rowOf 16 (w8 zeroN)) 23)) := (Below.refl _ _).alloc (Nat.le_refl _) _
  have hp : p < w.heap.size := hc.out.lt
  have r0 := Lib.hid (RowAt.new w 23 (rowOf 16 (w8 zeroN)))
  have D := Lib.hid (do_any p key hk.out _ (hc.out.below b0 hp))
  have d0 : decide ((i : Int) < 0) = false := decide_eq_false (by omega)
  have d1 : decide ((10 : Int) < (i : Int)) = false := decide_eq_false (by omega)
  have li : (i : Int) < 11 := by omega
  rw [z8_16] at D
  go_enter Try.func16, Try.ntmps16
  go_wp2_with fail
  refine D.out.mono ?_
  rintro e w2 ⟨rfl, hm, ha⟩
  rw [← z8_16] at ha
  replace r0 := Lib.hid (ha.row r0.out (by omega))
  replace ha := (Apart.of_below b0).trans ha
  replace hm := Lib.hid hm
  have g1 := Lib.hid (cip_get 1 0 (ringN key) (rkN key i) i (by omega) fun j hj => ring_at key i j hj)
  clear D b0 hc
  go_wp2_with (first | (refine wpList_load_at rfl 23 _ rfl p (3 + i * 16) rfl 56 _ _ 16 (w8 (rkN key i)) hm.out g1.out Try.underlying23 rfl (by kernel_rfl) ?_) | (refine wpList_store_row rfl 23 _ _ rfl w.heap.size (rowOf 16 (w8 (rkN key i))) rfl rfl 23 _ r0.out (info_key _) (by rw [rowOf_size, rowOf_size]) (rowOf_cells8 _ _) ?_))
  refine bodyPost_ret (v := .tuple #[.agg (rowOf 16 (w8 (rkN key i))), .int .i64 0]) ?_ rfl ⟨rfl, RowAt.setRowOther hm.out _ _ (by omega), ha.setAbove (Nat.le_refl _) _⟩
  exact results_row_one Try.results16 _ _ w.heap.size 23 (rowOf 16 (w8 (rkN key i))) (0, 0) _ rfl (r0.out.setRow _) Try.underlying23 rfl (info_key _)

/-- Of a cipher whose round keys are made nothing turns. -/
theorem round_made (p : Nat) (key : Nat → Nat) (hk : Hid (Byt key)) (i : Nat) (hi : i ≤ 10) (w : World) (hm : Hid (Made w p key)) :
    Calls Try.prog 16 #[.pointer (some ⟨p, 0, none⟩), .int .i64 (i : Int)] w fun e w' => e = .returned (.tuple #[.agg (rowOf 16 (w8 (rkN key i))), .int .i64 0]) ∧ Below w.heap.size w w' :=
  (round_yes p key hk i hi w (Or.inr hm.out)).mono fun _ _ ⟨he, h1, h2⟩ => ⟨he, h2.same hm.out h1⟩

set_option maxHeartbeats 1000000 in
set_option maxRecDepth 8000 in
theorem round_no (p : Nat) (n : Int) (hn : n < 0 ∨ 10 < n) (w : World) :
    Calls Try.prog 16 #[.pointer (some ⟨p, 0, none⟩), .int .i64 n] w fun e w' => e = .returned (.tuple #[.agg (rowOf 16 (w8 zeroN)), .int .i64 1]) ∧ Below w.heap.size w w' := by
  have b0 : Below w.heap.size w (w.alloc (.cells (rowOf 16 (w8 zeroN)) 23)) := (Below.refl _ _).alloc (Nat.le_refl _) _
  have r0 := Lib.hid (RowAt.new w 23 (rowOf 16 (w8 zeroN)))
  rw [z8_16] at r0
  rcases hn with hn | hn
  · have d0 : decide (n < 0) = true := decide_eq_true hn
    go_enter Try.func16, Try.ntmps16
    go_wp2_with (first | (refine wpList_buildTo rfl 23 _ rfl _ rfl (rowOf 16 (w8 zeroN)) (by kernel_rfl) ?_) | (refine wpList_store_row rfl 23 _ _ rfl w.heap.size (rowOf 16 (w8 zeroN)) rfl rfl 23 _ r0.out (info_key _) (by rw [rowOf_size]; rfl) (rowOf_cells8 _ _) ?_))
    refine bodyPost_ret (v := .tuple #[.agg (rowOf 16 (w8 zeroN)), .int .i64 1]) ?_ rfl ⟨rfl, below_setRow' b0 (Nat.le_refl _) _⟩
    exact results_row_one Try.results16 _ _ w.heap.size 23 (rowOf 16 (w8 zeroN)) (0, 0) _ rfl (r0.out.setRow _) Try.underlying23 rfl (info_key _)
  · have d0 : decide (n < 0) = false := decide_eq_false (by omega)
    have d1 : decide ((10 : Int) < n) = true := decide_eq_true hn
    go_enter Try.func16, Try.ntmps16
    go_wp2_with (first | (refine wpList_buildTo rfl 23 _ rfl _ rfl (rowOf 16 (w8 zeroN)) (by kernel_rfl) ?_) | (refine wpList_store_row rfl 23 _ _ rfl w.heap.size (rowOf 16 (w8 zeroN)) rfl rfl 23 _ r0.out (info_key _) (by rw [rowOf_size]; rfl) (rowOf_cells8 _ _) ?_))
    refine bodyPost_ret (v := .tuple #[.agg (rowOf 16 (w8 zeroN)), .int .i64 1]) ?_ rfl ⟨rfl, below_setRow' b0 (Nat.le_refl _) _⟩
    exact results_row_one Try.results16 _ _ w.heap.size 23 (rowOf 16 (w8 zeroN)) (0, 0) _ rfl (r0.out.setRow _) Try.underlying23 rfl (info_key _)

end Go.Proofs.Ytelalcgmecianaa
