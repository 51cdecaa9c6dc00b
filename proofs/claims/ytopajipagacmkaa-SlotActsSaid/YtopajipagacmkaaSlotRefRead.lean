/-
  Contract: the document's Read.
-/
import Derived.Test.YtopajipagacmkaaSlotRefAsk
import Derived.Deep.RegionHeld
namespace Go.Proofs.Ytopajipagacmkaa
open Go.RowKit
set_option linter.unusedVariables false

set_option maxHeartbeats 1000000 in
set_option maxRecDepth 8000 in
theorem refSRead_any (S : SS) (hok : ∀ i, OkC (S.c i)) (z : Int) (w : World) :
    Calls Try.prog 26 #[.agg (rowOf 40 (rsF S)), .int .i64 z] w fun e w' => e = .returned (.tuple (readVS S z)) ∧ Below w.heap.size w w' := by
  obtain ⟨w2, hw2⟩ : ∃ w2, Hid (w2 = (w.alloc (.cells (rowOf 40 (rsF S)) 37)).alloc (.cells (rowOf 16 (w8 zeroN)) 31)) := ⟨_, rfl⟩
  have b0 : Below w.heap.size w w2 := by rw [hw2.out]; exact allocs_below [.cells (rowOf 40 (rsF S)) 37, .cells (rowOf 16 (w8 zeroN)) 31] w
  have r1 : Hid (RowAt w2 w.heap.size 37 (rowOf 40 (rsF S))) := by rw [hw2.out]; exact allocs_row [.cells (rowOf 40 (rsF S)) 37, .cells (rowOf 16 (w8 zeroN)) 31] w 0 _ _ rfl
  have r2 : Hid (RowAt w2 (w.heap.size + 1) 31 (rowOf 16 (w8 zeroN))) := by rw [hw2.out]; exact allocs_row [.cells (rowOf 40 (rsF S)) 37, .cells (rowOf 16 (w8 zeroN)) 31] w 1 _ _ rfl
  have W := Lib.hid (refWrong_any S z w2)
  by_cases hE : wrongE S z = 0
  · obtain ⟨hu, hin⟩ := wrong_zero hE
    rw [hE] at W
    clear hE
    obtain ⟨i, rfl, hi⟩ := inB_get hin
    have i1 := (cell_no i hi).2
    cases hc : (S.c i).h with
    | false =>
      have eV : Hid (readVS S (i : Nat) = #[.agg (rowOf 16 (w8 zeroN)), .int .u64 0, .int .i64 110]) := by
        unfold Hid readVS readC readE
        rw [if_neg (show ¬ S.p.up = false by rw [hu]; decide), if_neg (show ¬ S.p.up = false by rw [hu]; decide), if_neg (show ¬ inB ((i : Nat) : Int) 2 = false by rw [hin]; decide), if_neg (show ¬ inB ((i : Nat) : Int) 2 = false by rw [hin]; decide), show ((i : Nat) : Int).toNat = i from rfl, if_pos hc, (hok i).no hc]
        rfl
      clear hu hin
      go_enter Try.func26, Try.ntmps26
      go_wp2_with (first | (refine wpList_new rfl (run_allocKey rfl _) ?_; rw [← hw2.out]) | (refine wpList_load_row rfl 37 _ rfl w.heap.size rfl 37 (rowOf 40 (rsF S)) (0, 0) _ r1.out Try.underlying37 rfl (infoRef _) ?_))
      refine W.out.mono ?_
      rintro e w3 ⟨rfl, b3⟩
      replace r1 := Lib.hid (r1.out.below b3 r1.out.lt)
      replace r2 := Lib.hid (r2.out.below b3 r2.out.lt)
      replace b0 := b0.trans (b3.mono b0.size)
      clear b3 W hw2
      have ci := rsIs r1.out hi
      rw [hc] at ci
      clear hc
      go_wp2_with (refine wpList_buildTo rfl 31 _ rfl _ rfl (rowOf 16 (w8 zeroN)) (by kernel_rfl) ?_; refine wpList_store_row rfl 31 _ _ rfl (w.heap.size + 1) (rowOf 16 (w8 zeroN)) rfl rfl 31 _ r2.out (info_key _) rfl (rowOf_cells8 _ _) ?_)
      refine bodyPost_ret (v := .tuple #[.agg (rowOf 16 (w8 zeroN)), .int .u64 0, .int .i64 110]) ?_ rfl ⟨by rw [eV.out], below_setRow' b0 (by omega) _⟩
      exact results_row_two' Try.results26 _ _ (w.heap.size + 1) 31 (rowOf 16 (w8 zeroN)) (0, 0) _ rfl (r2.out.setRow _) Try.underlying31 rfl (info_key _)
    | true =>
      have eV : Hid (readVS S (i : Nat) = #[.agg (rowOf 16 (w8 (S.c i).k)), .int .u64 ((S.c i).e : Nat), .int .i64 0]) := by
        unfold Hid readVS readC readE
        rw [if_neg (show ¬ S.p.up = false by rw [hu]; decide), if_neg (show ¬ S.p.up = false by rw [hu]; decide), if_neg (show ¬ inB ((i : Nat) : Int) 2 = false by rw [hin]; decide), if_neg (show ¬ inB ((i : Nat) : Int) 2 = false by rw [hin]; decide), show ((i : Nat) : Int).toNat = i from rfl, if_neg (by rw [hc]; decide)]
        rfl
      clear hu hin
      go_enter Try.func26, Try.ntmps26
      go_wp2_with (first | (refine wpList_new rfl (run_allocKey rfl _) ?_; rw [← hw2.out]) | (refine wpList_load_row rfl 37 _ rfl w.heap.size rfl 37 (rowOf 40 (rsF S)) (0, 0) _ r1.out Try.underlying37 rfl (infoRef _) ?_))
      refine W.out.mono ?_
      rintro e w3 ⟨rfl, b3⟩
      replace r1 := Lib.hid (r1.out.below b3 r1.out.lt)
      replace r2 := Lib.hid (r2.out.below b3 r2.out.lt)
      replace b0 := b0.trans (b3.mono b0.size)
      clear b3 W hw2
      have ci := rsIs r1.out hi
      rw [hc] at ci
      clear hc
      go_wp2_with fail
      refine wp_region_held_drew (S := fun w' => RowAt w' w.heap.size 37 (rowOf 40 (rsF S))) (by kernel_rfl) (r1.out.below (Below.refl _ w3).drew r1.out.lt) fun hS => ?_
      change wpAnyH _ _ _ _ _ 13 #[false, false, false, false, false, false, false, false, false, false, false, false, false] _ _
      have bd : Below w3.heap.size w3 (World.drew w3) := (Below.refl _ _).drew
      replace hS := Lib.hid hS
      replace r2 := Lib.hid (r2.out.below bd r2.out.lt)
      replace b0 := b0.trans (bd.mono b0.size)
      clear bd r1 ci
      generalize World.drew w3 = w4 at *
      refine wpAnyH_take (i := 0) (v := .int .i64 (i : Nat)) rfl (by kernel_rfl) (by kernel_rfl) (by kernel_rfl) (fun _ _ _ h => h) (Or.inl ⟨by rfl, fun w' hw' => by go_simp⟩) hS.out ?_
      change wpAnyH _ _ _ _ _ 12 #[true, false, false, false, false, false, false, false, false, false, false, false, false] ⟨#[.agg (rowOf 40 (rsF S)), .int .i64 (i : Nat), .pointer (some ⟨w.heap.size, 0, none⟩), undef, .pointer (some ⟨w.heap.size + 1, 0, none⟩), .int .u64 0, .int .i64 0, .int .i64 0, .agg (rowOf 40 (rsF S)), .int .i64 (i : Nat), .int .i64 0, .int .i64 0, .bool false, undef, undef, .int .i64 (i : Nat), .pointer (some ⟨w.heap.size, 4, none⟩), .pointer (some ⟨w.heap.size, 4 + i * 18, none⟩), .pointer (some ⟨w.heap.size, 4 + i * 18, none⟩), .bool true, .bool false, undef, .int .i64 (i : Nat), undef, undef, undef, undef, undef, undef, undef, undef, undef], []⟩ _
      refine wpAnyH_take (i := 1) (v := .pointer (some ⟨w.heap.size, 4, none⟩)) rfl (by kernel_rfl) (by kernel_rfl) (by kernel_rfl) (fun _ _ _ h => h) (Or.inl ⟨by rfl, fun w' hw' => by go_simp⟩) hS.out ?_
      change wpAnyH _ _ _ _ _ 11 #[true, true, false, false, false, false, false, false, false, false, false, false, false] ⟨#[.agg (rowOf 40 (rsF S)), .int .i64 (i : Nat), .pointer (some ⟨w.heap.size, 0, none⟩), undef, .pointer (some ⟨w.heap.size + 1, 0, none⟩), .int .u64 0, .int .i64 0, .int .i64 0, .agg (rowOf 40 (rsF S)), .int .i64 (i : Nat), .int .i64 0, .int .i64 0, .bool false, undef, undef, .int .i64 (i : Nat), .pointer (some ⟨w.heap.size, 4, none⟩), .pointer (some ⟨w.heap.size, 4 + i * 18, none⟩), .pointer (some ⟨w.heap.size, 4 + i * 18, none⟩), .bool true, .bool false, undef, .int .i64 (i : Nat), .pointer (some ⟨w.heap.size, 4, none⟩), undef, undef, undef, undef, undef, undef, undef, undef], []⟩ _
      refine wpAnyH_take (i := 2) (v := .pointer (some ⟨w.heap.size, 4 + i * 18, none⟩)) rfl (by kernel_rfl) (by kernel_rfl) (by kernel_rfl) (fun _ _ _ h => h) (Or.inl ⟨by rfl, fun w' hw' => by go_simp⟩) hS.out ?_
      change wpAnyH _ _ _ _ _ 10 #[true, true, true, false, false, false, false, false, false, false, false, false, false] ⟨#[.agg (rowOf 40 (rsF S)), .int .i64 (i : Nat), .pointer (some ⟨w.heap.size, 0, none⟩), undef, .pointer (some ⟨w.heap.size + 1, 0, none⟩), .int .u64 0, .int .i64 0, .int .i64 0, .agg (rowOf 40 (rsF S)), .int .i64 (i : Nat), .int .i64 0, .int .i64 0, .bool false, undef, undef, .int .i64 (i : Nat), .pointer (some ⟨w.heap.size, 4, none⟩), .pointer (some ⟨w.heap.size, 4 + i * 18, none⟩), .pointer (some ⟨w.heap.size, 4 + i * 18, none⟩), .bool true, .bool false, undef, .int .i64 (i : Nat), .pointer (some ⟨w.heap.size, 4, none⟩), .pointer (some ⟨w.heap.size, 4 + i * 18, none⟩), undef, undef, undef, undef, undef, undef, undef], []⟩ _
      refine wpAnyH_take (i := 3) (v := .pointer (some ⟨w.heap.size, 4 + i * 18 + 1, none⟩)) rfl (by kernel_rfl) (by kernel_rfl) (by kernel_rfl) (fun _ _ _ h => h) (Or.inl ⟨by rfl, fun w' hw' => by go_simp⟩) hS.out ?_
      change wpAnyH _ _ _ _ _ 9 #[true, true, true, true, false, false, false, false, false, false, false, false, false] ⟨#[.agg (rowOf 40 (rsF S)), .int .i64 (i : Nat), .pointer (some ⟨w.heap.size, 0, none⟩), undef, .pointer (some ⟨w.heap.size + 1, 0, none⟩), .int .u64 0, .int .i64 0, .int .i64 0, .agg (rowOf 40 (rsF S)), .int .i64 (i : Nat), .int .i64 0, .int .i64 0, .bool false, undef, undef, .int .i64 (i : Nat), .pointer (some ⟨w.heap.size, 4, none⟩), .pointer (some ⟨w.heap.size, 4 + i * 18, none⟩), .pointer (some ⟨w.heap.size, 4 + i * 18, none⟩), .bool true, .bool false, undef, .int .i64 (i : Nat), .pointer (some ⟨w.heap.size, 4, none⟩), .pointer (some ⟨w.heap.size, 4 + i * 18, none⟩), .pointer (some ⟨w.heap.size, 4 + i * 18 + 1, none⟩), undef, undef, undef, undef, undef, undef], []⟩ _
      refine wpAnyH_take (i := 4) (v := .agg (rowOf 16 (w8 (S.c i).k))) rfl (by kernel_rfl) (by kernel_rfl) (by kernel_rfl) (fun _ _ _ h => h) (Or.inl ⟨by rfl, fun w' hw' => run_load_part (g := w.heap.size) (s := 4 + i * 18 + 1) hw' (rs_key S hi) Try.underlying31 rfl info_key18 rfl rfl⟩) hS.out ?_
      change wpAnyH _ _ _ _ _ 8 #[true, true, true, true, true, false, false, false, false, false, false, false, false] ⟨#[.agg (rowOf 40 (rsF S)), .int .i64 (i : Nat), .pointer (some ⟨w.heap.size, 0, none⟩), undef, .pointer (some ⟨w.heap.size + 1, 0, none⟩), .int .u64 0, .int .i64 0, .int .i64 0, .agg (rowOf 40 (rsF S)), .int .i64 (i : Nat), .int .i64 0, .int .i64 0, .bool false, undef, undef, .int .i64 (i : Nat), .pointer (some ⟨w.heap.size, 4, none⟩), .pointer (some ⟨w.heap.size, 4 + i * 18, none⟩), .pointer (some ⟨w.heap.size, 4 + i * 18, none⟩), .bool true, .bool false, undef, .int .i64 (i : Nat), .pointer (some ⟨w.heap.size, 4, none⟩), .pointer (some ⟨w.heap.size, 4 + i * 18, none⟩), .pointer (some ⟨w.heap.size, 4 + i * 18 + 1, none⟩), .agg (rowOf 16 (w8 (S.c i).k)), undef, undef, undef, undef, undef], []⟩ _
      refine wpAnyH_take (i := 5) (v := .int .i64 (i : Nat)) rfl (by kernel_rfl) (by kernel_rfl) (by kernel_rfl) (fun _ _ _ h => h) (Or.inl ⟨by rfl, fun w' hw' => by go_simp⟩) hS.out ?_
      change wpAnyH _ _ _ _ _ 7 #[true, true, true, true, true, true, false, false, false, false, false, false, false] ⟨#[.agg (rowOf 40 (rsF S)), .int .i64 (i : Nat), .pointer (some ⟨w.heap.size, 0, none⟩), undef, .pointer (some ⟨w.heap.size + 1, 0, none⟩), .int .u64 0, .int .i64 0, .int .i64 0, .agg (rowOf 40 (rsF S)), .int .i64 (i : Nat), .int .i64 0, .int .i64 0, .bool false, undef, undef, .int .i64 (i : Nat), .pointer (some ⟨w.heap.size, 4, none⟩), .pointer (some ⟨w.heap.size, 4 + i * 18, none⟩), .pointer (some ⟨w.heap.size, 4 + i * 18, none⟩), .bool true, .bool false, undef, .int .i64 (i : Nat), .pointer (some ⟨w.heap.size, 4, none⟩), .pointer (some ⟨w.heap.size, 4 + i * 18, none⟩), .pointer (some ⟨w.heap.size, 4 + i * 18 + 1, none⟩), .agg (rowOf 16 (w8 (S.c i).k)), .int .i64 (i : Nat), undef, undef, undef, undef], []⟩ _
      refine wpAnyH_take (i := 6) (v := .pointer (some ⟨w.heap.size, 4, none⟩)) rfl (by kernel_rfl) (by kernel_rfl) (by kernel_rfl) (fun _ _ _ h => h) (Or.inl ⟨by rfl, fun w' hw' => by go_simp⟩) hS.out ?_
      change wpAnyH _ _ _ _ _ 6 #[true, true, true, true, true, true, true, false, false, false, false, false, false] ⟨#[.agg (rowOf 40 (rsF S)), .int .i64 (i : Nat), .pointer (some ⟨w.heap.size, 0, none⟩), undef, .pointer (some ⟨w.heap.size + 1, 0, none⟩), .int .u64 0, .int .i64 0, .int .i64 0, .agg (rowOf 40 (rsF S)), .int .i64 (i : Nat), .int .i64 0, .int .i64 0, .bool false, undef, undef, .int .i64 (i : Nat), .pointer (some ⟨w.heap.size, 4, none⟩), .pointer (some ⟨w.heap.size, 4 + i * 18, none⟩), .pointer (some ⟨w.heap.size, 4 + i * 18, none⟩), .bool true, .bool false, undef, .int .i64 (i : Nat), .pointer (some ⟨w.heap.size, 4, none⟩), .pointer (some ⟨w.heap.size, 4 + i * 18, none⟩), .pointer (some ⟨w.heap.size, 4 + i * 18 + 1, none⟩), .agg (rowOf 16 (w8 (S.c i).k)), .int .i64 (i : Nat), .pointer (some ⟨w.heap.size, 4, none⟩), undef, undef, undef], []⟩ _
      refine wpAnyH_take (i := 7) (v := .pointer (some ⟨w.heap.size, 4 + i * 18, none⟩)) rfl (by kernel_rfl) (by kernel_rfl) (by kernel_rfl) (fun _ _ _ h => h) (Or.inl ⟨by rfl, fun w' hw' => by go_simp⟩) hS.out ?_
      change wpAnyH _ _ _ _ _ 5 #[true, true, true, true, true, true, true, true, false, false, false, false, false] ⟨#[.agg (rowOf 40 (rsF S)), .int .i64 (i : Nat), .pointer (some ⟨w.heap.size, 0, none⟩), undef, .pointer (some ⟨w.heap.size + 1, 0, none⟩), .int .u64 0, .int .i64 0, .int .i64 0, .agg (rowOf 40 (rsF S)), .int .i64 (i : Nat), .int .i64 0, .int .i64 0, .bool false, undef, undef, .int .i64 (i : Nat), .pointer (some ⟨w.heap.size, 4, none⟩), .pointer (some ⟨w.heap.size, 4 + i * 18, none⟩), .pointer (some ⟨w.heap.size, 4 + i * 18, none⟩), .bool true, .bool false, undef, .int .i64 (i : Nat), .pointer (some ⟨w.heap.size, 4, none⟩), .pointer (some ⟨w.heap.size, 4 + i * 18, none⟩), .pointer (some ⟨w.heap.size, 4 + i * 18 + 1, none⟩), .agg (rowOf 16 (w8 (S.c i).k)), .int .i64 (i : Nat), .pointer (some ⟨w.heap.size, 4, none⟩), .pointer (some ⟨w.heap.size, 4 + i * 18, none⟩), undef, undef], []⟩ _
      refine wpAnyH_take (i := 8) (v := .pointer (some ⟨w.heap.size, 4 + i * 18 + 17, none⟩)) rfl (by kernel_rfl) (by kernel_rfl) (by kernel_rfl) (fun _ _ _ h => h) (Or.inl ⟨by rfl, fun w' hw' => by go_simp⟩) hS.out ?_
      change wpAnyH _ _ _ _ _ 4 #[true, true, true, true, true, true, true, true, true, false, false, false, false] ⟨#[.agg (rowOf 40 (rsF S)), .int .i64 (i : Nat), .pointer (some ⟨w.heap.size, 0, none⟩), undef, .pointer (some ⟨w.heap.size + 1, 0, none⟩), .int .u64 0, .int .i64 0, .int .i64 0, .agg (rowOf 40 (rsF S)), .int .i64 (i : Nat), .int .i64 0, .int .i64 0, .bool false, undef, undef, .int .i64 (i : Nat), .pointer (some ⟨w.heap.size, 4, none⟩), .pointer (some ⟨w.heap.size, 4 + i * 18, none⟩), .pointer (some ⟨w.heap.size, 4 + i * 18, none⟩), .bool true, .bool false, undef, .int .i64 (i : Nat), .pointer (some ⟨w.heap.size, 4, none⟩), .pointer (some ⟨w.heap.size, 4 + i * 18, none⟩), .pointer (some ⟨w.heap.size, 4 + i * 18 + 1, none⟩), .agg (rowOf 16 (w8 (S.c i).k)), .int .i64 (i : Nat), .pointer (some ⟨w.heap.size, 4, none⟩), .pointer (some ⟨w.heap.size, 4 + i * 18, none⟩), .pointer (some ⟨w.heap.size, 4 + i * 18 + 17, none⟩), undef], []⟩ _
      refine wpAnyH_take (i := 9) (v := .int .u64 ((S.c i).e : Nat)) rfl (by kernel_rfl) (by kernel_rfl) (by kernel_rfl) (fun _ _ _ h => h) (Or.inl ⟨by rfl, fun w' hw' => run_load_cell (x := ⟨w.heap.size, 4 + i * 18 + 17, none⟩) (rsEp hw' hi) Try.underlying32 rfl rfl rfl⟩) hS.out ?_
      change wpAnyH _ _ _ _ _ 3 #[true, true, true, true, true, true, true, true, true, true, false, false, false] ⟨#[.agg (rowOf 40 (rsF S)), .int .i64 (i : Nat), .pointer (some ⟨w.heap.size, 0, none⟩), undef, .pointer (some ⟨w.heap.size + 1, 0, none⟩), .int .u64 0, .int .i64 0, .int .i64 0, .agg (rowOf 40 (rsF S)), .int .i64 (i : Nat), .int .i64 0, .int .i64 0, .bool false, undef, undef, .int .i64 (i : Nat), .pointer (some ⟨w.heap.size, 4, none⟩), .pointer (some ⟨w.heap.size, 4 + i * 18, none⟩), .pointer (some ⟨w.heap.size, 4 + i * 18, none⟩), .bool true, .bool false, undef, .int .i64 (i : Nat), .pointer (some ⟨w.heap.size, 4, none⟩), .pointer (some ⟨w.heap.size, 4 + i * 18, none⟩), .pointer (some ⟨w.heap.size, 4 + i * 18 + 1, none⟩), .agg (rowOf 16 (w8 (S.c i).k)), .int .i64 (i : Nat), .pointer (some ⟨w.heap.size, 4, none⟩), .pointer (some ⟨w.heap.size, 4 + i * 18, none⟩), .pointer (some ⟨w.heap.size, 4 + i * 18 + 17, none⟩), .int .u64 ((S.c i).e : Nat)], []⟩ _
      refine wpAnyH_ready (rs := [10]) (by kernel_rfl) (by simp) (AllReadyH.cons rfl (fun K hK => ?_) AllReadyH.nil)
      rw [if_pos (by rfl)]
      have hS2 : RowAt (w4.setRow (w.heap.size + 1) (rowOf 16 (w8 (S.c i).k))) w.heap.size 37 (rowOf 40 (rsF S)) := hS.out.setRowOther (w.heap.size + 1) _ (by omega)
      refine wp_store_row 31 _ _ rfl (w.heap.size + 1) (rowOf 16 (w8 (S.c i).k)) rfl rfl 31 (rowOf 16 (w8 zeroN)) r2.out (info_key _) (by rw [rowOf_size, rowOf_size]) (rowOf_cells8 _ _) (hK.out _ _ hS2 fun _ => ?_)
      change wpAnyH _ _ _ _ _ 2 #[true, true, true, true, true, true, true, true, true, true, true, false, false] ⟨#[.agg (rowOf 40 (rsF S)), .int .i64 (i : Nat), .pointer (some ⟨w.heap.size, 0, none⟩), undef, .pointer (some ⟨w.heap.size + 1, 0, none⟩), .int .u64 0, .int .i64 0, .int .i64 0, .agg (rowOf 40 (rsF S)), .int .i64 (i : Nat), .int .i64 0, .int .i64 0, .bool false, undef, undef, .int .i64 (i : Nat), .pointer (some ⟨w.heap.size, 4, none⟩), .pointer (some ⟨w.heap.size, 4 + i * 18, none⟩), .pointer (some ⟨w.heap.size, 4 + i * 18, none⟩), .bool true, .bool false, undef, .int .i64 (i : Nat), .pointer (some ⟨w.heap.size, 4, none⟩), .pointer (some ⟨w.heap.size, 4 + i * 18, none⟩), .pointer (some ⟨w.heap.size, 4 + i * 18 + 1, none⟩), .agg (rowOf 16 (w8 (S.c i).k)), .int .i64 (i : Nat), .pointer (some ⟨w.heap.size, 4, none⟩), .pointer (some ⟨w.heap.size, 4 + i * 18, none⟩), .pointer (some ⟨w.heap.size, 4 + i * 18 + 17, none⟩), .int .u64 ((S.c i).e : Nat)], []⟩ _
      clear hK K
      replace hS := Lib.hid hS2
      replace r2 := Lib.hid (r2.out.setRow (rowOf 16 (w8 (S.c i).k)))
      replace b0 := below_setRow' b0 (show w.heap.size ≤ w.heap.size + 1 by omega) (rowOf 16 (w8 (S.c i).k))
      clear hS2
      generalize w4.setRow (w.heap.size + 1) (rowOf 16 (w8 (S.c i).k)) = w5 at *
      refine wpAnyH_take (i := 11) (v := .int .u64 ((S.c i).e : Nat)) rfl (by kernel_rfl) (by kernel_rfl) (by kernel_rfl) (fun _ _ _ h => h) (Or.inl ⟨by rfl, fun w' hw' => by go_simp⟩) hS.out ?_
      change wpAnyH _ _ _ _ _ 1 #[true, true, true, true, true, true, true, true, true, true, true, true, false] ⟨#[.agg (rowOf 40 (rsF S)), .int .i64 (i : Nat), .pointer (some ⟨w.heap.size, 0, none⟩), undef, .pointer (some ⟨w.heap.size + 1, 0, none⟩), .int .u64 ((S.c i).e : Nat), .int .i64 0, .int .i64 0, .agg (rowOf 40 (rsF S)), .int .i64 (i : Nat), .int .i64 0, .int .i64 0, .bool false, undef, undef, .int .i64 (i : Nat), .pointer (some ⟨w.heap.size, 4, none⟩), .pointer (some ⟨w.heap.size, 4 + i * 18, none⟩), .pointer (some ⟨w.heap.size, 4 + i * 18, none⟩), .bool true, .bool false, undef, .int .i64 (i : Nat), .pointer (some ⟨w.heap.size, 4, none⟩), .pointer (some ⟨w.heap.size, 4 + i * 18, none⟩), .pointer (some ⟨w.heap.size, 4 + i * 18 + 1, none⟩), .agg (rowOf 16 (w8 (S.c i).k)), .int .i64 (i : Nat), .pointer (some ⟨w.heap.size, 4, none⟩), .pointer (some ⟨w.heap.size, 4 + i * 18, none⟩), .pointer (some ⟨w.heap.size, 4 + i * 18 + 17, none⟩), .int .u64 ((S.c i).e : Nat)], []⟩ _
      refine wpAnyH_take (i := 12) (v := .int .i64 0) rfl (by kernel_rfl) (by kernel_rfl) (by kernel_rfl) (fun _ _ _ h => h) (Or.inl ⟨by rfl, fun w' hw' => by go_simp⟩) hS.out ?_
      change wpAnyH _ _ _ _ _ 0 #[true, true, true, true, true, true, true, true, true, true, true, true, true] ⟨#[.agg (rowOf 40 (rsF S)), .int .i64 (i : Nat), .pointer (some ⟨w.heap.size, 0, none⟩), undef, .pointer (some ⟨w.heap.size + 1, 0, none⟩), .int .u64 ((S.c i).e : Nat), .int .i64 0, .int .i64 0, .agg (rowOf 40 (rsF S)), .int .i64 (i : Nat), .int .i64 0, .int .i64 0, .bool false, undef, undef, .int .i64 (i : Nat), .pointer (some ⟨w.heap.size, 4, none⟩), .pointer (some ⟨w.heap.size, 4 + i * 18, none⟩), .pointer (some ⟨w.heap.size, 4 + i * 18, none⟩), .bool true, .bool false, undef, .int .i64 (i : Nat), .pointer (some ⟨w.heap.size, 4, none⟩), .pointer (some ⟨w.heap.size, 4 + i * 18, none⟩), .pointer (some ⟨w.heap.size, 4 + i * 18 + 1, none⟩), .agg (rowOf 16 (w8 (S.c i).k)), .int .i64 (i : Nat), .pointer (some ⟨w.heap.size, 4, none⟩), .pointer (some ⟨w.heap.size, 4 + i * 18, none⟩), .pointer (some ⟨w.heap.size, 4 + i * 18 + 17, none⟩), .int .u64 ((S.c i).e : Nat)], []⟩ _
      refine wpAnyH_done (by kernel_rfl) ?_ _
      clear hS
      go_wp2
      refine bodyPost_ret (v := .tuple #[.agg (rowOf 16 (w8 (S.c i).k)), .int .u64 ((S.c i).e : Nat), .int .i64 0]) ?_ rfl ⟨by rw [eV.out], b0⟩
      exact results_row_two' Try.results26 _ _ (w.heap.size + 1) 31 (rowOf 16 (w8 (S.c i).k)) (0, 0) _ rfl r2.out Try.underlying31 rfl (info_key _)
  · rw [wrong_read hE]
    obtain ⟨x, hx⟩ : ∃ x : Int, ((wrongE S z : Nat) : Int) = x := ⟨_, rfl⟩
    have n0 : (x != 0) = true := ne_lit (by omega)
    rw [hx] at W ⊢
    clear hE hx
    go_enter Try.func26, Try.ntmps26
    go_wp2_with (first | (refine wpList_new rfl (run_allocKey rfl _) ?_; rw [← hw2.out]) | (refine wpList_load_row rfl 37 _ rfl w.heap.size rfl 37 (rowOf 40 (rsF S)) (0, 0) _ r1.out Try.underlying37 rfl (infoRef _) ?_))
    refine W.out.mono ?_
    rintro e w3 ⟨rfl, b3⟩
    replace r1 := Lib.hid (r1.out.below b3 r1.out.lt)
    replace r2 := Lib.hid (r2.out.below b3 r2.out.lt)
    replace b0 := b0.trans (b3.mono b0.size)
    clear b3 W hw2
    go_wp2_with (refine wpList_buildTo rfl 31 _ rfl _ rfl (rowOf 16 (w8 zeroN)) (by kernel_rfl) ?_; refine wpList_known rfl (by rfl) ?_; refine wpList_store_row rfl 31 _ _ rfl (w.heap.size + 1) (rowOf 16 (w8 zeroN)) rfl rfl 31 _ r2.out (info_key _) rfl (rowOf_cells8 _ _) ?_)
    refine bodyPost_ret (v := .tuple #[.agg (rowOf 16 (w8 zeroN)), .int .u64 0, .int .i64 x]) ?_ rfl ⟨rfl, below_setRow' b0 (by omega) _⟩
    exact results_row_two' Try.results26 _ _ (w.heap.size + 1) 31 (rowOf 16 (w8 zeroN)) (0, 0) _ rfl (r2.out.setRow _) Try.underlying31 rfl (info_key _)

end Go.Proofs.Ytopajipagacmkaa
