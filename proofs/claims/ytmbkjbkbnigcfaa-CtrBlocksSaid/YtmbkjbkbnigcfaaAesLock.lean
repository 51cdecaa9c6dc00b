/-
  Contract: Lock.
-/
import Derived.Test.YtmbkjbkbnigcfaaAesWorld
namespace Go.Proofs.Ytmbkjbkbnigcfaa
open Go.RowKit

set_option maxHeartbeats 2000000 in
set_option maxRecDepth 8000 in
theorem lock_any (p : Nat) (key b : Nat → Nat) (hk : Hid (Byt key)) (hb : Hid (Byt b)) (w : World) (hc : Hid (Cip w p key)) :
    Calls Try.prog 25 #[.pointer (some ⟨p, 0, none⟩), .agg (rowOf 16 (w8 b))] w fun e w' => e = .returned (.agg (rowOf 16 (w8 (lockN key b)))) ∧ Made w' p key ∧ Apart p w w' := by
  have D := Lib.hid (do_any p key hk.out _ (cip_new p key b w hc.out))
  have st := Lib.hid (fun w2 => lk_start p key b w w2 hc.out)
  have K0 := Lib.hid (rk_byt hk.out 0)
  rw [z8_16] at D
  go_enter Try.func25, Try.ntmps25
  go_wp2_with fail
  refine D.out.mono ?_
  rintro e w2 ⟨rfl, hm, ha⟩
  rw [← z8_16] at ha
  have hI := Lib.hid (st.out w2 hm ha)
  clear D st hm ha hc
  go_wp2
  refine wp_region_rely_tail 7 (LkI w p w.heap.size (w.heap.size + 1) key b) [eqv (.agg (rowOf 16 (w8 b))), eqv (.pointer (some ⟨p, 0, none⟩)), eqv (.pointer (some ⟨p, 0, none⟩)), eqv (.pointer (some ⟨p, 3, none⟩)), eqv (.pointer (some ⟨p, 3, none⟩)), eqv (.agg (rowOf 16 (w8 (rkN key 0)))), eqv (.agg (rowOf 16 (w8 (aAdd b (rkN key 0)))))] (by kernel_rfl) (by kernel_rfl) hI.out.drew
    (.cons (steady_eqv _) (.cons (steady_eqv _) (.cons (steady_eqv _) (.cons (steady_eqv _) (.cons (steady_eqv _) (.cons (steady_eqv _) (.cons (steady_eqv _) .nil))))))) ?_
  intro R hR
  simp only [List.take_succ_cons, List.take_zero, List.drop_succ_cons, List.drop_zero]
  refine wpRely_cons (fun w' hC hf => ?_) (fun v0 => ?_)
  · (repeat (first | (obtain ⟨rfl, hf⟩ := hf) | (obtain ⟨⟨q, rfl, hq⟩, hf⟩ := hf) | (obtain ⟨_, hf⟩ := hf)))
    exact grows_load (by rfl) hC rfl rfl (hC.blk) Try.underlying23 rfl (info_key _)
  simp only [Act.put, List.setIfInBounds_toArray, List.set_cons_succ, List.set_cons_zero, List.nil_append]
  refine wpRely_cons (fun w' hC hf => ?_) (fun v1 => ?_)
  · (repeat (first | (obtain ⟨rfl, hf⟩ := hf) | (obtain ⟨⟨q, rfl, hq⟩, hf⟩ := hf) | (obtain ⟨_, hf⟩ := hf)))
    exact grows_eqv (by rfl) hC (by go_simp)
  simp only [Act.put, List.setIfInBounds_toArray, List.set_cons_succ, List.set_cons_zero, List.nil_append, List.cons_append]
  refine wpRely_cons (fun w' hC hf => ?_) (fun v2 => ?_)
  · (repeat (first | (obtain ⟨rfl, hf⟩ := hf) | (obtain ⟨⟨q, rfl, hq⟩, hf⟩ := hf) | (obtain ⟨_, hf⟩ := hf)))
    exact grows_eqv (by rfl) hC (by go_simp)
  simp only [Act.put, List.setIfInBounds_toArray, List.set_cons_succ, List.set_cons_zero, List.nil_append, List.cons_append]
  refine wpRely_cons (fun w' hC hf => ?_) (fun v3 => ?_)
  · (repeat (first | (obtain ⟨rfl, hf⟩ := hf) | (obtain ⟨⟨q, rfl, hq⟩, hf⟩ := hf) | (obtain ⟨_, hf⟩ := hf)))
    exact grows_eqv (by rfl) hC (by go_simp)
  simp only [Act.put, List.setIfInBounds_toArray, List.set_cons_succ, List.set_cons_zero, List.nil_append, List.cons_append]
  refine wpRely_cons (fun w' hC hf => ?_) (fun v4 => ?_)
  · (repeat (first | (obtain ⟨rfl, hf⟩ := hf) | (obtain ⟨⟨q, rfl, hq⟩, hf⟩ := hf) | (obtain ⟨_, hf⟩ := hf)))
    exact grows_eqv (by rfl) hC (by go_simp)
  simp only [Act.put, List.setIfInBounds_toArray, List.set_cons_succ, List.set_cons_zero, List.nil_append, List.cons_append]
  refine wpRely_cons (fun w' hC hf => ?_) (fun v5 => ?_)
  · (repeat (first | (obtain ⟨rfl, hf⟩ := hf) | (obtain ⟨⟨q, rfl, hq⟩, hf⟩ := hf) | (obtain ⟨_, hf⟩ := hf)))
    exact grows_load_at (by rfl) hC rfl rfl hC.made (hC.round 0 (by omega)) Try.underlying23 rfl (by kernel_rfl)
  simp only [Act.put, List.setIfInBounds_toArray, List.set_cons_succ, List.set_cons_zero, List.nil_append, List.cons_append]
  refine wpRely_cons (fun w' hC hf => ?_) (fun v6 => ?_)
  · (repeat (first | (obtain ⟨rfl, hf⟩ := hf) | (obtain ⟨⟨q, rfl, hq⟩, hf⟩ := hf) | (obtain ⟨_, hf⟩ := hf)))
    exact grows_calls hR (fun _ _ hb h => h.after hb) hC (by rfl) (by go_simp) (sum_keys b (rkN key 0) hb K0 w')
  simp only [Act.put, List.setIfInBounds_toArray, List.set_cons_succ, List.set_cons_zero, List.nil_append, List.cons_append]
  refine wpRely_nil fun w9 hC hf => ?_
  obtain ⟨_, _, _, _, _, _, rfl, _⟩ := hf
  replace hI := Lib.hid hC
  clear hC
  refine wpList_store_row rfl 23 _ _ rfl w.heap.size (rowOf 16 (w8 (aAdd b (rkN key 0)))) rfl rfl 23 _ hI.out.blk (info_key _) (by rw [rowOf_size, rowOf_size]) (rowOf_cells8 _ _) ?_
  replace hI := Lib.hid (hI.out.store (aAdd b (rkN key 0)))
  generalize World.setRow _ _ _ = w5 at *
  clear K0
  go_wp2
  go_loopw [5] (fun i wr => ∃ k i' : Nat, i' = k + 1 ∧ k ≤ 10 ∧ i = .int .i64 i' ∧ Hid (LkI w p w.heap.size (w.heap.size + 1) key (lockTo key b k) wr))
    (fun i _ => 11 - (intOf i).toNat)
  case atStart => exact ⟨0, 1, rfl, by omega, rfl, hI⟩
  case round =>
    clear hI
    obtain ⟨k, i, hi, hk10, rfl, hI⟩ := hrel
    by_cases hlt : k < 10
    · have BS := Lib.hid (lockTo_byt hk.out hb.out k)
      have BK := Lib.hid (rk_byt hk.out i)
      have L1 : Hid (lockTo key b i = roundS (lockTo key b k) (rkN key i) (decide (i = 10))) := by unfold Hid; rw [hi]; rfl
      generalize lockTo key b k = s at *
      have d0 : decide ((i : Int) ≤ 10) = true := decide_eq_true (by omega)
      have i10 : i ≤ 10 := by omega
      have li : (i : Int) < 11 := by omega
      have hi1 : 1 ≤ i := by omega
      clear hi hk10 hlt
      go_wp2_with (refine wpList_load_row rfl 23 _ rfl w.heap.size rfl 23 _ (0, 0) _ hI.out.blk Try.underlying23 rfl (info_key _) ?_)
      go_loopw [26] (fun x wr' => ∃ j : Nat, j ≤ 16 ∧ x = .int .i64 j ∧ Hid (LkI w p w.heap.size (w.heap.size + 1) key (part (aSub s) s j) wr'))
        (fun x _ => 16 - (intOf x).toNat)
      case atStart => exact ⟨0, by omega, rfl, by rw [part_zero]; exact hI⟩
      case round =>
        clear hI
        obtain ⟨j, hj, rfl, hI⟩ := hrel
        by_cases hlj : j < 16
        · have ix : (Instr.index 23 (.agg (rowOf 16 (w8 s))) (.int .i64 (j : Int))).run Try.prog wr = .ok (.int .u8 ((s j : Nat) : Int)) wr := run_index_row wr 23 5 16 (w8 s) .i64 j Try.underlying23 sz8 plain8 hlj
          have T := Lib.hid (box_any (s j) (BS.out j) wr)
          have c0 := hI.out.blk.cell j hlj
          have f0 := hI.out.blk.free j
          have lj : (j : Int) < 16 := by omega
          go_wp2_with fail
          refine T.out.mono ?_
          rintro e w' ⟨rfl, rfl⟩
          clear T ix
          go_wp2
          go_roundw
          case rel => exact ⟨j + 1, by omega, by go_num, hI.out.cell⟩
          case measure => simp [intOf]; omega
        · have : j = 16 := by omega
          subst this
          replace hI := Lib.hid (hI.out.congr (t := aSub s) fun j hj => part_below _ _ _ _ hj)
          have T := Lib.hid (fun w' => turned_any (aSub s) 1 (by decide) w')
          rw [turn_one] at T
          go_wp2_with (refine wpList_load_row rfl 23 _ rfl w.heap.size rfl 23 _ (0, 0) _ hI.out.blk Try.underlying23 rfl (info_key _) ?_)
          refine (T.out _).mono ?_
          rintro e w3 ⟨rfl, hb3⟩
          clear T
          replace hI := Lib.hid (hI.out.after hb3)
          clear hb3
          by_cases h10 : i < 10
          · have d1 : decide ((i : Int) < 10) = true := decide_eq_true (by omega)
            have d2 : decide (i = 10) = false := decide_eq_false (by omega)
            rw [d2] at L1
            have T2 := Lib.hid (fun w' => mixed_keys (aShift (aSub s)) wLock (Lib.hid (aShift_byt (aSub_byt s))) (Lib.hid wLock_byt) w')
            rw [mixM_lock (aShift_byt (aSub_byt s))] at T2
            go_wp2_with (first | (refine wpList_store_row rfl 23 _ _ rfl w.heap.size (rowOf 16 (w8 (aShift (aSub s)))) rfl rfl 23 _ hI.out.blk (info_key _) (by rw [rowOf_size, rowOf_size]) (rowOf_cells8 _ _) ?_) | (refine wpList_load_row rfl 23 _ rfl w.heap.size rfl 23 _ (0, 0) _ (hI.out.store (aShift (aSub s))).blk Try.underlying23 rfl (info_key _) ?_) | (refine wpList_buildTo rfl 75 _ rfl _ rfl (rowOf 4 (w8 wLock)) (by kernel_rfl) ?_))
            replace hI := Lib.hid (hI.out.store (aShift (aSub s)))
            generalize World.setRow _ _ _ = w5 at *
            refine (T2.out _).mono ?_
            rintro e w4 ⟨rfl, hb4⟩
            clear T2
            replace hI := Lib.hid (hI.out.after hb4)
            clear hb4
            go_wp2_with (refine wpList_store_row rfl 23 _ _ rfl w.heap.size (rowOf 16 (w8 (aMix (aShift (aSub s))))) rfl rfl 23 _ hI.out.blk (info_key _) (by rw [rowOf_size, rowOf_size]) (rowOf_cells8 _ _) ?_)
            replace hI := Lib.hid (hI.out.store (aMix (aShift (aSub s))))
            generalize World.setRow _ _ _ = w5 at *
            have BT := Lib.hid (aMix_byt (aShift_byt (aSub_byt s)))
            refine wp_region_rely_tail 8 (LkI w p w.heap.size (w.heap.size + 1) key (aMix (aShift (aSub s)))) [eqv (.agg (rowOf 16 (w8 (aMix (aShift (aSub s)))))), eqv (.pointer (some ⟨p, 0, none⟩)), eqv (.int .i64 (i : Int)), eqv (.pointer (some ⟨p, 0, none⟩)), eqv (.pointer (some ⟨p, 3, none⟩)), eqv (.pointer (some ⟨p, 3 + i * 16, none⟩)), eqv (.agg (rowOf 16 (w8 (rkN key i)))), eqv (.agg (rowOf 16 (w8 (aAdd (aMix (aShift (aSub s))) (rkN key i)))))] (by kernel_rfl) (by kernel_rfl) hI.out.drew
              (.cons (steady_eqv _) (.cons (steady_eqv _) (.cons (steady_eqv _) (.cons (steady_eqv _) (.cons (steady_eqv _) (.cons (steady_eqv _) (.cons (steady_eqv _) (.cons (steady_eqv _) .nil)))))))) ?_
            intro R hR
            simp only [List.take_succ_cons, List.take_zero, List.drop_succ_cons, List.drop_zero]
            refine wpRely_cons (fun w' hC hf => ?_) (fun v0 => ?_)
            · (repeat (first | (obtain ⟨rfl, hf⟩ := hf) | (obtain ⟨⟨q, rfl, hq⟩, hf⟩ := hf) | (obtain ⟨_, hf⟩ := hf)))
              exact grows_load (by rfl) hC rfl rfl (hC.blk) Try.underlying23 rfl (info_key _)
            simp only [Act.put, List.setIfInBounds_toArray, List.set_cons_succ, List.set_cons_zero, List.nil_append]
            refine wpRely_cons (fun w' hC hf => ?_) (fun v1 => ?_)
            · (repeat (first | (obtain ⟨rfl, hf⟩ := hf) | (obtain ⟨⟨q, rfl, hq⟩, hf⟩ := hf) | (obtain ⟨_, hf⟩ := hf)))
              exact grows_eqv (by rfl) hC (by go_simp)
            simp only [Act.put, List.setIfInBounds_toArray, List.set_cons_succ, List.set_cons_zero, List.nil_append, List.cons_append]
            refine wpRely_cons (fun w' hC hf => ?_) (fun v2 => ?_)
            · (repeat (first | (obtain ⟨rfl, hf⟩ := hf) | (obtain ⟨⟨q, rfl, hq⟩, hf⟩ := hf) | (obtain ⟨_, hf⟩ := hf)))
              exact grows_eqv (by rfl) hC (by go_simp)
            simp only [Act.put, List.setIfInBounds_toArray, List.set_cons_succ, List.set_cons_zero, List.nil_append, List.cons_append]
            refine wpRely_cons (fun w' hC hf => ?_) (fun v3 => ?_)
            · (repeat (first | (obtain ⟨rfl, hf⟩ := hf) | (obtain ⟨⟨q, rfl, hq⟩, hf⟩ := hf) | (obtain ⟨_, hf⟩ := hf)))
              exact grows_eqv (by rfl) hC (by go_simp)
            simp only [Act.put, List.setIfInBounds_toArray, List.set_cons_succ, List.set_cons_zero, List.nil_append, List.cons_append]
            refine wpRely_cons (fun w' hC hf => ?_) (fun v4 => ?_)
            · (repeat (first | (obtain ⟨rfl, hf⟩ := hf) | (obtain ⟨⟨q, rfl, hq⟩, hf⟩ := hf) | (obtain ⟨_, hf⟩ := hf)))
              exact grows_eqv (by rfl) hC (by go_simp)
            simp only [Act.put, List.setIfInBounds_toArray, List.set_cons_succ, List.set_cons_zero, List.nil_append, List.cons_append]
            refine wpRely_cons (fun w' hC hf => ?_) (fun v5 => ?_)
            · (repeat (first | (obtain ⟨rfl, hf⟩ := hf) | (obtain ⟨⟨q, rfl, hq⟩, hf⟩ := hf) | (obtain ⟨_, hf⟩ := hf)))
              exact grows_eqv (by rfl) hC (by go_simp)
            simp only [Act.put, List.setIfInBounds_toArray, List.set_cons_succ, List.set_cons_zero, List.nil_append, List.cons_append]
            refine wpRely_cons (fun w' hC hf => ?_) (fun v6 => ?_)
            · (repeat (first | (obtain ⟨rfl, hf⟩ := hf) | (obtain ⟨⟨q, rfl, hq⟩, hf⟩ := hf) | (obtain ⟨_, hf⟩ := hf)))
              exact grows_load_at (by rfl) hC rfl rfl hC.made (hC.round i (by omega)) Try.underlying23 rfl (by kernel_rfl)
            simp only [Act.put, List.setIfInBounds_toArray, List.set_cons_succ, List.set_cons_zero, List.nil_append, List.cons_append]
            refine wpRely_cons (fun w' hC hf => ?_) (fun v7 => ?_)
            · (repeat (first | (obtain ⟨rfl, hf⟩ := hf) | (obtain ⟨⟨q, rfl, hq⟩, hf⟩ := hf) | (obtain ⟨_, hf⟩ := hf)))
              exact grows_calls hR (fun _ _ hb h => h.after hb) hC (by rfl) (by go_simp) (sum_keys (aMix (aShift (aSub s))) (rkN key i) BT BK w')
            simp only [Act.put, List.setIfInBounds_toArray, List.set_cons_succ, List.set_cons_zero, List.nil_append, List.cons_append]
            refine wpRely_nil fun w9 hC hf => ?_
            obtain ⟨_, _, _, _, _, _, _, rfl, _⟩ := hf
            replace hI := Lib.hid hC
            clear hC
            refine wpList_store_row rfl 23 _ _ rfl w.heap.size (rowOf 16 (w8 (aAdd (aMix (aShift (aSub s))) (rkN key i)))) rfl rfl 23 _ hI.out.blk (info_key _) (by rw [rowOf_size, rowOf_size]) (rowOf_cells8 _ _) ?_
            replace hI := Lib.hid (hI.out.store (aAdd (aMix (aShift (aSub s))) (rkN key i)))
            generalize World.setRow _ _ _ = w5 at *
            rw [show aAdd (aMix (aShift (aSub s))) (rkN key i) = lockTo key b i from L1.out.symm] at hI
            clear L1
            go_wp2
            go_roundw
            case rel => exact ⟨i, i + 1, rfl, i10, by go_num, hI⟩
            case measure => simp [intOf]; omega
          · have d1 : decide ((i : Int) < 10) = false := decide_eq_false (by omega)
            have d2 : decide (i = 10) = true := decide_eq_true (by omega)
            rw [d2] at L1
            go_wp2_with (refine wpList_store_row rfl 23 _ _ rfl w.heap.size (rowOf 16 (w8 (aShift (aSub s)))) rfl rfl 23 _ hI.out.blk (info_key _) (by rw [rowOf_size, rowOf_size]) (rowOf_cells8 _ _) ?_)
            replace hI := Lib.hid (hI.out.store (aShift (aSub s)))
            generalize World.setRow _ _ _ = w5 at *
            have BT := Lib.hid (aShift_byt (aSub_byt s))
            refine wp_region_rely_tail 8 (LkI w p w.heap.size (w.heap.size + 1) key (aShift (aSub s))) [eqv (.agg (rowOf 16 (w8 (aShift (aSub s))))), eqv (.pointer (some ⟨p, 0, none⟩)), eqv (.int .i64 (i : Int)), eqv (.pointer (some ⟨p, 0, none⟩)), eqv (.pointer (some ⟨p, 3, none⟩)), eqv (.pointer (some ⟨p, 3 + i * 16, none⟩)), eqv (.agg (rowOf 16 (w8 (rkN key i)))), eqv (.agg (rowOf 16 (w8 (aAdd (aShift (aSub s)) (rkN key i)))))] (by kernel_rfl) (by kernel_rfl) hI.out.drew
              (.cons (steady_eqv _) (.cons (steady_eqv _) (.cons (steady_eqv _) (.cons (steady_eqv _) (.cons (steady_eqv _) (.cons (steady_eqv _) (.cons (steady_eqv _) (.cons (steady_eqv _) .nil)))))))) ?_
            intro R hR
            simp only [List.take_succ_cons, List.take_zero, List.drop_succ_cons, List.drop_zero]
            refine wpRely_cons (fun w' hC hf => ?_) (fun v0 => ?_)
            · (repeat (first | (obtain ⟨rfl, hf⟩ := hf) | (obtain ⟨⟨q, rfl, hq⟩, hf⟩ := hf) | (obtain ⟨_, hf⟩ := hf)))
              exact grows_load (by rfl) hC rfl rfl (hC.blk) Try.underlying23 rfl (info_key _)
            simp only [Act.put, List.setIfInBounds_toArray, List.set_cons_succ, List.set_cons_zero, List.nil_append]
            refine wpRely_cons (fun w' hC hf => ?_) (fun v1 => ?_)
            · (repeat (first | (obtain ⟨rfl, hf⟩ := hf) | (obtain ⟨⟨q, rfl, hq⟩, hf⟩ := hf) | (obtain ⟨_, hf⟩ := hf)))
              exact grows_eqv (by rfl) hC (by go_simp)
            simp only [Act.put, List.setIfInBounds_toArray, List.set_cons_succ, List.set_cons_zero, List.nil_append, List.cons_append]
            refine wpRely_cons (fun w' hC hf => ?_) (fun v2 => ?_)
            · (repeat (first | (obtain ⟨rfl, hf⟩ := hf) | (obtain ⟨⟨q, rfl, hq⟩, hf⟩ := hf) | (obtain ⟨_, hf⟩ := hf)))
              exact grows_eqv (by rfl) hC (by go_simp)
            simp only [Act.put, List.setIfInBounds_toArray, List.set_cons_succ, List.set_cons_zero, List.nil_append, List.cons_append]
            refine wpRely_cons (fun w' hC hf => ?_) (fun v3 => ?_)
            · (repeat (first | (obtain ⟨rfl, hf⟩ := hf) | (obtain ⟨⟨q, rfl, hq⟩, hf⟩ := hf) | (obtain ⟨_, hf⟩ := hf)))
              exact grows_eqv (by rfl) hC (by go_simp)
            simp only [Act.put, List.setIfInBounds_toArray, List.set_cons_succ, List.set_cons_zero, List.nil_append, List.cons_append]
            refine wpRely_cons (fun w' hC hf => ?_) (fun v4 => ?_)
            · (repeat (first | (obtain ⟨rfl, hf⟩ := hf) | (obtain ⟨⟨q, rfl, hq⟩, hf⟩ := hf) | (obtain ⟨_, hf⟩ := hf)))
              exact grows_eqv (by rfl) hC (by go_simp)
            simp only [Act.put, List.setIfInBounds_toArray, List.set_cons_succ, List.set_cons_zero, List.nil_append, List.cons_append]
            refine wpRely_cons (fun w' hC hf => ?_) (fun v5 => ?_)
            · (repeat (first | (obtain ⟨rfl, hf⟩ := hf) | (obtain ⟨⟨q, rfl, hq⟩, hf⟩ := hf) | (obtain ⟨_, hf⟩ := hf)))
              exact grows_eqv (by rfl) hC (by go_simp)
            simp only [Act.put, List.setIfInBounds_toArray, List.set_cons_succ, List.set_cons_zero, List.nil_append, List.cons_append]
            refine wpRely_cons (fun w' hC hf => ?_) (fun v6 => ?_)
            · (repeat (first | (obtain ⟨rfl, hf⟩ := hf) | (obtain ⟨⟨q, rfl, hq⟩, hf⟩ := hf) | (obtain ⟨_, hf⟩ := hf)))
              exact grows_load_at (by rfl) hC rfl rfl hC.made (hC.round i (by omega)) Try.underlying23 rfl (by kernel_rfl)
            simp only [Act.put, List.setIfInBounds_toArray, List.set_cons_succ, List.set_cons_zero, List.nil_append, List.cons_append]
            refine wpRely_cons (fun w' hC hf => ?_) (fun v7 => ?_)
            · (repeat (first | (obtain ⟨rfl, hf⟩ := hf) | (obtain ⟨⟨q, rfl, hq⟩, hf⟩ := hf) | (obtain ⟨_, hf⟩ := hf)))
              exact grows_calls hR (fun _ _ hb h => h.after hb) hC (by rfl) (by go_simp) (sum_keys (aShift (aSub s)) (rkN key i) BT BK w')
            simp only [Act.put, List.setIfInBounds_toArray, List.set_cons_succ, List.set_cons_zero, List.nil_append, List.cons_append]
            refine wpRely_nil fun w9 hC hf => ?_
            obtain ⟨_, _, _, _, _, _, _, rfl, _⟩ := hf
            replace hI := Lib.hid hC
            clear hC
            refine wpList_store_row rfl 23 _ _ rfl w.heap.size (rowOf 16 (w8 (aAdd (aShift (aSub s)) (rkN key i)))) rfl rfl 23 _ hI.out.blk (info_key _) (by rw [rowOf_size, rowOf_size]) (rowOf_cells8 _ _) ?_
            replace hI := Lib.hid (hI.out.store (aAdd (aShift (aSub s)) (rkN key i)))
            generalize World.setRow _ _ _ = w5 at *
            rw [show aAdd (aShift (aSub s)) (rkN key i) = lockTo key b i from L1.out.symm] at hI
            clear L1
            go_wp2
            go_roundw
            case rel => exact ⟨i, i + 1, rfl, i10, by go_num, hI⟩
            case measure => simp [intOf]; omega
    · have : k = 10 := by omega
      subst this
      have : i = 11 := by omega
      subst this
      replace hI : Hid (LkI w p w.heap.size (w.heap.size + 1) key (lockN key b) wr) := hI
      go_wp2_with (first | (refine wpList_load_row rfl 23 _ rfl w.heap.size rfl 23 _ (0, 0) _ hI.out.blk Try.underlying23 rfl (info_key _) ?_) | (refine wpList_store_row rfl 23 _ _ rfl (w.heap.size + 1) (rowOf 16 (w8 (lockN key b))) rfl rfl 23 _ hI.out.room (info_key _) (by rw [rowOf_size, rowOf_size]) (rowOf_cells8 _ _) ?_))
      refine bodyPost_ret (v := .agg (rowOf 16 (w8 (lockN key b)))) ?_ rfl ⟨rfl, hI.out.endMade _, hI.out.endApart _⟩
      exact results_cell_row Try.results25 _ _ (w.heap.size + 1) 23 (rowOf 16 (w8 (lockN key b))) (0, 0) _ rfl (hI.out.room.setRow _) Try.underlying23 rfl (info_key _)

/-- Of a cipher whose round keys are made nothing turns. -/
theorem lock_made (p : Nat) (key b : Nat → Nat) (hk : Hid (Byt key)) (hb : Hid (Byt b)) (w : World) (hm : Hid (Made w p key)) :
    Calls Try.prog 25 #[.pointer (some ⟨p, 0, none⟩), .agg (rowOf 16 (w8 b))] w fun e w' => e = .returned (.agg (rowOf 16 (w8 (lockN key b)))) ∧ Below w.heap.size w w' :=
  (lock_any p key b hk hb w (Or.inr hm.out)).mono fun _ _ ⟨he, h1, h2⟩ => ⟨he, h2.same hm.out h1⟩

end Go.Proofs.Ytmbkjbkbnigcfaa
