/-
  Contract: Open.
-/
import Derived.Test.YtelalcgmecianaaAesWorld
namespace Go.Proofs.Ytelalcgmecianaa
open Go.RowKit

/-- Beside it, the table of what undoes the boxes, at u. -/
structure OpI (w : World) (p q r u : Nat) (key s : Nat → Nat) (w' : World) : Prop where
  lk : LkI w p q r key s w'
  tab : RowAt w' u 32 (rowOf 256 (w8 unboxN))
  hu : w.heap.size ≤ u
  hqu : q ≠ u
  hru : r ≠ u

section
variable {w w1 w2 : World} {p q r u : Nat} {key s : Nat → Nat}
theorem OpI.after (hb : Below w1.heap.size w1 w2) (h : OpI w p q r u key s w1) : OpI w p q r u key s w2 := ⟨h.lk.after hb, h.tab.below hb h.tab.lt, h.hu, h.hqu, h.hru⟩
theorem OpI.drew (h : OpI w p q r u key s w1) : OpI w p q r u key s w1.drew := h.after (Below.refl _ _).drew
theorem OpI.store (h : OpI w p q r u key s w1) (t : Nat → Nat) : OpI w p q r u key t (w1.setRow q (rowOf 16 (w8 t))) := ⟨h.lk.store t, h.tab.setRowOther q _ h.hqu.symm, h.hu, h.hqu, h.hru⟩
theorem OpI.cell {j : Nat} {f g : Nat → Nat} (h : OpI w p q r u key (part f g j) w1) : OpI w p q r u key (part f g (j + 1)) (w1.setCell ⟨q, j, none⟩ (.int .u8 ((f j : Nat) : Int))) :=
  ⟨h.lk.cell, h.tab.setOther _ _ (by show u ≠ q; exact h.hqu.symm), h.hu, h.hqu, h.hru⟩
theorem OpI.congr {t : Nat → Nat} (h : OpI w p q r u key s w1) (e : ∀ j, j < 16 → s j = t j) : OpI w p q r u key t w1 := ⟨h.lk.congr e, h.tab, h.hu, h.hqu, h.hru⟩
end

theorem op_start {w w1 : World} {p : Nat} {key s : Nat → Nat} (h : LkI w p w.heap.size (w.heap.size + 1) key s w1) :
    OpI w p w.heap.size (w.heap.size + 1) w1.heap.size key s ((w1.alloc (.cells (rowOf 256 (w8 zeroN)) 32)).setRow w1.heap.size (rowOf 256 (w8 unboxN))) := by
  have h0 := h.blk.lt
  have h1 := h.room.lt
  have b : Below w1.heap.size w1 ((w1.alloc (.cells (rowOf 256 (w8 zeroN)) 32)).setRow w1.heap.size (rowOf 256 (w8 unboxN))) := below_setRow' ((Below.refl _ _).alloc (Nat.le_refl _) _) (Nat.le_refl _) _
  exact ⟨h.after b, (RowAt.new w1 32 (rowOf 256 (w8 zeroN))).setRow _, by omega, by omega, by omega⟩

theorem unTo_next (key c : Nat → Nat) (k i : Nat) (hi : k + i = 10) : unTo key c (k + 1) = unroundS (unTo key c k) (rkN key i) (decide (i = 10)) := by
  have : 10 - k = i := by omega
  show unroundS (unTo key c k) (rkN key (10 - k)) (decide (10 - k = 10)) = _
  rw [this]

set_option maxHeartbeats 2000000 in
set_option maxRecDepth 8000 in
theorem open_any (p : Nat) (key b : Nat → Nat) (hk : Hid (Byt key)) (hb : Hid (Byt b)) (w : World) (hc : Hid (Cip w p key)) :
    Calls Try.prog 13 #[.pointer (some ⟨p, 0, none⟩), .agg (rowOf 16 (w8 b))] w fun e w' => e = .returned (.agg (rowOf 16 (w8 (openN key b)))) ∧ Made w' p key ∧ Apart p w w' := by
  have D := Lib.hid (do_any p key hk.out _ (cip_new p key b w hc.out))
  have st := Lib.hid (fun w2 => lk_start p key b w w2 hc.out)
  have zv := (zero_of_info zero256).1
  rw [z8_16] at D
  go_enter Try.func13, Try.ntmps13
  go_wp2_with fail
  refine D.out.mono ?_
  rintro e w2 ⟨rfl, hm, ha⟩
  rw [← z8_16] at ha
  have hI := Lib.hid (st.out w2 hm ha)
  clear D st hm ha hc
  go_wp2_with fail
  refine (unboxes_any w2).mono ?_
  rintro e w3 ⟨rfl, hb3⟩
  replace hI := Lib.hid (hI.out.after hb3)
  clear hb3
  have tb := Lib.hid (RowAt.new w3 32 (rowOf 256 (w8 zeroN)))
  replace hI := Lib.hid (op_start hI.out)
  go_wp2_with (refine wpList_store_row rfl 32 _ _ rfl w3.heap.size (rowOf 256 (w8 unboxN)) rfl rfl 32 _ tb.out (info_256 _) (by rw [rowOf_size, rowOf_size]) (rowOf_cells8 _ _) ?_)
  clear zv tb
  generalize w3.heap.size = u at *
  generalize World.setRow _ _ _ = w5 at *
  go_loopw [6] (fun x wr => ∃ (k i : Nat), k + i = 10 ∧ x = .int .i64 i ∧ Hid (OpI w p w.heap.size (w.heap.size + 1) u key (unTo key b k) wr))
    (fun x _ => (intOf x).toNat)
  case atStart => exact ⟨0, 10, rfl, rfl, hI⟩
  case round =>
    clear hI
    obtain ⟨k, i, hi, rfl, hI⟩ := hrel
    by_cases hlt : 1 ≤ i
    · have BS := Lib.hid (unTo_byt hb.out (key := key) k)
      have BK := Lib.hid (rk_byt hk.out i)
      have L1 := Lib.hid (unTo_next key b k i hi)
      generalize unTo key b k = s at *
      have d0 : decide ((1 : Int) ≤ (i : Int)) = true := decide_eq_true (by omega)
      have i10 : i ≤ 10 := by omega
      have li : (i : Int) < 11 := by omega
      obtain ⟨i', hi'⟩ : ∃ i', i = i' + 1 := ⟨i - 1, by omega⟩
      have ei : (i : Int) - 1 = (i' : Int) := by omega
      have HI : Hid (k + 1 + i' = 10) := by unfold Hid; omega
      have ML : Hid (i' < i) := by unfold Hid; omega
      clear hi hi' hlt
      go_wp2
      refine wp_region_rely_tail 8 (OpI w p w.heap.size (w.heap.size + 1) u key s) [eqv (.agg (rowOf 16 (w8 s))), eqv (.pointer (some ⟨p, 0, none⟩)), eqv (.int .i64 (i : Int)), eqv (.pointer (some ⟨p, 0, none⟩)), eqv (.pointer (some ⟨p, 3, none⟩)), eqv (.pointer (some ⟨p, 3 + i * 16, none⟩)), eqv (.agg (rowOf 16 (w8 (rkN key i)))), eqv (.agg (rowOf 16 (w8 (aAdd s (rkN key i)))))] (by kernel_rfl) (by kernel_rfl) hI.out.drew
        (.cons (steady_eqv _) (.cons (steady_eqv _) (.cons (steady_eqv _) (.cons (steady_eqv _) (.cons (steady_eqv _) (.cons (steady_eqv _) (.cons (steady_eqv _) (.cons (steady_eqv _) .nil)))))))) ?_
      intro R hR
      simp only [List.take_succ_cons, List.take_zero, List.drop_succ_cons, List.drop_zero]
      refine wpRely_cons (fun w' hC hf => ?_) (fun v0 => ?_)
      · (repeat (first | (obtain ⟨rfl, hf⟩ := hf) | (obtain ⟨⟨q, rfl, hq⟩, hf⟩ := hf) | (obtain ⟨_, hf⟩ := hf)))
        exact grows_load (by rfl) hC rfl rfl (hC.lk.blk) Try.underlying23 rfl (info_key _)
      simp only [Act.put, List.setIfInBounds_toArray, List.set_cons_succ, List.set_cons_zero, List.nil_append]
      refine wpRely_cons (fun w' hC hf => ?_) (fun v1 => ?_)
      · (repeat (first | (obtain ⟨rfl, hf⟩ := hf) | (obtain ⟨⟨q, rfl, hq⟩, hf⟩ := hf) | (obtain ⟨_, hf⟩ := hf)))
        exact grows_eqv (by rfl) hC (by go_simp)
      simp only [Act.put, List.setIfInBounds_toArray, List.set_cons_succ, List.set_cons_zero, List.nil_append, List.cons_append]
      refine wpRely_cons (fun w' hC hf => ?_) (fun v2 => ?_)
      · (repeat (first | (obtain ⟨rfl, hf⟩ := hf) | (obtain ⟨⟨q, rfl, hq⟩, hf⟩ := hf) | (obtain ⟨_, hf⟩ := hf)))
        exact grows_eqv (by rfl) hC (by go_simp)
      simp only [Act.put, List.setIfInBounds_toArray, List.set_cons_succ, List.set_cons_zero, List.nil_append, List.cons_append]
      refine wpRely_cons (fun w' hC hf => ?_) (fun v3 => ?_)
      · (repeat (first | (obtain ⟨rfl, hf⟩ := hf) | (obtain ⟨⟨q, rfl, hq⟩, hf⟩ := hf) | (obtain ⟨_, hf⟩ := hf)))
        exact grows_eqv (by rfl) hC (by go_simp)
      simp only [Act.put, List.setIfInBounds_toArray, List.set_cons_succ, List.set_cons_zero, List.nil_append, List.cons_append]
      refine wpRely_cons (fun w' hC hf => ?_) (fun v4 => ?_)
      · (repeat (first | (obtain ⟨rfl, hf⟩ := hf) | (obtain ⟨⟨q, rfl, hq⟩, hf⟩ := hf) | (obtain ⟨_, hf⟩ := hf)))
        exact grows_eqv (by rfl) hC (by go_simp)
      simp only [Act.put, List.setIfInBounds_toArray, List.set_cons_succ, List.set_cons_zero, List.nil_append, List.cons_append]
      refine wpRely_cons (fun w' hC hf => ?_) (fun v5 => ?_)
      · (repeat (first | (obtain ⟨rfl, hf⟩ := hf) | (obtain ⟨⟨q, rfl, hq⟩, hf⟩ := hf) | (obtain ⟨_, hf⟩ := hf)))
        exact grows_eqv (by rfl) hC (by go_simp)
      simp only [Act.put, List.setIfInBounds_toArray, List.set_cons_succ, List.set_cons_zero, List.nil_append, List.cons_append]
      refine wpRely_cons (fun w' hC hf => ?_) (fun v6 => ?_)
      · (repeat (first | (obtain ⟨rfl, hf⟩ := hf) | (obtain ⟨⟨q, rfl, hq⟩, hf⟩ := hf) | (obtain ⟨_, hf⟩ := hf)))
        exact grows_load_at (by rfl) hC rfl rfl hC.lk.made (hC.lk.round i (by omega)) Try.underlying23 rfl (by kernel_rfl)
      simp only [Act.put, List.setIfInBounds_toArray, List.set_cons_succ, List.set_cons_zero, List.nil_append, List.cons_append]
      refine wpRely_cons (fun w' hC hf => ?_) (fun v7 => ?_)
      · (repeat (first | (obtain ⟨rfl, hf⟩ := hf) | (obtain ⟨⟨q, rfl, hq⟩, hf⟩ := hf) | (obtain ⟨_, hf⟩ := hf)))
        exact grows_calls hR (fun _ _ hb h => h.after hb) hC (by rfl) (by go_simp) (sum_keys s (rkN key i) BS BK w')
      simp only [Act.put, List.setIfInBounds_toArray, List.set_cons_succ, List.set_cons_zero, List.nil_append, List.cons_append]
      refine wpRely_nil fun w9 hC hf => ?_
      obtain ⟨_, _, _, _, _, _, _, rfl, _⟩ := hf
      replace hI := Lib.hid hC
      clear hC
      have BA := Lib.hid (aAdd_byt BS.out BK.out)
      by_cases h10 : i < 10
      · have d1 : decide ((i : Int) < 10) = true := decide_eq_true (by omega)
        have d2 : decide (i = 10) = false := decide_eq_false (by omega)
        rw [d2] at L1
        refine wpList_store_row rfl 23 _ _ rfl w.heap.size (rowOf 16 (w8 (aAdd s (rkN key i)))) rfl rfl 23 _ hI.out.lk.blk (info_key _) (by rw [rowOf_size, rowOf_size]) (rowOf_cells8 _ _) ?_
        replace hI := Lib.hid (hI.out.store (aAdd s (rkN key i)))
        generalize World.setRow _ _ _ = w5 at *
        have T2 := Lib.hid (fun w' => mixed_keys (aAdd s (rkN key i)) wOpen BA (Lib.hid wOpen_byt) w')
        rw [mixM_open] at T2
        go_wp2_with (first | (refine wpList_load_row rfl 23 _ rfl w.heap.size rfl 23 _ (0, 0) _ hI.out.lk.blk Try.underlying23 rfl (info_key _) ?_) | (refine wpList_buildTo rfl 60 _ rfl _ rfl (rowOf 4 (w8 wOpen)) (by kernel_rfl) ?_))
        refine (T2.out _).mono ?_
        rintro e w4 ⟨rfl, hb4⟩
        clear T2
        replace hI := Lib.hid (hI.out.after hb4)
        clear hb4
        have T3 := Lib.hid (fun w' => turned_any (aUnmix (aAdd s (rkN key i))) 3 (by decide) w')
        rw [turn_three] at T3
        have E1 : Hid (unTo key b (k + 1) = aUnsub (aUnshift (aUnmix (aAdd s (rkN key i))))) := L1.out
        have BU := Lib.hid (aUnshift_byt (aUnmix_byt BA.out))
        clear L1
        generalize hm : aUnmix (aAdd s (rkN key i)) = m at *
        go_wp2_with (first | (refine wpList_store_row rfl 23 _ _ rfl w.heap.size (rowOf 16 (w8 m)) rfl rfl 23 _ hI.out.lk.blk (info_key _) (by rw [rowOf_size, rowOf_size]) (rowOf_cells8 _ _) ?_) | (refine wpList_load_row rfl 23 _ rfl w.heap.size rfl 23 _ (0, 0) _ (hI.out.store m).lk.blk Try.underlying23 rfl (info_key _) ?_))
        replace hI := Lib.hid (hI.out.store m)
        generalize World.setRow _ _ _ = w6 at *
        refine (T3.out _).mono ?_
        rintro e w7 ⟨rfl, hb7⟩
        clear T3
        replace hI := Lib.hid (hI.out.after hb7)
        clear hb7 hm
        generalize aUnshift m = v at *
        go_wp2_with (first | (refine wpList_store_row rfl 23 _ _ rfl w.heap.size (rowOf 16 (w8 v)) rfl rfl 23 _ hI.out.lk.blk (info_key _) (by rw [rowOf_size, rowOf_size]) (rowOf_cells8 _ _) ?_) | (refine wpList_load_row rfl 23 _ rfl w.heap.size rfl 23 _ (0, 0) _ (hI.out.store v).lk.blk Try.underlying23 rfl (info_key _) ?_))
        replace hI := Lib.hid (hI.out.store v)
        generalize World.setRow _ _ _ = w8' at *
        go_loopw [36] (fun x wr' => ∃ j : Nat, j ≤ 16 ∧ x = .int .i64 j ∧ Hid (OpI w p w.heap.size (w.heap.size + 1) u key (part (aUnsub v) v j) wr'))
          (fun x _ => 16 - (intOf x).toNat)
        case atStart => exact ⟨0, by omega, rfl, by rw [part_zero]; exact hI⟩
        case round =>
          clear hI
          obtain ⟨j, hj, rfl, hI⟩ := hrel
          by_cases hlj : j < 16
          · have ix : (Instr.index 23 (.agg (rowOf 16 (w8 v))) (.int .i64 (j : Int))).run Try.prog wr = .ok (.int .u8 ((v j : Nat) : Int)) wr := run_index_row wr 23 5 16 (w8 v) .i64 j Try.underlying23 sz8 plain8 hlj
            have lv := BU.out j
            have c0 := hI.out.lk.blk.cell j hlj
            have f0 := hI.out.lk.blk.free j
            have c1 := hI.out.tab.cell (v j) lv
            have lj : (j : Int) < 16 := by omega
            have lv' : ((v j : Nat) : Int) < 256 := by omega
            unfold w8 at c1
            have F := Lib.hid (hI.out.cell (j := j) (f := aUnsub v) (g := v))
            have F2 : Hid (aUnsub v j = unboxN (v j)) := rfl
            rw [F2.out] at F
            generalize unboxN (v j) = y at *
            generalize hv' : v j = z at *
            clear hv'
            go_wp2
            go_roundw
            case rel => exact ⟨j + 1, by omega, by go_num, F⟩
            case measure => simp [intOf]; omega
          · have : j = 16 := by omega
            subst this
            replace hI := Lib.hid (hI.out.congr (t := unTo key b (k + 1)) fun j hj => by rw [E1.out]; exact part_below _ _ _ _ hj)
            go_wp2
            go_roundw
            case rel => exact ⟨k + 1, i', HI.out, by first | rfl | go_num, hI⟩
            case measure => have := ML.out; simp [intOf]; omega
      · have d1 : decide ((i : Int) < 10) = false := decide_eq_false (by omega)
        have d2 : decide (i = 10) = true := decide_eq_true (by omega)
        rw [d2] at L1
        have T3 := Lib.hid (fun w' => turned_any (aAdd s (rkN key i)) 3 (by decide) w')
        rw [turn_three] at T3
        have E1 : Hid (unTo key b (k + 1) = aUnsub (aUnshift (aAdd s (rkN key i)))) := L1.out
        have BU := Lib.hid (aUnshift_byt BA.out)
        clear L1
        generalize hm : aAdd s (rkN key i) = m at *
        refine wpList_store_row rfl 23 _ _ rfl w.heap.size (rowOf 16 (w8 m)) rfl rfl 23 _ hI.out.lk.blk (info_key _) (by rw [rowOf_size, rowOf_size]) (rowOf_cells8 _ _) ?_
        go_wp2_with (refine wpList_load_row rfl 23 _ rfl w.heap.size rfl 23 _ (0, 0) _ (hI.out.store m).lk.blk Try.underlying23 rfl (info_key _) ?_)
        replace hI := Lib.hid (hI.out.store m)
        generalize World.setRow _ _ _ = w6 at *
        refine (T3.out _).mono ?_
        rintro e w7 ⟨rfl, hb7⟩
        clear T3
        replace hI := Lib.hid (hI.out.after hb7)
        clear hb7 hm
        generalize aUnshift m = v at *
        go_wp2_with (first | (refine wpList_store_row rfl 23 _ _ rfl w.heap.size (rowOf 16 (w8 v)) rfl rfl 23 _ hI.out.lk.blk (info_key _) (by rw [rowOf_size, rowOf_size]) (rowOf_cells8 _ _) ?_) | (refine wpList_load_row rfl 23 _ rfl w.heap.size rfl 23 _ (0, 0) _ (hI.out.store v).lk.blk Try.underlying23 rfl (info_key _) ?_))
        replace hI := Lib.hid (hI.out.store v)
        generalize World.setRow _ _ _ = w8' at *
        go_loopw [36] (fun x wr' => ∃ j : Nat, j ≤ 16 ∧ x = .int .i64 j ∧ Hid (OpI w p w.heap.size (w.heap.size + 1) u key (part (aUnsub v) v j) wr'))
          (fun x _ => 16 - (intOf x).toNat)
        case atStart => exact ⟨0, by omega, rfl, by rw [part_zero]; exact hI⟩
        case round =>
          clear hI
          obtain ⟨j, hj, rfl, hI⟩ := hrel
          by_cases hlj : j < 16
          · have ix : (Instr.index 23 (.agg (rowOf 16 (w8 v))) (.int .i64 (j : Int))).run Try.prog wr = .ok (.int .u8 ((v j : Nat) : Int)) wr := run_index_row wr 23 5 16 (w8 v) .i64 j Try.underlying23 sz8 plain8 hlj
            have lv := BU.out j
            have c0 := hI.out.lk.blk.cell j hlj
            have f0 := hI.out.lk.blk.free j
            have c1 := hI.out.tab.cell (v j) lv
            have lj : (j : Int) < 16 := by omega
            have lv' : ((v j : Nat) : Int) < 256 := by omega
            unfold w8 at c1
            have F := Lib.hid (hI.out.cell (j := j) (f := aUnsub v) (g := v))
            have F2 : Hid (aUnsub v j = unboxN (v j)) := rfl
            rw [F2.out] at F
            generalize unboxN (v j) = y at *
            generalize hv' : v j = z at *
            clear hv'
            go_wp2
            go_roundw
            case rel => exact ⟨j + 1, by omega, by go_num, F⟩
            case measure => simp [intOf]; omega
          · have : j = 16 := by omega
            subst this
            replace hI := Lib.hid (hI.out.congr (t := unTo key b (k + 1)) fun j hj => by rw [E1.out]; exact part_below _ _ _ _ hj)
            go_wp2
            go_roundw
            case rel => exact ⟨k + 1, i', HI.out, by first | rfl | go_num, hI⟩
            case measure => have := ML.out; simp [intOf]; omega
    · have : i = 0 := by omega
      subst this
      have : k = 10 := by omega
      subst this
      have BS := Lib.hid (unTo_byt hb.out (key := key) 10)
      have K0 := Lib.hid (rk_byt hk.out 0)
      have E1 : Hid (openN key b = aAdd (unTo key b 10) (rkN key 0)) := rfl
      generalize unTo key b 10 = s at *
      go_wp2
      refine wp_region_rely_tail 7 (OpI w p w.heap.size (w.heap.size + 1) u key s) [eqv (.agg (rowOf 16 (w8 s))), eqv (.pointer (some ⟨p, 0, none⟩)), eqv (.pointer (some ⟨p, 0, none⟩)), eqv (.pointer (some ⟨p, 3, none⟩)), eqv (.pointer (some ⟨p, 3, none⟩)), eqv (.agg (rowOf 16 (w8 (rkN key 0)))), eqv (.agg (rowOf 16 (w8 (aAdd s (rkN key 0)))))] (by kernel_rfl) (by kernel_rfl) hI.out.drew
        (.cons (steady_eqv _) (.cons (steady_eqv _) (.cons (steady_eqv _) (.cons (steady_eqv _) (.cons (steady_eqv _) (.cons (steady_eqv _) (.cons (steady_eqv _) .nil))))))) ?_
      intro R hR
      simp only [List.take_succ_cons, List.take_zero, List.drop_succ_cons, List.drop_zero]
      refine wpRely_cons (fun w' hC hf => ?_) (fun v0 => ?_)
      · (repeat (first | (obtain ⟨rfl, hf⟩ := hf) | (obtain ⟨⟨q, rfl, hq⟩, hf⟩ := hf) | (obtain ⟨_, hf⟩ := hf)))
        exact grows_load (by rfl) hC rfl rfl (hC.lk.blk) Try.underlying23 rfl (info_key _)
      simp only [Act.put, List.setIfInBounds_toArray, List.set_cons_succ, List.set_cons_zero, List.nil_append]
      refine wpRely_cons (fun w' hC hf => ?_) (fun v1 => ?_)
      · (repeat (first | (obtain ⟨rfl, hf⟩ := hf) | (obtain ⟨⟨q, rfl, hq⟩, hf⟩ := hf) | (obtain ⟨_, hf⟩ := hf)))
        exact grows_eqv (by rfl) hC (by go_simp)
      simp only [Act.put, List.setIfInBounds_toArray, List.set_cons_succ, List.set_cons_zero, List.nil_append, List.cons_append]
      refine wpRely_cons (fun w' hC hf => ?_) (fun v2 => ?_)
      · (repeat (first | (obtain ⟨rfl, hf⟩ := hf) | (obtain ⟨⟨q, rfl, hq⟩, hf⟩ := hf) | (obtain ⟨_, hf⟩ := hf)))
        exact grows_eqv (by rfl) hC (by go_simp)
      simp only [Act.put, List.setIfInBounds_toArray, List.set_cons_succ, List.set_cons_zero, List.nil_append, List.cons_append]
      refine wpRely_cons (fun w' hC hf => ?_) (fun v3 => ?_)
      · (repeat (first | (obtain ⟨rfl, hf⟩ := hf) | (obtain ⟨⟨q, rfl, hq⟩, hf⟩ := hf) | (obtain ⟨_, hf⟩ := hf)))
        exact grows_eqv (by rfl) hC (by go_simp)
      simp only [Act.put, List.setIfInBounds_toArray, List.set_cons_succ, List.set_cons_zero, List.nil_append, List.cons_append]
      refine wpRely_cons (fun w' hC hf => ?_) (fun v4 => ?_)
      · (repeat (first | (obtain ⟨rfl, hf⟩ := hf) | (obtain ⟨⟨q, rfl, hq⟩, hf⟩ := hf) | (obtain ⟨_, hf⟩ := hf)))
        exact grows_eqv (by rfl) hC (by go_simp)
      simp only [Act.put, List.setIfInBounds_toArray, List.set_cons_succ, List.set_cons_zero, List.nil_append, List.cons_append]
      refine wpRely_cons (fun w' hC hf => ?_) (fun v5 => ?_)
      · (repeat (first | (obtain ⟨rfl, hf⟩ := hf) | (obtain ⟨⟨q, rfl, hq⟩, hf⟩ := hf) | (obtain ⟨_, hf⟩ := hf)))
        exact grows_load_at (by rfl) hC rfl rfl hC.lk.made (hC.lk.round 0 (by omega)) Try.underlying23 rfl (by kernel_rfl)
      simp only [Act.put, List.setIfInBounds_toArray, List.set_cons_succ, List.set_cons_zero, List.nil_append, List.cons_append]
      refine wpRely_cons (fun w' hC hf => ?_) (fun v6 => ?_)
      · (repeat (first | (obtain ⟨rfl, hf⟩ := hf) | (obtain ⟨⟨q, rfl, hq⟩, hf⟩ := hf) | (obtain ⟨_, hf⟩ := hf)))
        exact grows_calls hR (fun _ _ hb h => h.after hb) hC (by rfl) (by go_simp) (sum_keys s (rkN key 0) BS K0 w')
      simp only [Act.put, List.setIfInBounds_toArray, List.set_cons_succ, List.set_cons_zero, List.nil_append, List.cons_append]
      refine wpRely_nil fun w9 hC hf => ?_
      obtain ⟨_, _, _, _, _, _, rfl, _⟩ := hf
      replace hI := Lib.hid hC
      clear hC
      rw [← E1.out]
      refine wpList_store_row rfl 23 _ _ rfl (w.heap.size + 1) (rowOf 16 (w8 (openN key b))) rfl rfl 23 _ hI.out.lk.room (info_key _) (by rw [rowOf_size, rowOf_size]) (rowOf_cells8 _ _) ?_
      go_wp2
      refine bodyPost_ret (v := .agg (rowOf 16 (w8 (openN key b)))) ?_ rfl ⟨rfl, hI.out.lk.endMade _, hI.out.lk.endApart _⟩
      exact results_cell_row Try.results13 _ _ (w.heap.size + 1) 23 (rowOf 16 (w8 (openN key b))) (0, 0) _ rfl (hI.out.lk.room.setRow _) Try.underlying23 rfl (info_key _)

/-- Of a cipher whose round keys are made nothing turns. -/
theorem open_made (p : Nat) (key b : Nat → Nat) (hk : Hid (Byt key)) (hb : Hid (Byt b)) (w : World) (hm : Hid (Made w p key)) :
    Calls Try.prog 13 #[.pointer (some ⟨p, 0, none⟩), .agg (rowOf 16 (w8 b))] w fun e w' => e = .returned (.agg (rowOf 16 (w8 (openN key b)))) ∧ Below w.heap.size w w' :=
  (open_any p key b hk hb w (Or.inr hm.out)).mono fun _ _ ⟨he, h1, h2⟩ => ⟨he, h2.same hm.out h1⟩

end Go.Proofs.Ytelalcgmecianaa
