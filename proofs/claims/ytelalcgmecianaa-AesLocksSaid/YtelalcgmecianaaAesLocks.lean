/-
  Walk: AesLocks.
-/
import Derived.Test.YtelalcgmecianaaAesShown
import Derived.Test.YtelalcgmecianaaAesOpen
import Derived.Test.YtelalcgmecianaaAesRefLock
import Derived.Test.YtelalcgmecianaaRelyFlat
import Derived.Test.YtelalcgmecianaaOpen
namespace Go.Proofs.Ytelalcgmecianaa
open Go.RowKit

/-- A cipher with its round keys, its key, a block, and what it comes to (at x). -/
structure LcC (w : World) (c x : Nat) (key b : Nat → Nat) (w' : World) : Prop where
  rk : RowAt w' w.heap.size 23 (rowOf 16 (w8 key))
  rb : RowAt w' (w.heap.size + 1) 23 (rowOf 16 (w8 b))
  rx : RowAt w' x 23 (rowOf 16 (w8 (lockN key b)))
  mc : Made w' c key
  rest : Below w.heap.size w w'

theorem LcC.after {w w1 w2 : World} {c x : Nat} {key b : Nat → Nat} (hb : Below w1.heap.size w1 w2) (h : LcC w c x key b w1) : LcC w c x key b w2 :=
  ⟨h.rk.below hb h.rk.lt, h.rb.below hb h.rb.lt, h.rx.below hb h.rx.lt, h.mc.below hb (RowAt.lt h.mc), h.rest.trans (hb.mono h.rest.size)⟩

set_option maxHeartbeats 4000000 in
set_option maxRecDepth 8000 in
theorem walk_AesLocks (key : Nat → Nat) (hk0 : Bytes key) (b : Nat → Nat) (hb0 : Bytes b) (w : World) :
    Calls Try.prog 3 #[.agg (rowOf 16 (w8 key)), .agg (rowOf 16 (w8 b))] w fun e w' => e = .returned (.bool true) ∧ Below w.heap.size w w' := by
  have hk : Hid (Byt key) := hk0
  have hb : Hid (Byt b) := hb0
  have hl := Lib.hid (lock_byt hk0 hb0)
  have ho := Lib.hid (open_byt hk0 hb0)
  have e1 := Lib.hid (sameK_of (open_lock hk0 hb0))
  have e2 := Lib.hid (sameK_of (lock_open hk0 hb0))
  clear hk0 hb0
  have r0 : Hid (RowAt ((w.alloc (.cells (rowOf 16 (w8 key)) 23)).alloc (.cells (rowOf 16 (w8 b)) 23)) w.heap.size 23 (rowOf 16 (w8 key))) := (RowAt.new _ _ _).alloc _
  have r1 : Hid (RowAt ((w.alloc (.cells (rowOf 16 (w8 key)) 23)).alloc (.cells (rowOf 16 (w8 b)) 23)) (w.heap.size + 1) 23 (rowOf 16 (w8 b))) := by
    have := RowAt.new (w.alloc (.cells (rowOf 16 (w8 key)) 23)) 23 (rowOf 16 (w8 b))
    rw [World.size_alloc] at this
    exact this
  have b0 : Below w.heap.size w ((w.alloc (.cells (rowOf 16 (w8 key)) 23)).alloc (.cells (rowOf 16 (w8 b)) 23)) := ((Below.refl _ _).alloc (Nat.le_refl _) _).alloc (by simp) _
  have zv := (zero_of_info zero16).1
  go_enter Try.func3, Try.ntmps3
  go_wp2_with (refine wpList_load_row rfl 23 _ rfl w.heap.size rfl 23 _ (0, 0) _ r0.out Try.underlying23 rfl (info_key _) ?_)
  generalize ((w.alloc (.cells (rowOf 16 (w8 key)) 23)).alloc (.cells (rowOf 16 (w8 b)) 23)) = w1 at *
  refine (new_any key w1).mono ?_
  rintro e w2 ⟨c, rfl, hc, hfc, hb2⟩
  have l1 := r1.out.lt
  replace hfc := Lib.hid hfc
  replace r0 := Lib.hid (r0.out.below hb2 r0.out.lt)
  replace r1 := Lib.hid (r1.out.below hb2 r1.out.lt)
  replace b0 := b0.trans (hb2.mono b0.size)
  clear hb2
  go_wp2_with fail
  refine (shown_any w2).mono ?_
  rintro e w3 ⟨rfl, hb3⟩
  replace hfc := Lib.hid (hfc.out.below hb3 hfc.out.lt)
  replace r0 := Lib.hid (r0.out.below hb3 r0.out.lt)
  replace r1 := Lib.hid (r1.out.below hb3 r1.out.lt)
  replace b0 := b0.trans (hb3.mono b0.size)
  clear hb3
  go_wp2_with (refine wpList_load_row rfl 23 _ rfl (w.heap.size + 1) rfl 23 _ (0, 0) _ r1.out Try.underlying23 rfl (info_key _) ?_)
  refine (lock_any c key b hk hb w3 (Lib.hid (Or.inl hfc.out))).mono ?_
  rintro e w4 ⟨rfl, hm, hap⟩
  replace r0 := Lib.hid (hap.row r0.out (by omega))
  replace r1 := Lib.hid (hap.row r1.out (by omega))
  replace b0 := b0.trans (hap.under (by omega) b0.size)
  clear hap hfc
  have r5 := Lib.hid (RowAt.new w4 23 (rowOf 16 (w8 zeroN)))
  have hb5 : Below w4.heap.size w4 ((w4.alloc (.cells (rowOf 16 (w8 zeroN)) 23)).setRow w4.heap.size (rowOf 16 (w8 (lockN key b)))) := below_setRow' ((Below.refl _ _).alloc (Nat.le_refl _) _) (Nat.le_refl _) _
  have HC : LcC w c w4.heap.size key b ((w4.alloc (.cells (rowOf 16 (w8 zeroN)) 23)).setRow w4.heap.size (rowOf 16 (w8 (lockN key b)))) :=
    ⟨r0.out.below hb5 r0.out.lt, r1.out.below hb5 r1.out.lt, r5.out.setRow _, hm.below hb5 (RowAt.lt hm), b0.trans (hb5.mono b0.size)⟩
  replace HC := Lib.hid HC
  clear hm hb5 b0 r0 r1
  go_wp2_with (refine wpList_store_row rfl 23 _ _ rfl w4.heap.size (rowOf 16 (w8 (lockN key b))) rfl rfl 23 _ r5.out (info_key _) (by rw [rowOf_size, rowOf_size]) (rowOf_cells8 _ _) ?_)
  clear r5 zv
  generalize World.setRow _ _ _ = w5 at *
  generalize w4.heap.size = x at *
  replace HC : LcC w c x key b w5.drew := HC.out.after (Below.refl _ _).drew
  refine wp_region_flat (LcC w c x key b) [eqv (.agg (rowOf 16 (w8 (lockN key b)))), eqv (.agg (rowOf 16 (w8 key))), eqv (.agg (rowOf 16 (w8 b))), eqv (.agg (rowOf 16 (w8 (lockN key b)))), eqv (.bool true), eqv (.bool true), eqv (.pointer (some ⟨c, 0, none⟩)), eqv (.agg (rowOf 16 (w8 (lockN key b)))), eqv (.agg (rowOf 16 (w8 (openN key (lockN key b))))), eqv (.agg (rowOf 16 (w8 b))), eqv (.bool true), eqv (.bool true), eqv (.bool true), eqv (.pointer (some ⟨c, 0, none⟩)), eqv (.pointer (some ⟨c, 0, none⟩)), eqv (.agg (rowOf 16 (w8 b))), eqv (.agg (rowOf 16 (w8 (openN key b)))), eqv (.agg (rowOf 16 (w8 (lockN key (openN key b))))), eqv (.agg (rowOf 16 (w8 b))), eqv (.bool true), eqv (.bool true), eqv (.bool true)] (by kernel_rfl) (by kernel_rfl) HC
    (.cons (.cons (.cons (.cons (.cons (.cons (.cons (.cons (.cons (.cons (.cons (.cons (.cons (.cons (.cons (.cons (.cons (.cons (.cons (.cons (.cons (.cons .nil)))))))))))))))))))))) ?_
  intro R hR
  refine wpRely_cons (fun w' hC hf => ?_) (fun v0 => ?_)
  · (repeat (first | (obtain ⟨rfl, hf⟩ := hf) | (obtain ⟨⟨q, rfl, hq⟩, hf⟩ := hf) | (obtain ⟨_, hf⟩ := hf)))
    exact grows_load (by rfl) hC rfl rfl (hC.rx) Try.underlying23 rfl (info_key _)
  simp only [Act.put, List.setIfInBounds_toArray, List.set_cons_succ, List.set_cons_zero, List.nil_append]
  refine wpRely_cons (fun w' hC hf => ?_) (fun v1 => ?_)
  · (repeat (first | (obtain ⟨rfl, hf⟩ := hf) | (obtain ⟨⟨q, rfl, hq⟩, hf⟩ := hf) | (obtain ⟨_, hf⟩ := hf)))
    exact grows_load (by rfl) hC rfl rfl (hC.rk) Try.underlying23 rfl (info_key _)
  simp only [Act.put, List.setIfInBounds_toArray, List.set_cons_succ, List.set_cons_zero, List.nil_append, List.cons_append]
  refine wpRely_cons (fun w' hC hf => ?_) (fun v2 => ?_)
  · (repeat (first | (obtain ⟨rfl, hf⟩ := hf) | (obtain ⟨⟨q, rfl, hq⟩, hf⟩ := hf) | (obtain ⟨_, hf⟩ := hf)))
    exact grows_load (by rfl) hC rfl rfl (hC.rb) Try.underlying23 rfl (info_key _)
  simp only [Act.put, List.setIfInBounds_toArray, List.set_cons_succ, List.set_cons_zero, List.nil_append, List.cons_append]
  refine wpRely_cons (fun w' hC hf => ?_) (fun v3 => ?_)
  · (repeat (first | (obtain ⟨rfl, hf⟩ := hf) | (obtain ⟨⟨q, rfl, hq⟩, hf⟩ := hf) | (obtain ⟨_, hf⟩ := hf)))
    exact grows_flat hR (by rfl) (by go_simp) ((refLock_any key b hk hb w').mono fun _ _ h => ⟨h.1, hC.after h.2⟩)
  simp only [Act.put, List.setIfInBounds_toArray, List.set_cons_succ, List.set_cons_zero, List.nil_append, List.cons_append]
  refine wpRely_cons (fun w' hC hf => ?_) (fun v4 => ?_)
  · (repeat (first | (obtain ⟨rfl, hf⟩ := hf) | (obtain ⟨⟨q, rfl, hq⟩, hf⟩ := hf) | (obtain ⟨_, hf⟩ := hf)))
    exact grows_eqv (by rfl) hC (run_eql_key2 (lockN key b) (lockN key b) true (sameK_rfl _) rfl rfl rfl _)
  simp only [Act.put, List.setIfInBounds_toArray, List.set_cons_succ, List.set_cons_zero, List.nil_append, List.cons_append]
  refine wpRely_cons (fun w' hC hf => ?_) (fun v5 => ?_)
  · (repeat (first | (obtain ⟨rfl, hf⟩ := hf) | (obtain ⟨⟨q, rfl, hq⟩, hf⟩ := hf) | (obtain ⟨_, hf⟩ := hf)))
    exact grows_eqv (by rfl) hC (by go_simp)
  simp only [Act.put, List.setIfInBounds_toArray, List.set_cons_succ, List.set_cons_zero, List.nil_append, List.cons_append]
  refine wpRely_cons (fun w' hC hf => ?_) (fun v6 => ?_)
  · (repeat (first | (obtain ⟨rfl, hf⟩ := hf) | (obtain ⟨⟨q, rfl, hq⟩, hf⟩ := hf) | (obtain ⟨_, hf⟩ := hf)))
    exact grows_eqv (by rfl) hC (by go_simp)
  simp only [Act.put, List.setIfInBounds_toArray, List.set_cons_succ, List.set_cons_zero, List.nil_append, List.cons_append]
  refine wpRely_cons (fun w' hC hf => ?_) (fun v7 => ?_)
  · (repeat (first | (obtain ⟨rfl, hf⟩ := hf) | (obtain ⟨⟨q, rfl, hq⟩, hf⟩ := hf) | (obtain ⟨_, hf⟩ := hf)))
    exact grows_load (by rfl) hC rfl rfl (hC.rx) Try.underlying23 rfl (info_key _)
  simp only [Act.put, List.setIfInBounds_toArray, List.set_cons_succ, List.set_cons_zero, List.nil_append, List.cons_append]
  refine wpRely_cons (fun w' hC hf => ?_) (fun v8 => ?_)
  · (repeat (first | (obtain ⟨rfl, hf⟩ := hf) | (obtain ⟨⟨q, rfl, hq⟩, hf⟩ := hf) | (obtain ⟨_, hf⟩ := hf)))
    exact grows_flat hR (by rfl) (by go_simp) ((open_made c key (lockN key b) hk hl w' (Lib.hid hC.mc)).mono fun _ _ h => ⟨h.1, hC.after h.2⟩)
  simp only [Act.put, List.setIfInBounds_toArray, List.set_cons_succ, List.set_cons_zero, List.nil_append, List.cons_append]
  refine wpRely_cons (fun w' hC hf => ?_) (fun v9 => ?_)
  · (repeat (first | (obtain ⟨rfl, hf⟩ := hf) | (obtain ⟨⟨q, rfl, hq⟩, hf⟩ := hf) | (obtain ⟨_, hf⟩ := hf)))
    exact grows_load (by rfl) hC rfl rfl (hC.rb) Try.underlying23 rfl (info_key _)
  simp only [Act.put, List.setIfInBounds_toArray, List.set_cons_succ, List.set_cons_zero, List.nil_append, List.cons_append]
  refine wpRely_cons (fun w' hC hf => ?_) (fun v10 => ?_)
  · (repeat (first | (obtain ⟨rfl, hf⟩ := hf) | (obtain ⟨⟨q, rfl, hq⟩, hf⟩ := hf) | (obtain ⟨_, hf⟩ := hf)))
    exact grows_eqv (by rfl) hC (run_eql_key2 (openN key (lockN key b)) b true e1.out rfl rfl rfl _)
  simp only [Act.put, List.setIfInBounds_toArray, List.set_cons_succ, List.set_cons_zero, List.nil_append, List.cons_append]
  refine wpRely_cons (fun w' hC hf => ?_) (fun v11 => ?_)
  · (repeat (first | (obtain ⟨rfl, hf⟩ := hf) | (obtain ⟨⟨q, rfl, hq⟩, hf⟩ := hf) | (obtain ⟨_, hf⟩ := hf)))
    exact grows_eqv (by rfl) hC (by go_simp)
  simp only [Act.put, List.setIfInBounds_toArray, List.set_cons_succ, List.set_cons_zero, List.nil_append, List.cons_append]
  refine wpRely_cons (fun w' hC hf => ?_) (fun v12 => ?_)
  · (repeat (first | (obtain ⟨rfl, hf⟩ := hf) | (obtain ⟨⟨q, rfl, hq⟩, hf⟩ := hf) | (obtain ⟨_, hf⟩ := hf)))
    exact grows_eqv (by rfl) hC (by go_simp)
  simp only [Act.put, List.setIfInBounds_toArray, List.set_cons_succ, List.set_cons_zero, List.nil_append, List.cons_append]
  refine wpRely_cons (fun w' hC hf => ?_) (fun v13 => ?_)
  · (repeat (first | (obtain ⟨rfl, hf⟩ := hf) | (obtain ⟨⟨q, rfl, hq⟩, hf⟩ := hf) | (obtain ⟨_, hf⟩ := hf)))
    exact grows_eqv (by rfl) hC (by go_simp)
  simp only [Act.put, List.setIfInBounds_toArray, List.set_cons_succ, List.set_cons_zero, List.nil_append, List.cons_append]
  refine wpRely_cons (fun w' hC hf => ?_) (fun v14 => ?_)
  · (repeat (first | (obtain ⟨rfl, hf⟩ := hf) | (obtain ⟨⟨q, rfl, hq⟩, hf⟩ := hf) | (obtain ⟨_, hf⟩ := hf)))
    exact grows_eqv (by rfl) hC (by go_simp)
  simp only [Act.put, List.setIfInBounds_toArray, List.set_cons_succ, List.set_cons_zero, List.nil_append, List.cons_append]
  refine wpRely_cons (fun w' hC hf => ?_) (fun v15 => ?_)
  · (repeat (first | (obtain ⟨rfl, hf⟩ := hf) | (obtain ⟨⟨q, rfl, hq⟩, hf⟩ := hf) | (obtain ⟨_, hf⟩ := hf)))
    exact grows_load (by rfl) hC rfl rfl (hC.rb) Try.underlying23 rfl (info_key _)
  simp only [Act.put, List.setIfInBounds_toArray, List.set_cons_succ, List.set_cons_zero, List.nil_append, List.cons_append]
  refine wpRely_cons (fun w' hC hf => ?_) (fun v16 => ?_)
  · (repeat (first | (obtain ⟨rfl, hf⟩ := hf) | (obtain ⟨⟨q, rfl, hq⟩, hf⟩ := hf) | (obtain ⟨_, hf⟩ := hf)))
    exact grows_flat hR (by rfl) (by go_simp) ((open_made c key b hk hb w' (Lib.hid hC.mc)).mono fun _ _ h => ⟨h.1, hC.after h.2⟩)
  simp only [Act.put, List.setIfInBounds_toArray, List.set_cons_succ, List.set_cons_zero, List.nil_append, List.cons_append]
  refine wpRely_cons (fun w' hC hf => ?_) (fun v17 => ?_)
  · (repeat (first | (obtain ⟨rfl, hf⟩ := hf) | (obtain ⟨⟨q, rfl, hq⟩, hf⟩ := hf) | (obtain ⟨_, hf⟩ := hf)))
    exact grows_flat hR (by rfl) (by go_simp) ((lock_made c key (openN key b) hk ho w' (Lib.hid hC.mc)).mono fun _ _ h => ⟨h.1, hC.after h.2⟩)
  simp only [Act.put, List.setIfInBounds_toArray, List.set_cons_succ, List.set_cons_zero, List.nil_append, List.cons_append]
  refine wpRely_cons (fun w' hC hf => ?_) (fun v18 => ?_)
  · (repeat (first | (obtain ⟨rfl, hf⟩ := hf) | (obtain ⟨⟨q, rfl, hq⟩, hf⟩ := hf) | (obtain ⟨_, hf⟩ := hf)))
    exact grows_load (by rfl) hC rfl rfl (hC.rb) Try.underlying23 rfl (info_key _)
  simp only [Act.put, List.setIfInBounds_toArray, List.set_cons_succ, List.set_cons_zero, List.nil_append, List.cons_append]
  refine wpRely_cons (fun w' hC hf => ?_) (fun v19 => ?_)
  · (repeat (first | (obtain ⟨rfl, hf⟩ := hf) | (obtain ⟨⟨q, rfl, hq⟩, hf⟩ := hf) | (obtain ⟨_, hf⟩ := hf)))
    exact grows_eqv (by rfl) hC (run_eql_key2 (lockN key (openN key b)) b true e2.out rfl rfl rfl _)
  simp only [Act.put, List.setIfInBounds_toArray, List.set_cons_succ, List.set_cons_zero, List.nil_append, List.cons_append]
  refine wpRely_cons (fun w' hC hf => ?_) (fun v20 => ?_)
  · (repeat (first | (obtain ⟨rfl, hf⟩ := hf) | (obtain ⟨⟨q, rfl, hq⟩, hf⟩ := hf) | (obtain ⟨_, hf⟩ := hf)))
    exact grows_eqv (by rfl) hC (by go_simp)
  simp only [Act.put, List.setIfInBounds_toArray, List.set_cons_succ, List.set_cons_zero, List.nil_append, List.cons_append]
  refine wpRely_cons (fun w' hC hf => ?_) (fun v21 => ?_)
  · (repeat (first | (obtain ⟨rfl, hf⟩ := hf) | (obtain ⟨⟨q, rfl, hq⟩, hf⟩ := hf) | (obtain ⟨_, hf⟩ := hf)))
    exact grows_eqv (by rfl) hC (by go_simp)
  simp only [Act.put, List.setIfInBounds_toArray, List.set_cons_succ, List.set_cons_zero, List.nil_append, List.cons_append]
  refine wpRely_nil fun w9 hC hf => ?_
  replace hC := hC.rest
  obtain ⟨_, _, _, _, _, _, _, _, _, _, _, _, _, _, _, _, _, _, _, _, _, rfl, _⟩ := hf
  go_wp2
  go_ret
  exact ⟨rfl, hC⟩

end Go.Proofs.Ytelalcgmecianaa
