/-
  Walk: AesOnce.
-/
import Derived.Test.YtelalcgmecianaaAesShown
import Derived.Test.YtelalcgmecianaaAesOpen
import Derived.Test.YtelalcgmecianaaRelyFlat
import Derived.Test.YtelalcgmecianaaOpen
namespace Go.Proofs.Ytelalcgmecianaa
open Go.RowKit

theorem Fresh.apart {p q : Nat} {w w' : World} {key : Nat → Nat} (h : Fresh w q key) (ha : Apart p w w') (hq : q ≠ p) : Fresh w' q key := by
  obtain ⟨x, h1, h2⟩ := h
  exact ⟨x, ha.row h1 hq, h2⟩

/-- Two ciphers of one key, one of them with its round keys, and two blocks. -/
structure OnC (w : World) (c d : Nat) (key a b : Nat → Nat) (w' : World) : Prop where
  ra : RowAt w' (w.heap.size + 1) 23 (rowOf 16 (w8 a))
  rb : RowAt w' (w.heap.size + 1 + 1) 23 (rowOf 16 (w8 b))
  mc : Made w' c key
  cd : Cip w' d key
  rest : Below w.heap.size w w'
  hc : w.heap.size + 1 + 1 < c
  hd : w.heap.size + 1 + 1 < d
  hcd : c ≠ d

section
variable {w w1 w2 : World} {c d : Nat} {key a b : Nat → Nat}
theorem OnC.after (hb : Below w1.heap.size w1 w2) (h : OnC w c d key a b w1) : OnC w c d key a b w2 :=
  ⟨h.ra.below hb h.ra.lt, h.rb.below hb h.rb.lt, h.mc.below hb (RowAt.lt h.mc), h.cd.below hb h.cd.lt, h.rest.trans (hb.mono h.rest.size), h.hc, h.hd, h.hcd⟩
theorem OnC.turn (h : OnC w c d key a b w1) (ha : Apart d w1 w2) (hm : Made w2 d key) : OnC w c d key a b w2 :=
  ⟨ha.row h.ra (by have := h.hd; omega), ha.row h.rb (by have := h.hd; omega), ha.row h.mc h.hcd, .inr hm, h.rest.trans (ha.under (by have := h.hd; omega) h.rest.size), h.hc, h.hd, h.hcd⟩
end

theorem sameK_both {f g x y : Nat → Nat} (h : Same16 f g ↔ Same16 x y) : sameK f g = sameK x y := by
  rw [Bool.eq_iff_iff, sameK_iff, sameK_iff]
  exact h

set_option maxHeartbeats 4000000 in
set_option maxRecDepth 8000 in
theorem walk_AesOnce (key : Nat → Nat) (hk0 : Bytes key) (a : Nat → Nat) (ha0 : Bytes a) (b : Nat → Nat) (hb0 : Bytes b) (w : World) :
    Calls Try.prog 7 #[.agg (rowOf 16 (w8 key)), .agg (rowOf 16 (w8 a)), .agg (rowOf 16 (w8 b))] w fun e w' => e = .returned (.bool true) ∧ Below w.heap.size w w' := by
  have hk : Hid (Byt key) := hk0
  have ha : Hid (Byt a) := ha0
  have hb : Hid (Byt b) := hb0
  have hL := Lib.hid (sameK_both (lock_inj hk0 ha0 hb0))
  have hO := Lib.hid (sameK_both (open_inj hk0 ha0 hb0))
  have hT : Hid (sameK a b = sameK a b) := rfl
  generalize hgt : sameK a b = t at *
  clear hk0 ha0 hb0
  replace hT := Lib.hid hgt
  clear hgt
  have hw1 := Lib.hid (allocs_row [.cells (rowOf 16 (w8 key)) 23, .cells (rowOf 16 (w8 a)) 23, .cells (rowOf 16 (w8 b)) 23] w)
  have r0 : Hid (RowAt (((w.alloc (.cells (rowOf 16 (w8 key)) 23)).alloc (.cells (rowOf 16 (w8 a)) 23)).alloc (.cells (rowOf 16 (w8 b)) 23)) w.heap.size 23 (rowOf 16 (w8 key))) := hw1.out 0 _ _ rfl
  have r1 : Hid (RowAt (((w.alloc (.cells (rowOf 16 (w8 key)) 23)).alloc (.cells (rowOf 16 (w8 a)) 23)).alloc (.cells (rowOf 16 (w8 b)) 23)) (w.heap.size + 1) 23 (rowOf 16 (w8 a))) := hw1.out 1 _ _ rfl
  have r2 : Hid (RowAt (((w.alloc (.cells (rowOf 16 (w8 key)) 23)).alloc (.cells (rowOf 16 (w8 a)) 23)).alloc (.cells (rowOf 16 (w8 b)) 23)) (w.heap.size + 1 + 1) 23 (rowOf 16 (w8 b))) := hw1.out 2 _ _ rfl
  have b0 : Below w.heap.size w (((w.alloc (.cells (rowOf 16 (w8 key)) 23)).alloc (.cells (rowOf 16 (w8 a)) 23)).alloc (.cells (rowOf 16 (w8 b)) 23)) := allocs_below [.cells (rowOf 16 (w8 key)) 23, .cells (rowOf 16 (w8 a)) 23, .cells (rowOf 16 (w8 b)) 23] w
  clear hw1
  go_enter Try.func7, Try.ntmps7
  go_wp2_with (refine wpList_load_row rfl 23 _ rfl w.heap.size rfl 23 _ (0, 0) _ r0.out Try.underlying23 rfl (info_key _) ?_)
  generalize ((w.alloc (.cells (rowOf 16 (w8 key)) 23)).alloc (.cells (rowOf 16 (w8 a)) 23)).alloc (.cells (rowOf 16 (w8 b)) 23) = w1 at *
  refine (new_any key w1).mono ?_
  rintro e w2 ⟨c, rfl, hc, hfc, hb2⟩
  have l2 := r2.out.lt
  have l3 := hfc.lt
  replace r0 := Lib.hid (r0.out.below hb2 r0.out.lt)
  replace r1 := Lib.hid (r1.out.below hb2 r1.out.lt)
  replace r2 := Lib.hid (r2.out.below hb2 r2.out.lt)
  replace b0 := b0.trans (hb2.mono b0.size)
  replace hfc := Lib.hid hfc
  clear hb2
  go_wp2_with (refine wpList_load_row rfl 23 _ rfl w.heap.size rfl 23 _ (0, 0) _ r0.out Try.underlying23 rfl (info_key _) ?_)
  refine (new_any key w2).mono ?_
  rintro e w3 ⟨d, rfl, hd, hfd, hb3⟩
  replace hfd := Lib.hid hfd
  replace hfc := Lib.hid (hfc.out.below hb3 l3)
  replace r1 := Lib.hid (r1.out.below hb3 r1.out.lt)
  replace r2 := Lib.hid (r2.out.below hb3 r2.out.lt)
  replace b0 := b0.trans (hb3.mono b0.size)
  clear hb3 r0
  go_wp2_with fail
  refine (shown_any w3).mono ?_
  rintro e w4 ⟨rfl, hb4⟩
  replace hfd := Lib.hid (hfd.out.below hb4 hfd.out.lt)
  replace hfc := Lib.hid (hfc.out.below hb4 hfc.out.lt)
  replace r1 := Lib.hid (r1.out.below hb4 r1.out.lt)
  replace r2 := Lib.hid (r2.out.below hb4 r2.out.lt)
  replace b0 := b0.trans (hb4.mono b0.size)
  clear hb4
  go_wp2_with (refine wpList_load_row rfl 23 _ rfl (w.heap.size + 1 + 1) rfl 23 _ (0, 0) _ r2.out Try.underlying23 rfl (info_key _) ?_)
  refine (open_any c key b hk hb w4 (Lib.hid (Or.inl hfc.out))).mono ?_
  rintro e w5 ⟨rfl, hm, hap⟩
  have HC : OnC w c d key a b w5.drew := OnC.after (Below.refl _ _).drew ⟨hap.row r1.out (by omega), hap.row r2.out (by omega), hm, .inl (hfd.out.apart hap (by omega)), b0.trans (hap.under (by omega) b0.size), by omega, by omega, by omega⟩
  clear hm hap hfc hfd r1 r2 b0
  go_wp2
  refine wp_region_flat (OnC w c d key a b) [eqv (.pointer (some ⟨c, 0, none⟩)), eqv (.agg (rowOf 16 (w8 a))), eqv (.agg (rowOf 16 (w8 (lockN key a)))), eqv (.pointer (some ⟨d, 0, none⟩)), eqv (.agg (rowOf 16 (w8 a))), eqv (.agg (rowOf 16 (w8 (lockN key a)))), eqv (.bool true), eqv (.bool true), eqv (.pointer (some ⟨c, 0, none⟩)), eqv (.agg (rowOf 16 (w8 b))), eqv (.agg (rowOf 16 (w8 (openN key b)))), eqv (.pointer (some ⟨d, 0, none⟩)), eqv (.agg (rowOf 16 (w8 b))), eqv (.agg (rowOf 16 (w8 (openN key b)))), eqv (.bool true), eqv (.bool true), eqv (.bool true), eqv (.pointer (some ⟨c, 0, none⟩)), eqv (.agg (rowOf 16 (w8 a))), eqv (.agg (rowOf 16 (w8 (lockN key a)))), eqv (.pointer (some ⟨c, 0, none⟩)), eqv (.agg (rowOf 16 (w8 b))), eqv (.agg (rowOf 16 (w8 (lockN key b)))), eqv (.bool t), eqv (.agg (rowOf 16 (w8 a))), eqv (.agg (rowOf 16 (w8 b))), eqv (.bool t), eqv (.bool true), eqv (.bool true), eqv (.bool true), eqv (.pointer (some ⟨c, 0, none⟩)), eqv (.agg (rowOf 16 (w8 a))), eqv (.agg (rowOf 16 (w8 (openN key a)))), eqv (.pointer (some ⟨c, 0, none⟩)), eqv (.agg (rowOf 16 (w8 b))), eqv (.agg (rowOf 16 (w8 (openN key b)))), eqv (.bool t), eqv (.agg (rowOf 16 (w8 a))), eqv (.agg (rowOf 16 (w8 b))), eqv (.bool t), eqv (.bool true), eqv (.bool true), eqv (.bool true)] (by kernel_rfl) (by kernel_rfl) HC
    (.cons (.cons (.cons (.cons (.cons (.cons (.cons (.cons (.cons (.cons (.cons (.cons (.cons (.cons (.cons (.cons (.cons (.cons (.cons (.cons (.cons (.cons (.cons (.cons (.cons (.cons (.cons (.cons (.cons (.cons (.cons (.cons (.cons (.cons (.cons (.cons (.cons (.cons (.cons (.cons (.cons (.cons (.cons .nil))))))))))))))))))))))))))))))))))))))))))) ?_
  intro R hR
  refine wpRely_cons (fun w' hC hf => ?_) (fun v0 => ?_)
  · (repeat (first | (obtain ⟨rfl, hf⟩ := hf) | (obtain ⟨⟨q, rfl, hq⟩, hf⟩ := hf) | (obtain ⟨_, hf⟩ := hf)))
    exact grows_eqv (by rfl) hC (by go_simp)
  simp only [Act.put, List.setIfInBounds_toArray, List.set_cons_succ, List.set_cons_zero, List.nil_append]
  refine wpRely_cons (fun w' hC hf => ?_) (fun v1 => ?_)
  · (repeat (first | (obtain ⟨rfl, hf⟩ := hf) | (obtain ⟨⟨q, rfl, hq⟩, hf⟩ := hf) | (obtain ⟨_, hf⟩ := hf)))
    exact grows_load (by rfl) hC rfl rfl (hC.ra) Try.underlying23 rfl (info_key _)
  simp only [Act.put, List.setIfInBounds_toArray, List.set_cons_succ, List.set_cons_zero, List.nil_append, List.cons_append]
  refine wpRely_cons (fun w' hC hf => ?_) (fun v2 => ?_)
  · (repeat (first | (obtain ⟨rfl, hf⟩ := hf) | (obtain ⟨⟨q, rfl, hq⟩, hf⟩ := hf) | (obtain ⟨_, hf⟩ := hf)))
    exact grows_flat hR (by rfl) (by go_simp) ((lock_made c key a hk ha w' (Lib.hid hC.mc)).mono fun _ _ h => ⟨h.1, hC.after h.2⟩)
  simp only [Act.put, List.setIfInBounds_toArray, List.set_cons_succ, List.set_cons_zero, List.nil_append, List.cons_append]
  refine wpRely_cons (fun w' hC hf => ?_) (fun v3 => ?_)
  · (repeat (first | (obtain ⟨rfl, hf⟩ := hf) | (obtain ⟨⟨q, rfl, hq⟩, hf⟩ := hf) | (obtain ⟨_, hf⟩ := hf)))
    exact grows_eqv (by rfl) hC (by go_simp)
  simp only [Act.put, List.setIfInBounds_toArray, List.set_cons_succ, List.set_cons_zero, List.nil_append, List.cons_append]
  refine wpRely_cons (fun w' hC hf => ?_) (fun v4 => ?_)
  · (repeat (first | (obtain ⟨rfl, hf⟩ := hf) | (obtain ⟨⟨q, rfl, hq⟩, hf⟩ := hf) | (obtain ⟨_, hf⟩ := hf)))
    exact grows_load (by rfl) hC rfl rfl (hC.ra) Try.underlying23 rfl (info_key _)
  simp only [Act.put, List.setIfInBounds_toArray, List.set_cons_succ, List.set_cons_zero, List.nil_append, List.cons_append]
  refine wpRely_cons (fun w' hC hf => ?_) (fun v5 => ?_)
  · (repeat (first | (obtain ⟨rfl, hf⟩ := hf) | (obtain ⟨⟨q, rfl, hq⟩, hf⟩ := hf) | (obtain ⟨_, hf⟩ := hf)))
    exact grows_flat hR (by rfl) (by go_simp) ((lock_any d key a hk ha w' (Lib.hid hC.cd)).mono fun _ _ h => ⟨h.1, hC.turn h.2.2 h.2.1⟩)
  simp only [Act.put, List.setIfInBounds_toArray, List.set_cons_succ, List.set_cons_zero, List.nil_append, List.cons_append]
  refine wpRely_cons (fun w' hC hf => ?_) (fun v6 => ?_)
  · (repeat (first | (obtain ⟨rfl, hf⟩ := hf) | (obtain ⟨⟨q, rfl, hq⟩, hf⟩ := hf) | (obtain ⟨_, hf⟩ := hf)))
    exact grows_eqv (by rfl) hC (run_eql_key (lockN key a) rfl rfl rfl _)
  simp only [Act.put, List.setIfInBounds_toArray, List.set_cons_succ, List.set_cons_zero, List.nil_append, List.cons_append]
  refine wpRely_cons (fun w' hC hf => ?_) (fun v7 => ?_)
  · (repeat (first | (obtain ⟨rfl, hf⟩ := hf) | (obtain ⟨⟨q, rfl, hq⟩, hf⟩ := hf) | (obtain ⟨_, hf⟩ := hf)))
    exact grows_eqv (by rfl) hC (by go_simp)
  simp only [Act.put, List.setIfInBounds_toArray, List.set_cons_succ, List.set_cons_zero, List.nil_append, List.cons_append]
  refine wpRely_cons (fun w' hC hf => ?_) (fun v8 => ?_)
  · (repeat (first | (obtain ⟨rfl, hf⟩ := hf) | (obtain ⟨⟨q, rfl, hq⟩, hf⟩ := hf) | (obtain ⟨_, hf⟩ := hf)))
    exact grows_eqv (by rfl) hC (by go_simp)
  simp only [Act.put, List.setIfInBounds_toArray, List.set_cons_succ, List.set_cons_zero, List.nil_append, List.cons_append]
  refine wpRely_cons (fun w' hC hf => ?_) (fun v9 => ?_)
  · (repeat (first | (obtain ⟨rfl, hf⟩ := hf) | (obtain ⟨⟨q, rfl, hq⟩, hf⟩ := hf) | (obtain ⟨_, hf⟩ := hf)))
    exact grows_load (by rfl) hC rfl rfl (hC.rb) Try.underlying23 rfl (info_key _)
  simp only [Act.put, List.setIfInBounds_toArray, List.set_cons_succ, List.set_cons_zero, List.nil_append, List.cons_append]
  refine wpRely_cons (fun w' hC hf => ?_) (fun v10 => ?_)
  · (repeat (first | (obtain ⟨rfl, hf⟩ := hf) | (obtain ⟨⟨q, rfl, hq⟩, hf⟩ := hf) | (obtain ⟨_, hf⟩ := hf)))
    exact grows_flat hR (by rfl) (by go_simp) ((open_made c key b hk hb w' (Lib.hid hC.mc)).mono fun _ _ h => ⟨h.1, hC.after h.2⟩)
  simp only [Act.put, List.setIfInBounds_toArray, List.set_cons_succ, List.set_cons_zero, List.nil_append, List.cons_append]
  refine wpRely_cons (fun w' hC hf => ?_) (fun v11 => ?_)
  · (repeat (first | (obtain ⟨rfl, hf⟩ := hf) | (obtain ⟨⟨q, rfl, hq⟩, hf⟩ := hf) | (obtain ⟨_, hf⟩ := hf)))
    exact grows_eqv (by rfl) hC (by go_simp)
  simp only [Act.put, List.setIfInBounds_toArray, List.set_cons_succ, List.set_cons_zero, List.nil_append, List.cons_append]
  refine wpRely_cons (fun w' hC hf => ?_) (fun v12 => ?_)
  · (repeat (first | (obtain ⟨rfl, hf⟩ := hf) | (obtain ⟨⟨q, rfl, hq⟩, hf⟩ := hf) | (obtain ⟨_, hf⟩ := hf)))
    exact grows_load (by rfl) hC rfl rfl (hC.rb) Try.underlying23 rfl (info_key _)
  simp only [Act.put, List.setIfInBounds_toArray, List.set_cons_succ, List.set_cons_zero, List.nil_append, List.cons_append]
  refine wpRely_cons (fun w' hC hf => ?_) (fun v13 => ?_)
  · (repeat (first | (obtain ⟨rfl, hf⟩ := hf) | (obtain ⟨⟨q, rfl, hq⟩, hf⟩ := hf) | (obtain ⟨_, hf⟩ := hf)))
    exact grows_flat hR (by rfl) (by go_simp) ((open_any d key b hk hb w' (Lib.hid hC.cd)).mono fun _ _ h => ⟨h.1, hC.turn h.2.2 h.2.1⟩)
  simp only [Act.put, List.setIfInBounds_toArray, List.set_cons_succ, List.set_cons_zero, List.nil_append, List.cons_append]
  refine wpRely_cons (fun w' hC hf => ?_) (fun v14 => ?_)
  · (repeat (first | (obtain ⟨rfl, hf⟩ := hf) | (obtain ⟨⟨q, rfl, hq⟩, hf⟩ := hf) | (obtain ⟨_, hf⟩ := hf)))
    exact grows_eqv (by rfl) hC (run_eql_key (openN key b) rfl rfl rfl _)
  simp only [Act.put, List.setIfInBounds_toArray, List.set_cons_succ, List.set_cons_zero, List.nil_append, List.cons_append]
  refine wpRely_cons (fun w' hC hf => ?_) (fun v15 => ?_)
  · (repeat (first | (obtain ⟨rfl, hf⟩ := hf) | (obtain ⟨⟨q, rfl, hq⟩, hf⟩ := hf) | (obtain ⟨_, hf⟩ := hf)))
    exact grows_eqv (by rfl) hC (by go_simp)
  simp only [Act.put, List.setIfInBounds_toArray, List.set_cons_succ, List.set_cons_zero, List.nil_append, List.cons_append]
  refine wpRely_cons (fun w' hC hf => ?_) (fun v16 => ?_)
  · (repeat (first | (obtain ⟨rfl, hf⟩ := hf) | (obtain ⟨⟨q, rfl, hq⟩, hf⟩ := hf) | (obtain ⟨_, hf⟩ := hf)))
    exact grows_eqv (by rfl) hC (by go_simp)
  simp only [Act.put, List.setIfInBounds_toArray, List.set_cons_succ, List.set_cons_zero, List.nil_append, List.cons_append]
  refine wpRely_cons (fun w' hC hf => ?_) (fun v17 => ?_)
  · (repeat (first | (obtain ⟨rfl, hf⟩ := hf) | (obtain ⟨⟨q, rfl, hq⟩, hf⟩ := hf) | (obtain ⟨_, hf⟩ := hf)))
    exact grows_eqv (by rfl) hC (by go_simp)
  simp only [Act.put, List.setIfInBounds_toArray, List.set_cons_succ, List.set_cons_zero, List.nil_append, List.cons_append]
  refine wpRely_cons (fun w' hC hf => ?_) (fun v18 => ?_)
  · (repeat (first | (obtain ⟨rfl, hf⟩ := hf) | (obtain ⟨⟨q, rfl, hq⟩, hf⟩ := hf) | (obtain ⟨_, hf⟩ := hf)))
    exact grows_load (by rfl) hC rfl rfl (hC.ra) Try.underlying23 rfl (info_key _)
  simp only [Act.put, List.setIfInBounds_toArray, List.set_cons_succ, List.set_cons_zero, List.nil_append, List.cons_append]
  refine wpRely_cons (fun w' hC hf => ?_) (fun v19 => ?_)
  · (repeat (first | (obtain ⟨rfl, hf⟩ := hf) | (obtain ⟨⟨q, rfl, hq⟩, hf⟩ := hf) | (obtain ⟨_, hf⟩ := hf)))
    exact grows_flat hR (by rfl) (by go_simp) ((lock_made c key a hk ha w' (Lib.hid hC.mc)).mono fun _ _ h => ⟨h.1, hC.after h.2⟩)
  simp only [Act.put, List.setIfInBounds_toArray, List.set_cons_succ, List.set_cons_zero, List.nil_append, List.cons_append]
  refine wpRely_cons (fun w' hC hf => ?_) (fun v20 => ?_)
  · (repeat (first | (obtain ⟨rfl, hf⟩ := hf) | (obtain ⟨⟨q, rfl, hq⟩, hf⟩ := hf) | (obtain ⟨_, hf⟩ := hf)))
    exact grows_eqv (by rfl) hC (by go_simp)
  simp only [Act.put, List.setIfInBounds_toArray, List.set_cons_succ, List.set_cons_zero, List.nil_append, List.cons_append]
  refine wpRely_cons (fun w' hC hf => ?_) (fun v21 => ?_)
  · (repeat (first | (obtain ⟨rfl, hf⟩ := hf) | (obtain ⟨⟨q, rfl, hq⟩, hf⟩ := hf) | (obtain ⟨_, hf⟩ := hf)))
    exact grows_load (by rfl) hC rfl rfl (hC.rb) Try.underlying23 rfl (info_key _)
  simp only [Act.put, List.setIfInBounds_toArray, List.set_cons_succ, List.set_cons_zero, List.nil_append, List.cons_append]
  refine wpRely_cons (fun w' hC hf => ?_) (fun v22 => ?_)
  · (repeat (first | (obtain ⟨rfl, hf⟩ := hf) | (obtain ⟨⟨q, rfl, hq⟩, hf⟩ := hf) | (obtain ⟨_, hf⟩ := hf)))
    exact grows_flat hR (by rfl) (by go_simp) ((lock_made c key b hk hb w' (Lib.hid hC.mc)).mono fun _ _ h => ⟨h.1, hC.after h.2⟩)
  simp only [Act.put, List.setIfInBounds_toArray, List.set_cons_succ, List.set_cons_zero, List.nil_append, List.cons_append]
  refine wpRely_cons (fun w' hC hf => ?_) (fun v23 => ?_)
  · (repeat (first | (obtain ⟨rfl, hf⟩ := hf) | (obtain ⟨⟨q, rfl, hq⟩, hf⟩ := hf) | (obtain ⟨_, hf⟩ := hf)))
    exact grows_eqv (by rfl) hC (run_eql_key2 (lockN key a) (lockN key b) t hL.out rfl rfl rfl _)
  simp only [Act.put, List.setIfInBounds_toArray, List.set_cons_succ, List.set_cons_zero, List.nil_append, List.cons_append]
  refine wpRely_cons (fun w' hC hf => ?_) (fun v24 => ?_)
  · (repeat (first | (obtain ⟨rfl, hf⟩ := hf) | (obtain ⟨⟨q, rfl, hq⟩, hf⟩ := hf) | (obtain ⟨_, hf⟩ := hf)))
    exact grows_load (by rfl) hC rfl rfl (hC.ra) Try.underlying23 rfl (info_key _)
  simp only [Act.put, List.setIfInBounds_toArray, List.set_cons_succ, List.set_cons_zero, List.nil_append, List.cons_append]
  refine wpRely_cons (fun w' hC hf => ?_) (fun v25 => ?_)
  · (repeat (first | (obtain ⟨rfl, hf⟩ := hf) | (obtain ⟨⟨q, rfl, hq⟩, hf⟩ := hf) | (obtain ⟨_, hf⟩ := hf)))
    exact grows_load (by rfl) hC rfl rfl (hC.rb) Try.underlying23 rfl (info_key _)
  simp only [Act.put, List.setIfInBounds_toArray, List.set_cons_succ, List.set_cons_zero, List.nil_append, List.cons_append]
  refine wpRely_cons (fun w' hC hf => ?_) (fun v26 => ?_)
  · (repeat (first | (obtain ⟨rfl, hf⟩ := hf) | (obtain ⟨⟨q, rfl, hq⟩, hf⟩ := hf) | (obtain ⟨_, hf⟩ := hf)))
    exact grows_eqv (by rfl) hC (run_eql_key2 a b t hT.out rfl rfl rfl _)
  simp only [Act.put, List.setIfInBounds_toArray, List.set_cons_succ, List.set_cons_zero, List.nil_append, List.cons_append]
  refine wpRely_cons (fun w' hC hf => ?_) (fun v27 => ?_)
  · (repeat (first | (obtain ⟨rfl, hf⟩ := hf) | (obtain ⟨⟨q, rfl, hq⟩, hf⟩ := hf) | (obtain ⟨_, hf⟩ := hf)))
    exact grows_eqv (by rfl) hC (by go_simp)
  simp only [Act.put, List.setIfInBounds_toArray, List.set_cons_succ, List.set_cons_zero, List.nil_append, List.cons_append]
  refine wpRely_cons (fun w' hC hf => ?_) (fun v28 => ?_)
  · (repeat (first | (obtain ⟨rfl, hf⟩ := hf) | (obtain ⟨⟨q, rfl, hq⟩, hf⟩ := hf) | (obtain ⟨_, hf⟩ := hf)))
    exact grows_eqv (by rfl) hC (by go_simp)
  simp only [Act.put, List.setIfInBounds_toArray, List.set_cons_succ, List.set_cons_zero, List.nil_append, List.cons_append]
  refine wpRely_cons (fun w' hC hf => ?_) (fun v29 => ?_)
  · (repeat (first | (obtain ⟨rfl, hf⟩ := hf) | (obtain ⟨⟨q, rfl, hq⟩, hf⟩ := hf) | (obtain ⟨_, hf⟩ := hf)))
    exact grows_eqv (by rfl) hC (by go_simp)
  simp only [Act.put, List.setIfInBounds_toArray, List.set_cons_succ, List.set_cons_zero, List.nil_append, List.cons_append]
  refine wpRely_cons (fun w' hC hf => ?_) (fun v30 => ?_)
  · (repeat (first | (obtain ⟨rfl, hf⟩ := hf) | (obtain ⟨⟨q, rfl, hq⟩, hf⟩ := hf) | (obtain ⟨_, hf⟩ := hf)))
    exact grows_eqv (by rfl) hC (by go_simp)
  simp only [Act.put, List.setIfInBounds_toArray, List.set_cons_succ, List.set_cons_zero, List.nil_append, List.cons_append]
  refine wpRely_cons (fun w' hC hf => ?_) (fun v31 => ?_)
  · (repeat (first | (obtain ⟨rfl, hf⟩ := hf) | (obtain ⟨⟨q, rfl, hq⟩, hf⟩ := hf) | (obtain ⟨_, hf⟩ := hf)))
    exact grows_load (by rfl) hC rfl rfl (hC.ra) Try.underlying23 rfl (info_key _)
  simp only [Act.put, List.setIfInBounds_toArray, List.set_cons_succ, List.set_cons_zero, List.nil_append, List.cons_append]
  refine wpRely_cons (fun w' hC hf => ?_) (fun v32 => ?_)
  · (repeat (first | (obtain ⟨rfl, hf⟩ := hf) | (obtain ⟨⟨q, rfl, hq⟩, hf⟩ := hf) | (obtain ⟨_, hf⟩ := hf)))
    exact grows_flat hR (by rfl) (by go_simp) ((open_made c key a hk ha w' (Lib.hid hC.mc)).mono fun _ _ h => ⟨h.1, hC.after h.2⟩)
  simp only [Act.put, List.setIfInBounds_toArray, List.set_cons_succ, List.set_cons_zero, List.nil_append, List.cons_append]
  refine wpRely_cons (fun w' hC hf => ?_) (fun v33 => ?_)
  · (repeat (first | (obtain ⟨rfl, hf⟩ := hf) | (obtain ⟨⟨q, rfl, hq⟩, hf⟩ := hf) | (obtain ⟨_, hf⟩ := hf)))
    exact grows_eqv (by rfl) hC (by go_simp)
  simp only [Act.put, List.setIfInBounds_toArray, List.set_cons_succ, List.set_cons_zero, List.nil_append, List.cons_append]
  refine wpRely_cons (fun w' hC hf => ?_) (fun v34 => ?_)
  · (repeat (first | (obtain ⟨rfl, hf⟩ := hf) | (obtain ⟨⟨q, rfl, hq⟩, hf⟩ := hf) | (obtain ⟨_, hf⟩ := hf)))
    exact grows_load (by rfl) hC rfl rfl (hC.rb) Try.underlying23 rfl (info_key _)
  simp only [Act.put, List.setIfInBounds_toArray, List.set_cons_succ, List.set_cons_zero, List.nil_append, List.cons_append]
  refine wpRely_cons (fun w' hC hf => ?_) (fun v35 => ?_)
  · (repeat (first | (obtain ⟨rfl, hf⟩ := hf) | (obtain ⟨⟨q, rfl, hq⟩, hf⟩ := hf) | (obtain ⟨_, hf⟩ := hf)))
    exact grows_flat hR (by rfl) (by go_simp) ((open_made c key b hk hb w' (Lib.hid hC.mc)).mono fun _ _ h => ⟨h.1, hC.after h.2⟩)
  simp only [Act.put, List.setIfInBounds_toArray, List.set_cons_succ, List.set_cons_zero, List.nil_append, List.cons_append]
  refine wpRely_cons (fun w' hC hf => ?_) (fun v36 => ?_)
  · (repeat (first | (obtain ⟨rfl, hf⟩ := hf) | (obtain ⟨⟨q, rfl, hq⟩, hf⟩ := hf) | (obtain ⟨_, hf⟩ := hf)))
    exact grows_eqv (by rfl) hC (run_eql_key2 (openN key a) (openN key b) t hO.out rfl rfl rfl _)
  simp only [Act.put, List.setIfInBounds_toArray, List.set_cons_succ, List.set_cons_zero, List.nil_append, List.cons_append]
  refine wpRely_cons (fun w' hC hf => ?_) (fun v37 => ?_)
  · (repeat (first | (obtain ⟨rfl, hf⟩ := hf) | (obtain ⟨⟨q, rfl, hq⟩, hf⟩ := hf) | (obtain ⟨_, hf⟩ := hf)))
    exact grows_load (by rfl) hC rfl rfl (hC.ra) Try.underlying23 rfl (info_key _)
  simp only [Act.put, List.setIfInBounds_toArray, List.set_cons_succ, List.set_cons_zero, List.nil_append, List.cons_append]
  refine wpRely_cons (fun w' hC hf => ?_) (fun v38 => ?_)
  · (repeat (first | (obtain ⟨rfl, hf⟩ := hf) | (obtain ⟨⟨q, rfl, hq⟩, hf⟩ := hf) | (obtain ⟨_, hf⟩ := hf)))
    exact grows_load (by rfl) hC rfl rfl (hC.rb) Try.underlying23 rfl (info_key _)
  simp only [Act.put, List.setIfInBounds_toArray, List.set_cons_succ, List.set_cons_zero, List.nil_append, List.cons_append]
  refine wpRely_cons (fun w' hC hf => ?_) (fun v39 => ?_)
  · (repeat (first | (obtain ⟨rfl, hf⟩ := hf) | (obtain ⟨⟨q, rfl, hq⟩, hf⟩ := hf) | (obtain ⟨_, hf⟩ := hf)))
    exact grows_eqv (by rfl) hC (run_eql_key2 a b t hT.out rfl rfl rfl _)
  simp only [Act.put, List.setIfInBounds_toArray, List.set_cons_succ, List.set_cons_zero, List.nil_append, List.cons_append]
  refine wpRely_cons (fun w' hC hf => ?_) (fun v40 => ?_)
  · (repeat (first | (obtain ⟨rfl, hf⟩ := hf) | (obtain ⟨⟨q, rfl, hq⟩, hf⟩ := hf) | (obtain ⟨_, hf⟩ := hf)))
    exact grows_eqv (by rfl) hC (by go_simp)
  simp only [Act.put, List.setIfInBounds_toArray, List.set_cons_succ, List.set_cons_zero, List.nil_append, List.cons_append]
  refine wpRely_cons (fun w' hC hf => ?_) (fun v41 => ?_)
  · (repeat (first | (obtain ⟨rfl, hf⟩ := hf) | (obtain ⟨⟨q, rfl, hq⟩, hf⟩ := hf) | (obtain ⟨_, hf⟩ := hf)))
    exact grows_eqv (by rfl) hC (by go_simp)
  simp only [Act.put, List.setIfInBounds_toArray, List.set_cons_succ, List.set_cons_zero, List.nil_append, List.cons_append]
  refine wpRely_cons (fun w' hC hf => ?_) (fun v42 => ?_)
  · (repeat (first | (obtain ⟨rfl, hf⟩ := hf) | (obtain ⟨⟨q, rfl, hq⟩, hf⟩ := hf) | (obtain ⟨_, hf⟩ := hf)))
    exact grows_eqv (by rfl) hC (by go_simp)
  simp only [Act.put, List.setIfInBounds_toArray, List.set_cons_succ, List.set_cons_zero, List.nil_append, List.cons_append]
  refine wpRely_nil fun w9 hC hf => ?_
  replace hC := hC.rest
  obtain ⟨_, _, _, _, _, _, _, _, _, _, _, _, _, _, _, _, _, _, _, _, _, _, _, _, _, _, _, _, _, _, _, _, _, _, _, _, _, _, _, _, _, _, rfl, _⟩ := hf
  go_wp2
  go_ret
  exact ⟨rfl, hC⟩

end Go.Proofs.Ytelalcgmecianaa
