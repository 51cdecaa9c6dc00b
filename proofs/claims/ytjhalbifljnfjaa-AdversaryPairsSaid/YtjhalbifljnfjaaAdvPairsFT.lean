/-
  The walk of AdversaryPairs, where the flags are False and True.
-/
import Derived.Test.YtjhalbifljnfjaaAdvPairsHead
namespace Go.Proofs.Ytjhalbifljnfjaa
open Go.RowKit
set_option linter.unusedVariables false

set_option maxHeartbeats 8000000 in
set_option maxRecDepth 8000 in
theorem pairs_ft (a b : Nat) (ha : a < 65536) (hb : b < 65536) (w : World) :
    Calls Try.prog 7 #[.int .u16 (a : Int), .int .u16 (b : Int), .bool false, .bool true] w fun e w' => e = .returned (.bool true) ∧ Below w.heap.size w w' := by
  have s0 := Lib.hid (sees_pairs a b w)
  have b0 : Below w.heap.size w (w.alloc (.cells #[.int .i64 0, .int .i64 (a : Int), .int .i64 0, .int .i64 0, .int .i64 (70000 + (b : Int)), .int .i64 0, .int .i64 2, .int .i64 0, .int .i64 1, .int .i64 1, .int .i64 1, .int .i64 0, .int .i64 1, .int .i64 2, .int .i64 0, .int .i64 3, .int .i64 3, .int .i64 2, .int .i64 3, .int .i64 4, .int .i64 5] 42)) := (Below.refl _ _).alloc (Nat.le_refl _) _
  obtain ⟨x0, x1, x2, x5⟩ := pairs_x ha hb false true
  obtain ⟨y2, y5⟩ := pairs_y ha hb
  have at0 := Lib.hid (pairs_atoms ha hb false true)
  have hm := pairs_may ha hb
  have hN : Hid (knN (pairsK a b) 7 = 7) := by unfold Hid knN; rw [hm]; rfl
  replace x0 := Lib.hid x0
  replace x1 := Lib.hid x1
  replace x2 := Lib.hid x2
  replace x5 := Lib.hid x5
  replace y2 := Lib.hid y2
  replace y5 := Lib.hid y5
  clear hm
  have eL : pairsL false true = [6, 4] := rfl
  rw [eL] at x0 x1 x2 x5 at0
  clear eL
  generalize pairsK a b = K at *
  go_enter Try.func7, Try.ntmps7
  repeat (first | (with_reducible refine wp_stop (id := 2) ?_) | go_values | go_skip | go_guarded | go_step | go_upon | go_back)
  unfold Hid
  generalize (w.alloc (.cells #[.int .i64 0, .int .i64 (a : Int), .int .i64 0, .int .i64 0, .int .i64 (70000 + (b : Int)), .int .i64 0, .int .i64 2, .int .i64 0, .int .i64 1, .int .i64 1, .int .i64 1, .int .i64 0, .int .i64 1, .int .i64 2, .int .i64 0, .int .i64 3, .int .i64 3, .int .i64 2, .int .i64 3, .int .i64 4, .int .i64 5] 42)) = w1 at *
  have o1 := Lib.hid (own_one w1 w1.heap.size (Nat.le_refl _) 6)
  have q1 : Below w1.heap.size w1 (w1.alloc (.cells #[.int .i64 6] 3)) := (Below.refl _ _).alloc (Nat.le_refl _) _
  repeat (first | (with_reducible refine wp_stop (id := 6) ?_) | go_values | go_skip | go_guarded | go_step | go_upon | go_back)
  unfold Hid
  generalize w1.alloc (.cells #[.int .i64 6] 3) = wA at *
  go_wp2_with (first | (at_builtin; refine wpList_append_z rfl _ _ rfl w1.heap.size _ [6] _ rfl wA o1.out rfl rfl rfl (by decide) q1.size ?_; intro v2 w2 h2 g2 c2; refine Hid.out ?_))
  unfold Hid
  have q2 := q1.trans c2.out
  have o2 : Hid (w2.ownsRow w1.heap.size 3 1 v2 ([6, 4] : List Int).length (zCells [6, 4])) := h2
  clear g2 h2 c2 o1 q1
  obtain ⟨ak, ck, ek, sk⟩ := own_zs_see o2.out
  subst ek
  have sn := Lib.hid (s0.out.after q2)
  have b1 := b0.trans (q2.mono b0.size)
  replace sk := Lib.hid sk
  have M1 := advKnows_any K 7 (some ⟨w.heap.size, 0, none⟩) ak 7 _ ck (by decide) (by decide) _ _ sn sk
  rw [hN.out] at M1
  replace M1 := Lib.hid M1
  clear o2 q2 b0 s0
  go_wp2_with fail
  refine M1.out.mono ?_
  rintro e w5 ⟨v5, rfl, own5, hb5⟩
  obtain ⟨px, qx, rfl, sx⟩ := own_bools_see own5.out
  replace sx := Lib.hid sx
  have sn5 := Lib.hid (sn.out.after hb5)
  have sk5 := Lib.hid (sk.out.after hb5)
  have b5 := b1.trans (hb5.mono b1.size)
  clear M1 own5 sn sk hb5 b1
  have a6 : Below w5.heap.size w5 (w5.alloc (.cells #[.int .i64 0, .int .i64 1] 3)) := (Below.refl _ _).alloc (Nat.le_refl _) _
  have M2 := advKnows_any K 7 (some ⟨w.heap.size, 0, none⟩) (some ⟨w5.heap.size, 0, none⟩) 7 2 2 (by decide) (by decide) (fun j => ([0, 1] : List Int).getD j 0) _ (Lib.hid (sn5.out.after a6)) (sees_z2 w5 0 1)
  rw [hN.out] at M2
  replace M2 := Lib.hid M2
  go_wp2_with fail
  refine M2.out.mono ?_
  rintro e w7 ⟨v7, rfl, own7, hb7⟩
  obtain ⟨py, qy, rfl, sy⟩ := own_bools_see own7.out
  replace sy := Lib.hid sy
  have a7 := a6.trans (hb7.mono a6.size)
  have sn7 := Lib.hid (sn5.out.after a7)
  have sk7 := Lib.hid (sk5.out.after a7)
  have sx7 := Lib.hid (sx.out.after a7)
  have b7 := b5.trans (a7.mono b5.size)
  clear M2 own7 sn5 sk5 sx hb7 b5 a6 a7
  have gx0 := Lib.hid (sx7.out.cell (show 0 < 7 by decide))
  unfold boolV at gx0
  rw [x0.out] at gx0
  have gx1 := Lib.hid (sx7.out.cell (show 1 < 7 by decide))
  unfold boolV at gx1
  rw [x1.out] at gx1
  have gx2 := Lib.hid (sx7.out.cell (show 2 < 7 by decide))
  unfold boolV at gx2
  rw [x2.out] at gx2
  have gx5 := Lib.hid (sx7.out.cell (show 5 < 7 by decide))
  unfold boolV at gx5
  rw [x5.out] at gx5
  have gy2 := Lib.hid (sy.out.cell (show 2 < 7 by decide))
  unfold boolV at gy2
  rw [y2.out] at gy2
  have gy5 := Lib.hid (sy.out.cell (show 5 < 7 by decide))
  unfold boolV at gy5
  rw [y5.out] at gy5
  have At : ∀ w', Below w7.heap.size w7 w' → Calls Try.prog 17 #[.slice (some ⟨w.heap.size, 0, none⟩) 7 7, .slice ak ([6, 4] : List Int).length ck] w' fun e w2 => ∃ v, e = .returned v ∧ (∃ ao co, v = .slice ao 0 co) ∧ Below w'.heap.size w' w2 := fun w' hb => by
    have A1 := advAtoms_any K 7 (by decide) (some ⟨w.heap.size, 0, none⟩) ak 7 _ ck (by decide) (by decide) _ w' (sn7.out.after hb) (sk7.out.after hb)
    rw [hN.out] at A1
    refine A1.mono fun e w2 ⟨v, h1, h2, h3⟩ => ⟨v, h1, ?_, h3⟩
    obtain ⟨ao, co, e, _⟩ := own_zs_see h2.out
    have h0 := at0.out
    exact ⟨ao, co, by rw [e]; congr 1⟩
  replace At := Lib.hid At
  have cx0 : Hid (∀ w', Below w7.heap.size w7 w' → w'.cell? (elV px 0) = some (.bool false)) := fun w' hb => by
    rw [SeesV.cell (sx7.out.after hb) (show 0 < 7 by decide)]; unfold boolV; rw [x0.out]
    all_goals rfl
  have cx1 : Hid (∀ w', Below w7.heap.size w7 w' → w'.cell? (elV px 1) = some (.bool false)) := fun w' hb => by
    rw [SeesV.cell (sx7.out.after hb) (show 1 < 7 by decide)]; unfold boolV; rw [x1.out]
    all_goals rfl
  have cx2 : Hid (∀ w', Below w7.heap.size w7 w' → w'.cell? (elV px 2) = some (.bool false)) := fun w' hb => by
    rw [SeesV.cell (sx7.out.after hb) (show 2 < 7 by decide)]; unfold boolV; rw [x2.out]
    all_goals rfl
  have cx5 : Hid (∀ w', Below w7.heap.size w7 w' → w'.cell? (elV px 5) = some (.bool true)) := fun w' hb => by
    rw [SeesV.cell (sx7.out.after hb) (show 5 < 7 by decide)]; unfold boolV; rw [x5.out]
    all_goals rfl
  have cy2 : Hid (∀ w', Below w7.heap.size w7 w' → w'.cell? (elV py 2) = some (.bool true)) := fun w' hb => by
    rw [SeesV.cell (sy.out.after hb) (show 2 < 7 by decide)]; unfold boolV; rw [y2.out]
    all_goals rfl
  have cy5 : Hid (∀ w', Below w7.heap.size w7 w' → w'.cell? (elV py 5) = some (.bool false)) := fun w' hb => by
    rw [SeesV.cell (sy.out.after hb) (show 5 < 7 by decide)]; unfold boolV; rw [y5.out]
    all_goals rfl
  have HC : Below w7.heap.size w7 w7.drew := (Below.refl _ _).drew
  clear gx0 gx1 gx2 gx5 gy2 gy5 x0 x1 x2 x5 y2 y5 at0 hN
  simp only []
  go_at_K
  repeat (first | (with_reducible refine wp_stop (id := 9) ?_) | go_values | go_skip | go_guarded | go_step | go_upon | go_back)
  unfold Hid
  dsimp only [List.append]
  skip
  refine wp_region_steady (fun w' => Below w7.heap.size w7 w') [eqv (.slice px 7 qx), eqv (.int .i64 7), eqv (.bool true), eqv (.bool true), eqv (.slice py 7 qy), eqv (.int .i64 7), eqv (.bool true), eqv (.bool true), eqv (.bool true), eqv (.slice px 7 qx), eqv (.pointer (some (elV px 5))), eqv (.bool true), eqv (.bool true), eqv (.bool true), eqv (.bool true), eqv (.bool true), eqv (.slice px 7 qx), eqv (.pointer (some (elV px 2))), eqv (.bool false), eqv (.bool false), eqv (.bool false), eqv undef, eqv (.bool false), eqv (.bool true), eqv (.bool true), eqv (.bool true), eqv (.slice px 7 qx), eqv (.pointer (some (elV px 0))), eqv (.bool false), eqv (.slice px 7 qx), eqv (.pointer (some (elV px 2))), eqv (.bool false), eqv (.bool true), eqv (.bool true), eqv (.bool true), eqv (.slice px 7 qx), eqv (.pointer (some (elV px 1))), eqv (.bool false), eqv (.slice px 7 qx), eqv (.pointer (some (elV px 2))), eqv (.bool false), eqv (.bool true), eqv (.bool true), eqv (.bool true), eqv (.slice py 7 qy), eqv (.pointer (some (elV py 2))), eqv (.bool true), eqv (.bool true), eqv (.bool true), eqv (.slice py 7 qy), eqv (.pointer (some (elV py 5))), eqv (.bool false), eqv (.bool true), eqv (.bool true), eqv (.bool true), eqv (.slice (some ⟨w.heap.size, 0, none⟩) 7 7), eqv (.slice ak ([6, 4] : List Int).length ck), lenv 0, eqv (.int .i64 0), eqv (.bool false), eqv (.bool false), eqv undef, eqv (.bool false), eqv (.int .i64 0), eqv (.int .i64 0), eqv (.bool true), eqv (.bool true), eqv (.bool true), eqv (.bool true), eqv (.bool true), eqv (.bool true)] (by kernel_rfl) (by kernel_rfl) HC
    (.cons (steady_eqv _) (.cons (steady_eqv _) (.cons (steady_eqv _) (.cons (steady_eqv _) (.cons (steady_eqv _) (.cons (steady_eqv _) (.cons (steady_eqv _) (.cons (steady_eqv _) (.cons (steady_eqv _) (.cons (steady_eqv _) (.cons (steady_eqv _) (.cons (steady_eqv _) (.cons (steady_eqv _) (.cons (steady_eqv _) (.cons (steady_eqv _) (.cons (steady_eqv _) (.cons (steady_eqv _) (.cons (steady_eqv _) (.cons (steady_eqv _) (.cons (steady_eqv _) (.cons (steady_eqv _) (.cons (steady_eqv _) (.cons (steady_eqv _) (.cons (steady_eqv _) (.cons (steady_eqv _) (.cons (steady_eqv _) (.cons (steady_eqv _) (.cons (steady_eqv _) (.cons (steady_eqv _) (.cons (steady_eqv _) (.cons (steady_eqv _) (.cons (steady_eqv _) (.cons (steady_eqv _) (.cons (steady_eqv _) (.cons (steady_eqv _) (.cons (steady_eqv _) (.cons (steady_eqv _) (.cons (steady_eqv _) (.cons (steady_eqv _) (.cons (steady_eqv _) (.cons (steady_eqv _) (.cons (steady_eqv _) (.cons (steady_eqv _) (.cons (steady_eqv _) (.cons (steady_eqv _) (.cons (steady_eqv _) (.cons (steady_eqv _) (.cons (steady_eqv _) (.cons (steady_eqv _) (.cons (steady_eqv _) (.cons (steady_eqv _) (.cons (steady_eqv _) (.cons (steady_eqv _) (.cons (steady_eqv _) (.cons (steady_eqv _) (.cons (steady_eqv _) (.cons (steady_eqv _) (.cons (steady_lenv _) (.cons (steady_eqv _) (.cons (steady_eqv _) (.cons (steady_eqv _) (.cons (steady_eqv _) (.cons (steady_eqv _) (.cons (steady_eqv _) (.cons (steady_eqv _) (.cons (steady_eqv _) (.cons (steady_eqv _) (.cons (steady_eqv _) (.cons (steady_eqv _) (.cons (steady_eqv _) (.cons (steady_eqv _) .nil))))))))))))))))))))))))))))))))))))))))))))))))))))))))))))))))))))))) ?_
  intro R hR
  refine wpRely_cons (fun w' hC hf => ?_) (fun v0 => ?_)
  · (repeat (first | (obtain ⟨rfl, hf⟩ := hf) | (obtain ⟨⟨q, q2, rfl⟩, hf⟩ := hf) | (obtain ⟨_, hf⟩ := hf)))
    exact grows_eqv (by rfl) hC (by go_simp)
  simp only [Act.put, List.setIfInBounds_toArray, List.set_cons_succ, List.set_cons_zero, List.nil_append]
  refine wpRely_cons (fun w' hC hf => ?_) (fun v1 => ?_)
  · (repeat (first | (obtain ⟨rfl, hf⟩ := hf) | (obtain ⟨⟨q, q2, rfl⟩, hf⟩ := hf) | (obtain ⟨_, hf⟩ := hf)))
    exact grows_eqv (by rfl) hC (by go_simp)
  simp only [Act.put, List.setIfInBounds_toArray, List.set_cons_succ, List.set_cons_zero, List.nil_append, List.cons_append]
  refine wpRely_cons (fun w' hC hf => ?_) (fun v2 => ?_)
  · (repeat (first | (obtain ⟨rfl, hf⟩ := hf) | (obtain ⟨⟨q, q2, rfl⟩, hf⟩ := hf) | (obtain ⟨_, hf⟩ := hf)))
    exact grows_eqv (by rfl) hC (by go_simp)
  simp only [Act.put, List.setIfInBounds_toArray, List.set_cons_succ, List.set_cons_zero, List.nil_append, List.cons_append]
  refine wpRely_cons (fun w' hC hf => ?_) (fun v3 => ?_)
  · (repeat (first | (obtain ⟨rfl, hf⟩ := hf) | (obtain ⟨⟨q, q2, rfl⟩, hf⟩ := hf) | (obtain ⟨_, hf⟩ := hf)))
    exact grows_eqv (by rfl) hC (by go_simp)
  simp only [Act.put, List.setIfInBounds_toArray, List.set_cons_succ, List.set_cons_zero, List.nil_append, List.cons_append]
  refine wpRely_cons (fun w' hC hf => ?_) (fun v4 => ?_)
  · (repeat (first | (obtain ⟨rfl, hf⟩ := hf) | (obtain ⟨⟨q, q2, rfl⟩, hf⟩ := hf) | (obtain ⟨_, hf⟩ := hf)))
    exact grows_eqv (by rfl) hC (by go_simp)
  simp only [Act.put, List.setIfInBounds_toArray, List.set_cons_succ, List.set_cons_zero, List.nil_append, List.cons_append]
  refine wpRely_cons (fun w' hC hf => ?_) (fun v5 => ?_)
  · (repeat (first | (obtain ⟨rfl, hf⟩ := hf) | (obtain ⟨⟨q, q2, rfl⟩, hf⟩ := hf) | (obtain ⟨_, hf⟩ := hf)))
    exact grows_eqv (by rfl) hC (by go_simp)
  simp only [Act.put, List.setIfInBounds_toArray, List.set_cons_succ, List.set_cons_zero, List.nil_append, List.cons_append]
  refine wpRely_cons (fun w' hC hf => ?_) (fun v6 => ?_)
  · (repeat (first | (obtain ⟨rfl, hf⟩ := hf) | (obtain ⟨⟨q, q2, rfl⟩, hf⟩ := hf) | (obtain ⟨_, hf⟩ := hf)))
    exact grows_eqv (by rfl) hC (by go_simp)
  simp only [Act.put, List.setIfInBounds_toArray, List.set_cons_succ, List.set_cons_zero, List.nil_append, List.cons_append]
  refine wpRely_cons (fun w' hC hf => ?_) (fun v7 => ?_)
  · (repeat (first | (obtain ⟨rfl, hf⟩ := hf) | (obtain ⟨⟨q, q2, rfl⟩, hf⟩ := hf) | (obtain ⟨_, hf⟩ := hf)))
    exact grows_eqv (by rfl) hC (by go_simp)
  simp only [Act.put, List.setIfInBounds_toArray, List.set_cons_succ, List.set_cons_zero, List.nil_append, List.cons_append]
  refine wpRely_cons (fun w' hC hf => ?_) (fun v8 => ?_)
  · (repeat (first | (obtain ⟨rfl, hf⟩ := hf) | (obtain ⟨⟨q, q2, rfl⟩, hf⟩ := hf) | (obtain ⟨_, hf⟩ := hf)))
    exact grows_eqv (by rfl) hC (by go_simp)
  simp only [Act.put, List.setIfInBounds_toArray, List.set_cons_succ, List.set_cons_zero, List.nil_append, List.cons_append]
  refine wpRely_cons (fun w' hC hf => ?_) (fun v9 => ?_)
  · (repeat (first | (obtain ⟨rfl, hf⟩ := hf) | (obtain ⟨⟨q, q2, rfl⟩, hf⟩ := hf) | (obtain ⟨_, hf⟩ := hf)))
    exact grows_eqv (by rfl) hC (by go_simp)
  simp only [Act.put, List.setIfInBounds_toArray, List.set_cons_succ, List.set_cons_zero, List.nil_append, List.cons_append]
  refine wpRely_cons (fun w' hC hf => ?_) (fun v10 => ?_)
  · (repeat (first | (obtain ⟨rfl, hf⟩ := hf) | (obtain ⟨⟨q, q2, rfl⟩, hf⟩ := hf) | (obtain ⟨_, hf⟩ := hf)))
    exact grows_eqv (by rfl) hC (at_bools sx7.out (show 5 < 7 by decide) rfl rfl rfl rfl _)
  simp only [Act.put, List.setIfInBounds_toArray, List.set_cons_succ, List.set_cons_zero, List.nil_append, List.cons_append]
  refine wpRely_cons (fun w' hC hf => ?_) (fun v11 => ?_)
  · (repeat (first | (obtain ⟨rfl, hf⟩ := hf) | (obtain ⟨⟨q, q2, rfl⟩, hf⟩ := hf) | (obtain ⟨_, hf⟩ := hf)))
    exact grows_eqv (by rfl) hC (get_bool (cx5.out w' hC) rfl rfl)
  simp only [Act.put, List.setIfInBounds_toArray, List.set_cons_succ, List.set_cons_zero, List.nil_append, List.cons_append]
  refine wpRely_cons (fun w' hC hf => ?_) (fun v12 => ?_)
  · (repeat (first | (obtain ⟨rfl, hf⟩ := hf) | (obtain ⟨⟨q, q2, rfl⟩, hf⟩ := hf) | (obtain ⟨_, hf⟩ := hf)))
    exact grows_eqv (by rfl) hC (by go_simp)
  simp only [Act.put, List.setIfInBounds_toArray, List.set_cons_succ, List.set_cons_zero, List.nil_append, List.cons_append]
  refine wpRely_cons (fun w' hC hf => ?_) (fun v13 => ?_)
  · (repeat (first | (obtain ⟨rfl, hf⟩ := hf) | (obtain ⟨⟨q, q2, rfl⟩, hf⟩ := hf) | (obtain ⟨_, hf⟩ := hf)))
    exact grows_eqv (by rfl) hC (by go_simp)
  simp only [Act.put, List.setIfInBounds_toArray, List.set_cons_succ, List.set_cons_zero, List.nil_append, List.cons_append]
  refine wpRely_cons (fun w' hC hf => ?_) (fun v14 => ?_)
  · (repeat (first | (obtain ⟨rfl, hf⟩ := hf) | (obtain ⟨⟨q, q2, rfl⟩, hf⟩ := hf) | (obtain ⟨_, hf⟩ := hf)))
    exact grows_eqv (by rfl) hC (by go_simp)
  simp only [Act.put, List.setIfInBounds_toArray, List.set_cons_succ, List.set_cons_zero, List.nil_append, List.cons_append]
  refine wpRely_cons (fun w' hC hf => ?_) (fun v15 => ?_)
  · (repeat (first | (obtain ⟨rfl, hf⟩ := hf) | (obtain ⟨⟨q, q2, rfl⟩, hf⟩ := hf) | (obtain ⟨_, hf⟩ := hf)))
    exact grows_eqv (by rfl) hC (by go_simp)
  simp only [Act.put, List.setIfInBounds_toArray, List.set_cons_succ, List.set_cons_zero, List.nil_append, List.cons_append]
  refine wpRely_cons (fun w' hC hf => ?_) (fun v16 => ?_)
  · (repeat (first | (obtain ⟨rfl, hf⟩ := hf) | (obtain ⟨⟨q, q2, rfl⟩, hf⟩ := hf) | (obtain ⟨_, hf⟩ := hf)))
    exact grows_eqv (by rfl) hC (by go_simp)
  simp only [Act.put, List.setIfInBounds_toArray, List.set_cons_succ, List.set_cons_zero, List.nil_append, List.cons_append]
  refine wpRely_cons (fun w' hC hf => ?_) (fun v17 => ?_)
  · (repeat (first | (obtain ⟨rfl, hf⟩ := hf) | (obtain ⟨⟨q, q2, rfl⟩, hf⟩ := hf) | (obtain ⟨_, hf⟩ := hf)))
    exact grows_eqv (by rfl) hC (at_bools sx7.out (show 2 < 7 by decide) rfl rfl rfl rfl _)
  simp only [Act.put, List.setIfInBounds_toArray, List.set_cons_succ, List.set_cons_zero, List.nil_append, List.cons_append]
  refine wpRely_cons (fun w' hC hf => ?_) (fun v18 => ?_)
  · (repeat (first | (obtain ⟨rfl, hf⟩ := hf) | (obtain ⟨⟨q, q2, rfl⟩, hf⟩ := hf) | (obtain ⟨_, hf⟩ := hf)))
    exact grows_eqv (by rfl) hC (get_bool (cx2.out w' hC) rfl rfl)
  simp only [Act.put, List.setIfInBounds_toArray, List.set_cons_succ, List.set_cons_zero, List.nil_append, List.cons_append]
  refine wpRely_cons (fun w' hC hf => ?_) (fun v19 => ?_)
  · (repeat (first | (obtain ⟨rfl, hf⟩ := hf) | (obtain ⟨⟨q, q2, rfl⟩, hf⟩ := hf) | (obtain ⟨_, hf⟩ := hf)))
    exact grows_eqv (by rfl) hC (by go_simp)
  simp only [Act.put, List.setIfInBounds_toArray, List.set_cons_succ, List.set_cons_zero, List.nil_append, List.cons_append]
  refine wpRely_cons (fun w' hC hf => ?_) (fun v20 => ?_)
  · (repeat (first | (obtain ⟨rfl, hf⟩ := hf) | (obtain ⟨⟨q, q2, rfl⟩, hf⟩ := hf) | (obtain ⟨_, hf⟩ := hf)))
    exact grows_eqv (by rfl) hC (by go_simp)
  simp only [Act.put, List.setIfInBounds_toArray, List.set_cons_succ, List.set_cons_zero, List.nil_append, List.cons_append]
  refine wpRely_cons (fun w' hC hf => ?_) (fun v21 => ?_)
  · (repeat (first | (obtain ⟨rfl, hf⟩ := hf) | (obtain ⟨⟨q, q2, rfl⟩, hf⟩ := hf) | (obtain ⟨_, hf⟩ := hf)))
    exact grows_none (by rfl) hC rfl
  simp only [Act.put, List.setIfInBounds_toArray, List.set_cons_succ, List.set_cons_zero, List.nil_append, List.cons_append]
  refine wpRely_cons (fun w' hC hf => ?_) (fun v22 => ?_)
  · (repeat (first | (obtain ⟨rfl, hf⟩ := hf) | (obtain ⟨⟨q, q2, rfl⟩, hf⟩ := hf) | (obtain ⟨_, hf⟩ := hf)))
    exact grows_eqv (by rfl) hC (by go_simp)
  simp only [Act.put, List.setIfInBounds_toArray, List.set_cons_succ, List.set_cons_zero, List.nil_append, List.cons_append]
  refine wpRely_cons (fun w' hC hf => ?_) (fun v23 => ?_)
  · (repeat (first | (obtain ⟨rfl, hf⟩ := hf) | (obtain ⟨⟨q, q2, rfl⟩, hf⟩ := hf) | (obtain ⟨_, hf⟩ := hf)))
    exact grows_eqv (by rfl) hC (by go_simp)
  simp only [Act.put, List.setIfInBounds_toArray, List.set_cons_succ, List.set_cons_zero, List.nil_append, List.cons_append]
  refine wpRely_cons (fun w' hC hf => ?_) (fun v24 => ?_)
  · (repeat (first | (obtain ⟨rfl, hf⟩ := hf) | (obtain ⟨⟨q, q2, rfl⟩, hf⟩ := hf) | (obtain ⟨_, hf⟩ := hf)))
    exact grows_eqv (by rfl) hC (by go_simp)
  simp only [Act.put, List.setIfInBounds_toArray, List.set_cons_succ, List.set_cons_zero, List.nil_append, List.cons_append]
  refine wpRely_cons (fun w' hC hf => ?_) (fun v25 => ?_)
  · (repeat (first | (obtain ⟨rfl, hf⟩ := hf) | (obtain ⟨⟨q, q2, rfl⟩, hf⟩ := hf) | (obtain ⟨_, hf⟩ := hf)))
    exact grows_eqv (by rfl) hC (by go_simp)
  simp only [Act.put, List.setIfInBounds_toArray, List.set_cons_succ, List.set_cons_zero, List.nil_append, List.cons_append]
  refine wpRely_cons (fun w' hC hf => ?_) (fun v26 => ?_)
  · (repeat (first | (obtain ⟨rfl, hf⟩ := hf) | (obtain ⟨⟨q, q2, rfl⟩, hf⟩ := hf) | (obtain ⟨_, hf⟩ := hf)))
    exact grows_eqv (by rfl) hC (by go_simp)
  simp only [Act.put, List.setIfInBounds_toArray, List.set_cons_succ, List.set_cons_zero, List.nil_append, List.cons_append]
  refine wpRely_cons (fun w' hC hf => ?_) (fun v27 => ?_)
  · (repeat (first | (obtain ⟨rfl, hf⟩ := hf) | (obtain ⟨⟨q, q2, rfl⟩, hf⟩ := hf) | (obtain ⟨_, hf⟩ := hf)))
    exact grows_eqv (by rfl) hC (at_bools sx7.out (show 0 < 7 by decide) rfl rfl rfl rfl _)
  simp only [Act.put, List.setIfInBounds_toArray, List.set_cons_succ, List.set_cons_zero, List.nil_append, List.cons_append]
  refine wpRely_cons (fun w' hC hf => ?_) (fun v28 => ?_)
  · (repeat (first | (obtain ⟨rfl, hf⟩ := hf) | (obtain ⟨⟨q, q2, rfl⟩, hf⟩ := hf) | (obtain ⟨_, hf⟩ := hf)))
    exact grows_eqv (by rfl) hC (get_bool (cx0.out w' hC) rfl rfl)
  simp only [Act.put, List.setIfInBounds_toArray, List.set_cons_succ, List.set_cons_zero, List.nil_append, List.cons_append]
  refine wpRely_cons (fun w' hC hf => ?_) (fun v29 => ?_)
  · (repeat (first | (obtain ⟨rfl, hf⟩ := hf) | (obtain ⟨⟨q, q2, rfl⟩, hf⟩ := hf) | (obtain ⟨_, hf⟩ := hf)))
    exact grows_eqv (by rfl) hC (by go_simp)
  simp only [Act.put, List.setIfInBounds_toArray, List.set_cons_succ, List.set_cons_zero, List.nil_append, List.cons_append]
  refine wpRely_cons (fun w' hC hf => ?_) (fun v30 => ?_)
  · (repeat (first | (obtain ⟨rfl, hf⟩ := hf) | (obtain ⟨⟨q, q2, rfl⟩, hf⟩ := hf) | (obtain ⟨_, hf⟩ := hf)))
    exact grows_eqv (by rfl) hC (at_bools sx7.out (show 2 < 7 by decide) rfl rfl rfl rfl _)
  simp only [Act.put, List.setIfInBounds_toArray, List.set_cons_succ, List.set_cons_zero, List.nil_append, List.cons_append]
  refine wpRely_cons (fun w' hC hf => ?_) (fun v31 => ?_)
  · (repeat (first | (obtain ⟨rfl, hf⟩ := hf) | (obtain ⟨⟨q, q2, rfl⟩, hf⟩ := hf) | (obtain ⟨_, hf⟩ := hf)))
    exact grows_eqv (by rfl) hC (get_bool (cx2.out w' hC) rfl rfl)
  simp only [Act.put, List.setIfInBounds_toArray, List.set_cons_succ, List.set_cons_zero, List.nil_append, List.cons_append]
  refine wpRely_cons (fun w' hC hf => ?_) (fun v32 => ?_)
  · (repeat (first | (obtain ⟨rfl, hf⟩ := hf) | (obtain ⟨⟨q, q2, rfl⟩, hf⟩ := hf) | (obtain ⟨_, hf⟩ := hf)))
    exact grows_eqv (by rfl) hC (by go_simp)
  simp only [Act.put, List.setIfInBounds_toArray, List.set_cons_succ, List.set_cons_zero, List.nil_append, List.cons_append]
  refine wpRely_cons (fun w' hC hf => ?_) (fun v33 => ?_)
  · (repeat (first | (obtain ⟨rfl, hf⟩ := hf) | (obtain ⟨⟨q, q2, rfl⟩, hf⟩ := hf) | (obtain ⟨_, hf⟩ := hf)))
    exact grows_eqv (by rfl) hC (by go_simp)
  simp only [Act.put, List.setIfInBounds_toArray, List.set_cons_succ, List.set_cons_zero, List.nil_append, List.cons_append]
  refine wpRely_cons (fun w' hC hf => ?_) (fun v34 => ?_)
  · (repeat (first | (obtain ⟨rfl, hf⟩ := hf) | (obtain ⟨⟨q, q2, rfl⟩, hf⟩ := hf) | (obtain ⟨_, hf⟩ := hf)))
    exact grows_eqv (by rfl) hC (by go_simp)
  simp only [Act.put, List.setIfInBounds_toArray, List.set_cons_succ, List.set_cons_zero, List.nil_append, List.cons_append]
  refine wpRely_cons (fun w' hC hf => ?_) (fun v35 => ?_)
  · (repeat (first | (obtain ⟨rfl, hf⟩ := hf) | (obtain ⟨⟨q, q2, rfl⟩, hf⟩ := hf) | (obtain ⟨_, hf⟩ := hf)))
    exact grows_eqv (by rfl) hC (by go_simp)
  simp only [Act.put, List.setIfInBounds_toArray, List.set_cons_succ, List.set_cons_zero, List.nil_append, List.cons_append]
  refine wpRely_cons (fun w' hC hf => ?_) (fun v36 => ?_)
  · (repeat (first | (obtain ⟨rfl, hf⟩ := hf) | (obtain ⟨⟨q, q2, rfl⟩, hf⟩ := hf) | (obtain ⟨_, hf⟩ := hf)))
    exact grows_eqv (by rfl) hC (at_bools sx7.out (show 1 < 7 by decide) rfl rfl rfl rfl _)
  simp only [Act.put, List.setIfInBounds_toArray, List.set_cons_succ, List.set_cons_zero, List.nil_append, List.cons_append]
  refine wpRely_cons (fun w' hC hf => ?_) (fun v37 => ?_)
  · (repeat (first | (obtain ⟨rfl, hf⟩ := hf) | (obtain ⟨⟨q, q2, rfl⟩, hf⟩ := hf) | (obtain ⟨_, hf⟩ := hf)))
    exact grows_eqv (by rfl) hC (get_bool (cx1.out w' hC) rfl rfl)
  simp only [Act.put, List.setIfInBounds_toArray, List.set_cons_succ, List.set_cons_zero, List.nil_append, List.cons_append]
  refine wpRely_cons (fun w' hC hf => ?_) (fun v38 => ?_)
  · (repeat (first | (obtain ⟨rfl, hf⟩ := hf) | (obtain ⟨⟨q, q2, rfl⟩, hf⟩ := hf) | (obtain ⟨_, hf⟩ := hf)))
    exact grows_eqv (by rfl) hC (by go_simp)
  simp only [Act.put, List.setIfInBounds_toArray, List.set_cons_succ, List.set_cons_zero, List.nil_append, List.cons_append]
  refine wpRely_cons (fun w' hC hf => ?_) (fun v39 => ?_)
  · (repeat (first | (obtain ⟨rfl, hf⟩ := hf) | (obtain ⟨⟨q, q2, rfl⟩, hf⟩ := hf) | (obtain ⟨_, hf⟩ := hf)))
    exact grows_eqv (by rfl) hC (at_bools sx7.out (show 2 < 7 by decide) rfl rfl rfl rfl _)
  simp only [Act.put, List.setIfInBounds_toArray, List.set_cons_succ, List.set_cons_zero, List.nil_append, List.cons_append]
  refine wpRely_cons (fun w' hC hf => ?_) (fun v40 => ?_)
  · (repeat (first | (obtain ⟨rfl, hf⟩ := hf) | (obtain ⟨⟨q, q2, rfl⟩, hf⟩ := hf) | (obtain ⟨_, hf⟩ := hf)))
    exact grows_eqv (by rfl) hC (get_bool (cx2.out w' hC) rfl rfl)
  simp only [Act.put, List.setIfInBounds_toArray, List.set_cons_succ, List.set_cons_zero, List.nil_append, List.cons_append]
  refine wpRely_cons (fun w' hC hf => ?_) (fun v41 => ?_)
  · (repeat (first | (obtain ⟨rfl, hf⟩ := hf) | (obtain ⟨⟨q, q2, rfl⟩, hf⟩ := hf) | (obtain ⟨_, hf⟩ := hf)))
    exact grows_eqv (by rfl) hC (by go_simp)
  simp only [Act.put, List.setIfInBounds_toArray, List.set_cons_succ, List.set_cons_zero, List.nil_append, List.cons_append]
  refine wpRely_cons (fun w' hC hf => ?_) (fun v42 => ?_)
  · (repeat (first | (obtain ⟨rfl, hf⟩ := hf) | (obtain ⟨⟨q, q2, rfl⟩, hf⟩ := hf) | (obtain ⟨_, hf⟩ := hf)))
    exact grows_eqv (by rfl) hC (by go_simp)
  simp only [Act.put, List.setIfInBounds_toArray, List.set_cons_succ, List.set_cons_zero, List.nil_append, List.cons_append]
  refine wpRely_cons (fun w' hC hf => ?_) (fun v43 => ?_)
  · (repeat (first | (obtain ⟨rfl, hf⟩ := hf) | (obtain ⟨⟨q, q2, rfl⟩, hf⟩ := hf) | (obtain ⟨_, hf⟩ := hf)))
    exact grows_eqv (by rfl) hC (by go_simp)
  simp only [Act.put, List.setIfInBounds_toArray, List.set_cons_succ, List.set_cons_zero, List.nil_append, List.cons_append]
  refine wpRely_cons (fun w' hC hf => ?_) (fun v44 => ?_)
  · (repeat (first | (obtain ⟨rfl, hf⟩ := hf) | (obtain ⟨⟨q, q2, rfl⟩, hf⟩ := hf) | (obtain ⟨_, hf⟩ := hf)))
    exact grows_eqv (by rfl) hC (by go_simp)
  simp only [Act.put, List.setIfInBounds_toArray, List.set_cons_succ, List.set_cons_zero, List.nil_append, List.cons_append]
  refine wpRely_cons (fun w' hC hf => ?_) (fun v45 => ?_)
  · (repeat (first | (obtain ⟨rfl, hf⟩ := hf) | (obtain ⟨⟨q, q2, rfl⟩, hf⟩ := hf) | (obtain ⟨_, hf⟩ := hf)))
    exact grows_eqv (by rfl) hC (at_bools sy.out (show 2 < 7 by decide) rfl rfl rfl rfl _)
  simp only [Act.put, List.setIfInBounds_toArray, List.set_cons_succ, List.set_cons_zero, List.nil_append, List.cons_append]
  refine wpRely_cons (fun w' hC hf => ?_) (fun v46 => ?_)
  · (repeat (first | (obtain ⟨rfl, hf⟩ := hf) | (obtain ⟨⟨q, q2, rfl⟩, hf⟩ := hf) | (obtain ⟨_, hf⟩ := hf)))
    exact grows_eqv (by rfl) hC (get_bool (cy2.out w' hC) rfl rfl)
  simp only [Act.put, List.setIfInBounds_toArray, List.set_cons_succ, List.set_cons_zero, List.nil_append, List.cons_append]
  refine wpRely_cons (fun w' hC hf => ?_) (fun v47 => ?_)
  · (repeat (first | (obtain ⟨rfl, hf⟩ := hf) | (obtain ⟨⟨q, q2, rfl⟩, hf⟩ := hf) | (obtain ⟨_, hf⟩ := hf)))
    exact grows_eqv (by rfl) hC (by go_simp)
  simp only [Act.put, List.setIfInBounds_toArray, List.set_cons_succ, List.set_cons_zero, List.nil_append, List.cons_append]
  refine wpRely_cons (fun w' hC hf => ?_) (fun v48 => ?_)
  · (repeat (first | (obtain ⟨rfl, hf⟩ := hf) | (obtain ⟨⟨q, q2, rfl⟩, hf⟩ := hf) | (obtain ⟨_, hf⟩ := hf)))
    exact grows_eqv (by rfl) hC (by go_simp)
  simp only [Act.put, List.setIfInBounds_toArray, List.set_cons_succ, List.set_cons_zero, List.nil_append, List.cons_append]
  refine wpRely_cons (fun w' hC hf => ?_) (fun v49 => ?_)
  · (repeat (first | (obtain ⟨rfl, hf⟩ := hf) | (obtain ⟨⟨q, q2, rfl⟩, hf⟩ := hf) | (obtain ⟨_, hf⟩ := hf)))
    exact grows_eqv (by rfl) hC (by go_simp)
  simp only [Act.put, List.setIfInBounds_toArray, List.set_cons_succ, List.set_cons_zero, List.nil_append, List.cons_append]
  refine wpRely_cons (fun w' hC hf => ?_) (fun v50 => ?_)
  · (repeat (first | (obtain ⟨rfl, hf⟩ := hf) | (obtain ⟨⟨q, q2, rfl⟩, hf⟩ := hf) | (obtain ⟨_, hf⟩ := hf)))
    exact grows_eqv (by rfl) hC (at_bools sy.out (show 5 < 7 by decide) rfl rfl rfl rfl _)
  simp only [Act.put, List.setIfInBounds_toArray, List.set_cons_succ, List.set_cons_zero, List.nil_append, List.cons_append]
  refine wpRely_cons (fun w' hC hf => ?_) (fun v51 => ?_)
  · (repeat (first | (obtain ⟨rfl, hf⟩ := hf) | (obtain ⟨⟨q, q2, rfl⟩, hf⟩ := hf) | (obtain ⟨_, hf⟩ := hf)))
    exact grows_eqv (by rfl) hC (get_bool (cy5.out w' hC) rfl rfl)
  simp only [Act.put, List.setIfInBounds_toArray, List.set_cons_succ, List.set_cons_zero, List.nil_append, List.cons_append]
  refine wpRely_cons (fun w' hC hf => ?_) (fun v52 => ?_)
  · (repeat (first | (obtain ⟨rfl, hf⟩ := hf) | (obtain ⟨⟨q, q2, rfl⟩, hf⟩ := hf) | (obtain ⟨_, hf⟩ := hf)))
    exact grows_eqv (by rfl) hC (by go_simp)
  simp only [Act.put, List.setIfInBounds_toArray, List.set_cons_succ, List.set_cons_zero, List.nil_append, List.cons_append]
  refine wpRely_cons (fun w' hC hf => ?_) (fun v53 => ?_)
  · (repeat (first | (obtain ⟨rfl, hf⟩ := hf) | (obtain ⟨⟨q, q2, rfl⟩, hf⟩ := hf) | (obtain ⟨_, hf⟩ := hf)))
    exact grows_eqv (by rfl) hC (by go_simp)
  simp only [Act.put, List.setIfInBounds_toArray, List.set_cons_succ, List.set_cons_zero, List.nil_append, List.cons_append]
  refine wpRely_cons (fun w' hC hf => ?_) (fun v54 => ?_)
  · (repeat (first | (obtain ⟨rfl, hf⟩ := hf) | (obtain ⟨⟨q, q2, rfl⟩, hf⟩ := hf) | (obtain ⟨_, hf⟩ := hf)))
    exact grows_eqv (by rfl) hC (by go_simp)
  simp only [Act.put, List.setIfInBounds_toArray, List.set_cons_succ, List.set_cons_zero, List.nil_append, List.cons_append]
  refine wpRely_cons (fun w' hC hf => ?_) (fun v55 => ?_)
  · (repeat (first | (obtain ⟨rfl, hf⟩ := hf) | (obtain ⟨⟨q, q2, rfl⟩, hf⟩ := hf) | (obtain ⟨_, hf⟩ := hf)))
    exact grows_eqv (by rfl) hC (by go_simp)
  simp only [Act.put, List.setIfInBounds_toArray, List.set_cons_succ, List.set_cons_zero, List.nil_append, List.cons_append]
  refine wpRely_cons (fun w' hC hf => ?_) (fun v56 => ?_)
  · (repeat (first | (obtain ⟨rfl, hf⟩ := hf) | (obtain ⟨⟨q, q2, rfl⟩, hf⟩ := hf) | (obtain ⟨_, hf⟩ := hf)))
    exact grows_eqv (by rfl) hC (by go_simp)
  simp only [Act.put, List.setIfInBounds_toArray, List.set_cons_succ, List.set_cons_zero, List.nil_append, List.cons_append]
  refine wpRely_cons (fun w' hC hf => ?_) (fun v57 => ?_)
  · (repeat (first | (obtain ⟨rfl, hf⟩ := hf) | (obtain ⟨⟨q, q2, rfl⟩, hf⟩ := hf) | (obtain ⟨_, hf⟩ := hf)))
    exact grows_len hR hC (by rfl) (by go_simp) (At.out w' hC)
  simp only [Act.put, List.setIfInBounds_toArray, List.set_cons_succ, List.set_cons_zero, List.nil_append, List.cons_append]
  refine wpRely_cons (fun w' hC hf => ?_) (fun v58 => ?_)
  · (repeat (first | (obtain ⟨rfl, hf⟩ := hf) | (obtain ⟨⟨q, q2, rfl⟩, hf⟩ := hf) | (obtain ⟨_, hf⟩ := hf)))
    exact grows_eqv (by rfl) hC (by go_simp)
  simp only [Act.put, List.setIfInBounds_toArray, List.set_cons_succ, List.set_cons_zero, List.nil_append, List.cons_append]
  refine wpRely_cons (fun w' hC hf => ?_) (fun v59 => ?_)
  · (repeat (first | (obtain ⟨rfl, hf⟩ := hf) | (obtain ⟨⟨q, q2, rfl⟩, hf⟩ := hf) | (obtain ⟨_, hf⟩ := hf)))
    exact grows_eqv (by rfl) hC (by go_simp)
  simp only [Act.put, List.setIfInBounds_toArray, List.set_cons_succ, List.set_cons_zero, List.nil_append, List.cons_append]
  refine wpRely_cons (fun w' hC hf => ?_) (fun v60 => ?_)
  · (repeat (first | (obtain ⟨rfl, hf⟩ := hf) | (obtain ⟨⟨q, q2, rfl⟩, hf⟩ := hf) | (obtain ⟨_, hf⟩ := hf)))
    exact grows_eqv (by rfl) hC (by go_simp)
  simp only [Act.put, List.setIfInBounds_toArray, List.set_cons_succ, List.set_cons_zero, List.nil_append, List.cons_append]
  refine wpRely_cons (fun w' hC hf => ?_) (fun v61 => ?_)
  · (repeat (first | (obtain ⟨rfl, hf⟩ := hf) | (obtain ⟨⟨q, q2, rfl⟩, hf⟩ := hf) | (obtain ⟨_, hf⟩ := hf)))
    exact grows_none (by rfl) hC rfl
  simp only [Act.put, List.setIfInBounds_toArray, List.set_cons_succ, List.set_cons_zero, List.nil_append, List.cons_append]
  refine wpRely_cons (fun w' hC hf => ?_) (fun v62 => ?_)
  · (repeat (first | (obtain ⟨rfl, hf⟩ := hf) | (obtain ⟨⟨q, q2, rfl⟩, hf⟩ := hf) | (obtain ⟨_, hf⟩ := hf)))
    exact grows_eqv (by rfl) hC (by go_simp)
  simp only [Act.put, List.setIfInBounds_toArray, List.set_cons_succ, List.set_cons_zero, List.nil_append, List.cons_append]
  refine wpRely_cons (fun w' hC hf => ?_) (fun v63 => ?_)
  · (repeat (first | (obtain ⟨rfl, hf⟩ := hf) | (obtain ⟨⟨q, q2, rfl⟩, hf⟩ := hf) | (obtain ⟨_, hf⟩ := hf)))
    exact grows_calls hR (fun _ _ hb h => h.trans (hb.mono h.size)) hC (by rfl) (by go_simp) ((number_any false w').mono fun _ _ ⟨h1, h2⟩ => ⟨h1, by rw [h2]; exact Below.refl _ _⟩)
  simp only [Act.put, List.setIfInBounds_toArray, List.set_cons_succ, List.set_cons_zero, List.nil_append, List.cons_append]
  refine wpRely_cons (fun w' hC hf => ?_) (fun v64 => ?_)
  · (repeat (first | (obtain ⟨rfl, hf⟩ := hf) | (obtain ⟨⟨q, q2, rfl⟩, hf⟩ := hf) | (obtain ⟨_, hf⟩ := hf)))
    exact grows_eqv (by rfl) hC (by first | (go_simp; done) | (go_simp; exact IntWalk.i64_in _ (by decide)))
  simp only [Act.put, List.setIfInBounds_toArray, List.set_cons_succ, List.set_cons_zero, List.nil_append, List.cons_append]
  refine wpRely_cons (fun w' hC hf => ?_) (fun v65 => ?_)
  · (repeat (first | (obtain ⟨rfl, hf⟩ := hf) | (obtain ⟨⟨q, q2, rfl⟩, hf⟩ := hf) | (obtain ⟨_, hf⟩ := hf)))
    exact grows_eqv (by rfl) hC (by go_simp)
  simp only [Act.put, List.setIfInBounds_toArray, List.set_cons_succ, List.set_cons_zero, List.nil_append, List.cons_append]
  refine wpRely_cons (fun w' hC hf => ?_) (fun v66 => ?_)
  · (repeat (first | (obtain ⟨rfl, hf⟩ := hf) | (obtain ⟨⟨q, q2, rfl⟩, hf⟩ := hf) | (obtain ⟨_, hf⟩ := hf)))
    exact grows_eqv (by rfl) hC (by go_simp)
  simp only [Act.put, List.setIfInBounds_toArray, List.set_cons_succ, List.set_cons_zero, List.nil_append, List.cons_append]
  refine wpRely_cons (fun w' hC hf => ?_) (fun v67 => ?_)
  · (repeat (first | (obtain ⟨rfl, hf⟩ := hf) | (obtain ⟨⟨q, q2, rfl⟩, hf⟩ := hf) | (obtain ⟨_, hf⟩ := hf)))
    exact grows_eqv (by rfl) hC (by go_simp)
  simp only [Act.put, List.setIfInBounds_toArray, List.set_cons_succ, List.set_cons_zero, List.nil_append, List.cons_append]
  refine wpRely_cons (fun w' hC hf => ?_) (fun v68 => ?_)
  · (repeat (first | (obtain ⟨rfl, hf⟩ := hf) | (obtain ⟨⟨q, q2, rfl⟩, hf⟩ := hf) | (obtain ⟨_, hf⟩ := hf)))
    exact grows_calls hR (fun _ _ hb h => h.trans (hb.mono h.size)) hC (by rfl) (by go_simp) (shown9_any w')
  simp only [Act.put, List.setIfInBounds_toArray, List.set_cons_succ, List.set_cons_zero, List.nil_append, List.cons_append]
  refine wpRely_cons (fun w' hC hf => ?_) (fun v69 => ?_)
  · (repeat (first | (obtain ⟨rfl, hf⟩ := hf) | (obtain ⟨⟨q, q2, rfl⟩, hf⟩ := hf) | (obtain ⟨_, hf⟩ := hf)))
    exact grows_eqv (by rfl) hC (by go_simp)
  simp only [Act.put, List.setIfInBounds_toArray, List.set_cons_succ, List.set_cons_zero, List.nil_append, List.cons_append]
  refine wpRely_cons (fun w' hC hf => ?_) (fun v70 => ?_)
  · (repeat (first | (obtain ⟨rfl, hf⟩ := hf) | (obtain ⟨⟨q, q2, rfl⟩, hf⟩ := hf) | (obtain ⟨_, hf⟩ := hf)))
    exact grows_eqv (by rfl) hC (by go_simp)
  simp only [Act.put, List.setIfInBounds_toArray, List.set_cons_succ, List.set_cons_zero, List.nil_append, List.cons_append]
  refine wpRely_nil fun w9 hC hf => ?_
  (repeat (first | (obtain ⟨rfl, hf⟩ := hf) | (obtain ⟨⟨q, q2, rfl⟩, hf⟩ := hf) | (obtain ⟨_, hf⟩ := hf)))
  have b9 := b7.trans (hC.mono b7.size)
  go_wp2
  go_ret
  exact ⟨rfl, b9⟩

end Go.Proofs.Ytjhalbifljnfjaa
