/-
  Contract: makeRounds.
-/
import Derived.Test.YtmbkjbkbnigcfaaAesCipher
import Derived.Test.YtmbkjbkbnigcfaaApart
namespace Go.Proofs.Ytmbkjbkbnigcfaa
open Go.RowKit

theorem wrap_small (n : Int) (h0 : 0 ≤ n) (h1 : n < 1000) : IntKind.i64.wrap n = n := by
  simp [IntKind.wrap, IntKind.bits, IntKind.signed]
  omega

theorem lay_below {x f : Nat → Nat} {i j : Nat} (h : j < 16 * i) : layK x f i j = x j := if_neg (by omega)
theorem lay_at {x f : Nat → Nat} {i j : Nat} (h : j < 16) : layK x f i (16 * i + j) = f j := by
  unfold layK
  rw [if_pos (by omega)]
  congr 1
  omega

set_option maxHeartbeats 2000000 in
set_option maxRecDepth 8000 in
theorem makeRounds_any (p : Nat) (key : Nat → Nat) (hk : Hid (Byt key)) (m : Int) (w : World) (x0 : Nat → Nat) (h0 : Hid (RowAt w p 71 (rowOf 179 (cipV 0 m x0)))) (hx0 : Hid (∀ j, j < 16 → x0 j = key j)) :
    Calls Try.prog 29 #[.pointer (some ⟨p, 0, none⟩)] w fun e w' => e = .returned (.tuple #[]) ∧ RowAt w' p 71 (rowOf 179 (cipV 0 m (ringN key))) ∧ Apart p w w' := by
  go_enter Try.func29, Try.ntmps29
  go_wp2
  go_loopw [2, 3] (fun b c wr => ∃ (k i a : Nat) (x : Nat → Nat), i = k + 1 ∧ k ≤ 10 ∧ c = .int .i64 i ∧ b = .int .u8 a ∧ a < 256 ∧ Hid (a = xtsN 1 k) ∧ Hid (RowAt wr p 71 (rowOf 179 (cipV 0 m x))) ∧ Hid (∀ j, j < 16 * i → x j = ringN key j) ∧ Apart p w wr)
    (fun _ c _ => 11 - (intOf c).toNat)
  case atStart =>
    refine ⟨0, 1, 1, x0, rfl, by omega, rfl, rfl, by omega, rfl, h0, ?_, .refl _ _⟩
    intro j hj
    rw [hx0.out j (by omega)]
    have := ring_at key 0 j (by omega)
    rw [Nat.mul_zero, Nat.zero_add] at this
    rw [this]
    rfl
  case round =>
    clear h0 hx0
    obtain ⟨k, i, a, x, hi, hk10, rfl, rfl, ha, hax, hr, hx, hap⟩ := hrel
    by_cases hlt : k < 10
    · have ei : (i : Int) - 1 = (k : Int) := by omega
      have i10 : i ≤ 10 := by omega
      have lk : (k : Int) < 11 := by omega
      have li : (i : Int) < 11 := by omega
      have wk : IntKind.i64.wrap (k : Int) = (k : Int) := wrap_small _ (by omega) (by omega)
      have d0 : decide ((i : Int) ≤ 10) = true := decide_eq_true (by omega)
      have H1 : Hid (∀ j, j < 16 → x (16 * k + j) = rkN key k j) := fun j hj => by rw [hx.out _ (by omega), ring_at _ _ _ hj]
      have B1 := Lib.hid (rk_byt hk.out k)
      have N1 : Hid (∀ w', Calls Try.prog 39 #[.agg (rowOf 16 (w8 (rkN key k))), .int .u8 (a : Int)] w' fun e w'' => e = .returned (.agg (rowOf 16 (w8 (rkN key i)))) ∧ Below w'.heap.size w' w'') := by
        intro w'
        have := next_any (rkN key k) a B1 ha w'
        rw [hi]
        show Calls _ _ _ _ fun e w'' => e = .returned (.agg (rowOf 16 (w8 (rkNext (rkN key k) (xtsN 1 k))))) ∧ _
        rw [← hax.out]
        exact this
      have HI := Lib.hid hi
      have HC : RowC wr.drew p 71 (rowOf 179 (cipV 0 m x)) wr.drew := ⟨Below.refl _ _, hr.out⟩
      have X1 := Lib.hid (timesX_any a ha)
      have l1 := xt_lt ha
      have A1 : Hid (xtN a = xtsN 1 i) := by unfold Hid; rw [hax.out, hi]; rfl
      replace hap := hap.drew
      clear hi
      go_wp2
      refine wp_region_rely_tail 14 (RowC wr.drew p 71 (rowOf 179 (cipV 0 m x))) [eqv (.pointer (some ⟨p, 0, none⟩)), eqv (.int .i64 (i : Int)), eqv (.pointer (some ⟨p, 0, none⟩)), eqv (.int .i64 (i : Int)), eqv (.int .i64 (k : Int)), eqv (.pointer (some ⟨p, 0, none⟩)), eqv (.pointer (some ⟨p, 3, none⟩)), eqv (.pointer (some ⟨p, 3 + k * 16, none⟩)), eqv (.agg (rowOf 16 (w8 (rkN key k)))), eqv (.int .u8 (a : Int)), eqv (.agg (rowOf 16 (w8 (rkN key i)))), eqv (.pointer (some ⟨p, 0, none⟩)), eqv (.pointer (some ⟨p, 3, none⟩)), eqv (.pointer (some ⟨p, 3 + i * 16, none⟩))] (by kernel_rfl) (by kernel_rfl) HC
        (.cons (steady_eqv _) (.cons (steady_eqv _) (.cons (steady_eqv _) (.cons (steady_eqv _) (.cons (steady_eqv _) (.cons (steady_eqv _) (.cons (steady_eqv _) (.cons (steady_eqv _) (.cons (steady_eqv _) (.cons (steady_eqv _) (.cons (steady_eqv _) (.cons (steady_eqv _) (.cons (steady_eqv _) (.cons (steady_eqv _) .nil)))))))))))))) ?_
      intro R hR
      simp only [List.take_succ_cons, List.take_zero, List.drop_succ_cons, List.drop_zero]
      refine wpRely_cons (fun w' hC hf => ?_) (fun v0 => ?_)
      · (repeat (first | (obtain ⟨rfl, hf⟩ := hf) | (obtain ⟨⟨q, rfl, hq⟩, hf⟩ := hf) | (obtain ⟨_, hf⟩ := hf)))
        exact grows_eqv (by rfl) hC (by go_simp)
      simp only [Act.put, List.setIfInBounds_toArray, List.set_cons_succ, List.set_cons_zero, List.nil_append]
      refine wpRely_cons (fun w' hC hf => ?_) (fun v1 => ?_)
      · (repeat (first | (obtain ⟨rfl, hf⟩ := hf) | (obtain ⟨⟨q, rfl, hq⟩, hf⟩ := hf) | (obtain ⟨_, hf⟩ := hf)))
        exact grows_eqv (by rfl) hC (by go_simp)
      simp only [Act.put, List.setIfInBounds_toArray, List.set_cons_succ, List.set_cons_zero, List.nil_append, List.cons_append]
      refine wpRely_cons (fun w' hC hf => ?_) (fun v2 => ?_)
      · (repeat (first | (obtain ⟨rfl, hf⟩ := hf) | (obtain ⟨⟨q, rfl, hq⟩, hf⟩ := hf) | (obtain ⟨_, hf⟩ := hf)))
        exact grows_eqv (by rfl) hC (by go_simp)
      simp only [Act.put, List.setIfInBounds_toArray, List.set_cons_succ, List.set_cons_zero, List.nil_append, List.cons_append]
      refine wpRely_cons (fun w' hC hf => ?_) (fun v3 => ?_)
      · (repeat (first | (obtain ⟨rfl, hf⟩ := hf) | (obtain ⟨⟨q, rfl, hq⟩, hf⟩ := hf) | (obtain ⟨_, hf⟩ := hf)))
        exact grows_eqv (by rfl) hC (by go_simp)
      simp only [Act.put, List.setIfInBounds_toArray, List.set_cons_succ, List.set_cons_zero, List.nil_append, List.cons_append]
      refine wpRely_cons (fun w' hC hf => ?_) (fun v4 => ?_)
      · (repeat (first | (obtain ⟨rfl, hf⟩ := hf) | (obtain ⟨⟨q, rfl, hq⟩, hf⟩ := hf) | (obtain ⟨_, hf⟩ := hf)))
        exact grows_eqv (by rfl) hC (by go_simp)
      simp only [Act.put, List.setIfInBounds_toArray, List.set_cons_succ, List.set_cons_zero, List.nil_append, List.cons_append]
      refine wpRely_cons (fun w' hC hf => ?_) (fun v5 => ?_)
      · (repeat (first | (obtain ⟨rfl, hf⟩ := hf) | (obtain ⟨⟨q, rfl, hq⟩, hf⟩ := hf) | (obtain ⟨_, hf⟩ := hf)))
        exact grows_eqv (by rfl) hC (by go_simp)
      simp only [Act.put, List.setIfInBounds_toArray, List.set_cons_succ, List.set_cons_zero, List.nil_append, List.cons_append]
      refine wpRely_cons (fun w' hC hf => ?_) (fun v6 => ?_)
      · (repeat (first | (obtain ⟨rfl, hf⟩ := hf) | (obtain ⟨⟨q, rfl, hq⟩, hf⟩ := hf) | (obtain ⟨_, hf⟩ := hf)))
        exact grows_eqv (by rfl) hC (by go_simp)
      simp only [Act.put, List.setIfInBounds_toArray, List.set_cons_succ, List.set_cons_zero, List.nil_append, List.cons_append]
      refine wpRely_cons (fun w' hC hf => ?_) (fun v7 => ?_)
      · (repeat (first | (obtain ⟨rfl, hf⟩ := hf) | (obtain ⟨⟨q, rfl, hq⟩, hf⟩ := hf) | (obtain ⟨_, hf⟩ := hf)))
        exact grows_eqv (by rfl) hC (by go_simp)
      simp only [Act.put, List.setIfInBounds_toArray, List.set_cons_succ, List.set_cons_zero, List.nil_append, List.cons_append]
      refine wpRely_cons (fun w' hC hf => ?_) (fun v8 => ?_)
      · (repeat (first | (obtain ⟨rfl, hf⟩ := hf) | (obtain ⟨⟨q, rfl, hq⟩, hf⟩ := hf) | (obtain ⟨_, hf⟩ := hf)))
        exact grows_load_at (by rfl) hC rfl rfl hC.2 (cip_get 0 m x (rkN key k) k (by omega) H1.out) Try.underlying23 rfl (by kernel_rfl)
      simp only [Act.put, List.setIfInBounds_toArray, List.set_cons_succ, List.set_cons_zero, List.nil_append, List.cons_append]
      refine wpRely_cons (fun w' hC hf => ?_) (fun v9 => ?_)
      · (repeat (first | (obtain ⟨rfl, hf⟩ := hf) | (obtain ⟨⟨q, rfl, hq⟩, hf⟩ := hf) | (obtain ⟨_, hf⟩ := hf)))
        exact grows_eqv (by rfl) hC (by go_simp)
      simp only [Act.put, List.setIfInBounds_toArray, List.set_cons_succ, List.set_cons_zero, List.nil_append, List.cons_append]
      refine wpRely_cons (fun w' hC hf => ?_) (fun v10 => ?_)
      · (repeat (first | (obtain ⟨rfl, hf⟩ := hf) | (obtain ⟨⟨q, rfl, hq⟩, hf⟩ := hf) | (obtain ⟨_, hf⟩ := hf)))
        exact grows_calls hR (fun _ _ hb h => h.after hb) hC (by rfl) (by go_simp) (N1.out w')
      simp only [Act.put, List.setIfInBounds_toArray, List.set_cons_succ, List.set_cons_zero, List.nil_append, List.cons_append]
      refine wpRely_cons (fun w' hC hf => ?_) (fun v11 => ?_)
      · (repeat (first | (obtain ⟨rfl, hf⟩ := hf) | (obtain ⟨⟨q, rfl, hq⟩, hf⟩ := hf) | (obtain ⟨_, hf⟩ := hf)))
        exact grows_eqv (by rfl) hC (by go_simp)
      simp only [Act.put, List.setIfInBounds_toArray, List.set_cons_succ, List.set_cons_zero, List.nil_append, List.cons_append]
      refine wpRely_cons (fun w' hC hf => ?_) (fun v12 => ?_)
      · (repeat (first | (obtain ⟨rfl, hf⟩ := hf) | (obtain ⟨⟨q, rfl, hq⟩, hf⟩ := hf) | (obtain ⟨_, hf⟩ := hf)))
        exact grows_eqv (by rfl) hC (by go_simp)
      simp only [Act.put, List.setIfInBounds_toArray, List.set_cons_succ, List.set_cons_zero, List.nil_append, List.cons_append]
      refine wpRely_cons (fun w' hC hf => ?_) (fun v13 => ?_)
      · (repeat (first | (obtain ⟨rfl, hf⟩ := hf) | (obtain ⟨⟨q, rfl, hq⟩, hf⟩ := hf) | (obtain ⟨_, hf⟩ := hf)))
        exact grows_eqv (by rfl) hC (by go_simp)
      simp only [Act.put, List.setIfInBounds_toArray, List.set_cons_succ, List.set_cons_zero, List.nil_append, List.cons_append]
      refine wpRely_nil fun w9 hC hf => ?_
      obtain ⟨_, _, _, _, _, _, _, _, _, _, rfl, _, _, rfl, _⟩ := hf
      obtain ⟨hb9, hr9⟩ := hC
      have e9 := Lib.hid (cip_lay 0 m x (rkN key i) i)
      refine wpList_store_at rfl 23 _ _ rfl p (3 + i * 16) 179 16 (cipV 0 m x) (w8 (rkN key i)) rfl rfl 71 hr9 (by kernel_rfl) (rowOf_cells8 _ _) (by omega) ?_
      rw [e9.out]
      replace hap := (hap.below hb9).setRow (rowOf 179 (cipV 0 m (layK x (rkN key i) i)))
      replace hr9 := Lib.hid (hr9.setRow (rowOf 179 (cipV 0 m (layK x (rkN key i) i))))
      clear hb9 HC N1 H1 e9
      generalize World.setRow _ _ _ = w3 at *
      go_wp2_with fail
      refine (X1.out w3).mono ?_
      rintro e w4 ⟨rfl, rfl⟩
      clear X1
      go_wp2
      go_roundw
      case rel =>
        refine ⟨i, i + 1, xtN a, _, rfl, i10, by go_num, rfl, l1, A1, hr9, ?_, hap⟩
        intro j hj
        by_cases hji : j < 16 * i
        · rw [lay_below hji, hx.out j hji]
        · obtain ⟨t, rfl⟩ : ∃ t, j = 16 * i + t := ⟨j - 16 * i, by omega⟩
          rw [lay_at (by omega), ring_at _ _ _ (by omega)]
      case measure => simp [intOf]; omega
    · have : k = 10 := by omega
      subst this
      have : i = 11 := by omega
      subst this
      go_wp2
      go_end0
      exact ⟨rfl, hr.out.congr (cip_congr fun j hj => hx.out j (by omega)), hap⟩

end Go.Proofs.Ytmbkjbkbnigcfaa
