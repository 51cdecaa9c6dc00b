/-
  The walk of NodeDigits.
-/
import Derived.Test.YtapebaoajknepaaOpen
import Derived.Test.YtapebaoajknepaaNodeShown
import Derived.Test.YtapebaoajknepaaNodePath
import Derived.Test.YtapebaoajknepaaAdvStep
namespace Go.Proofs.Ytapebaoajknepaa
open Go.RowKit
set_option linter.unusedVariables false

theorem elemInt : ∃ i, Try.prog.info? 3 = some i := info_of_underlying Try.underlying3
theorem eq_four (f g : Nat → Int) (w : World) : (Op.equalIn 10000 47 (.agg (rowOf 4 fun k => .int .i64 (f k))) (.agg (rowOf 4 fun k => .int .i64 (g k)))).run Try.prog w = .ok ((List.range 4).all fun i => f i == g i) w := by
  obtain ⟨i, hi⟩ := elemInt
  refine (run_equalIn_array w 9999 _ _ Try.underlying47 hi).trans ?_
  refine eqItems_two w 9998 Try.underlying3 (by kernel_rfl) _ _ _ f g _ (fun i hi => ?_)
  have hc : Try.prog.cellsOf 3 = 1 := by kernel_rfl
  have hi2 : i < 4 := by simpa using hi
  rw [hc, Nat.mul_one, rowOf_get _ _ _ hi2, rowOf_get _ _ _ hi2]
  exact ⟨rfl, rfl⟩
theorem run_eql_four {f g : Nat → Int} {r : Bool} (hr : ((List.range 4).all fun i => f i == g i) = r) {o : Oper} {c : Act} {x y : Operand} {t : TypeId} (ho : o.op = .binOp .eql 47 x y t) (hx : c.eval x = .agg (rowOf 4 fun k => .int .i64 (f k))) (hy : c.eval y = .agg (rowOf 4 fun k => .int .i64 (g k))) (w : World) :
    (execOp c.eval o).run Try.prog w = .ok (.value (.bool r)) w := by
  subst hr
  have e := eq_four f g w
  unfold execOp
  simp only [ho, hx, hy]
  simp [go_sem, e]

theorem dig_sum (a : Nat) (h : a < 256) : dig a 0 * 64 + dig a 1 * 16 + dig a 2 * 4 + dig a 3 = a ∧ dig a 0 < 4 ∧ dig a 1 < 4 ∧ dig a 2 < 4 ∧ dig a 3 < 4 := by
  unfold dig
  show a / 64 % 4 * 64 + a / 16 % 4 * 16 + a / 4 % 4 * 4 + a / 1 % 4 = a ∧ a / 64 % 4 < 4 ∧ a / 16 % 4 < 4 ∧ a / 4 % 4 < 4 ∧ a / 1 % 4 < 4
  rw [Nat.div_one]
  omega
theorem dig_once (a b : Nat) (ha : a < 256) (hb : b < 256) : ((List.range 4).all fun i => ((dig a i : Nat) : Int) == ((dig b i : Nat) : Int)) = ((a : Int) == (b : Int)) := by
  rw [Bool.eq_iff_iff, beq_iff_eq, List.all_eq_true]
  constructor
  · intro h
    have e : ∀ i, i < 4 → dig a i = dig b i := fun i hi => by
      have := h i (by simpa using hi)
      rw [beq_iff_eq] at this
      omega
    have s1 := dig_sum a ha
    have s2 := dig_sum b hb
    rw [e 0 (by decide), e 1 (by decide), e 2 (by decide), e 3 (by decide)] at s1
    omega
  · intro h i _
    have : a = b := by omega
    rw [this]
    simp
set_option maxHeartbeats 4000000 in
set_option maxRecDepth 8000 in
theorem digits_walk (a : Nat) (ha : a < 256) (b : Nat) (hb : b < 256) (w : World) :
    Calls Try.prog 6 #[.int .u8 (a : Int), .int .u8 (b : Int)] w fun e w' => e = .returned (.bool true) ∧ Below w.heap.size w w' := by
  have PA := Lib.hid (fun W => path_any (a : Int) W)
  have PB := Lib.hid (fun W => path_any (b : Int) W)
  have fa : (decide ((0 : Int) ≤ (a : Int)) && decide ((a : Int) < 256)) = true := by simp; omega
  have fb : (decide ((0 : Int) ≤ (b : Int)) && decide ((b : Int) < 256)) = true := by simp; omega
  rw [show pathF (a : Int) = digF a by unfold pathF; rw [if_pos fa, Int.toNat_natCast], show pathE (a : Int) = 0 from if_pos fa] at PA
  rw [show pathF (b : Int) = digF b by unfold pathF; rw [if_pos fb, Int.toNat_natCast], show pathE (b : Int) = 0 from if_pos fb] at PB
  have SH := Lib.hid (fun W => shown14_any W)
  obtain ⟨sm, h0, h1, h2, h3⟩ := dig_sum a ha
  obtain ⟨r, hr⟩ : ∃ r, ((a : Int) == (b : Int)) = r := ⟨_, rfl⟩
  have SM : Hid (((List.range 4).all fun i => ((dig a i : Nat) : Int) == ((dig b i : Nat) : Int)) = r) := (dig_once a b ha hb).trans hr
  clear fa fb
  go_enter Try.func6, Try.ntmps6
  go_wp2_with fail
  refine (PA.out w).mono ?_
  rintro e w1 ⟨rfl, b1⟩
  have rp := Lib.hid (RowAt.new w1 47 (rowOf 4 (digF a)))
  have b2 := Lib.hid (b1.alloc b1.size (.cells (rowOf 4 (digF a)) 47))
  clear PA b1
  go_wp2_with (first | (refine wpList_new rfl (run_alloc4 rfl _) ?_) | (refine wpList_store_row rfl 47 _ _ rfl w1.heap.size (rowOf 4 (digF a)) rfl rfl 47 _ (RowAt.new _ _ _) (info4 _) (by simp only [rowOf_size]) (digF_all _) ?_; rw [World.setRow_alloc_new]))
  generalize w1.heap.size = p at *
  generalize w1.alloc (.cells (rowOf 4 (digF a)) 47) = w2 at *
  refine (PB.out w2).mono ?_
  rintro e w3 ⟨rfl, b3⟩
  replace rp := Lib.hid ((rp.out.below b3 rp.out.lt).alloc (.cells (rowOf 4 (digF b)) 47))
  replace b2 := Lib.hid (b2.out.trans (b3.mono b2.out.size))
  have rq := Lib.hid (RowAt.new w3 47 (rowOf 4 (digF b)))
  have b4 := Lib.hid (b2.out.alloc b2.out.size (.cells (rowOf 4 (digF b)) 47))
  clear PB b3 b2
  dsimp only
  repeat (first | (with_reducible refine wp_stop (id := 3) ?_) | (refine wpList_new rfl (run_alloc4 rfl _) ?_) | (refine wpList_store_row rfl 47 _ _ rfl w3.heap.size (rowOf 4 (digF b)) rfl rfl 47 _ (RowAt.new _ _ _) (info4 _) (by simp only [rowOf_size]) (digF_all _) ?_; rw [World.setRow_alloc_new]) | go_values | go_skip | go_guarded | go_step | go_upon | go_back)
  unfold Hid
  generalize w3.heap.size = q at *
  generalize w3.alloc (.cells (rowOf 4 (digF b)) 47) = w4 at *
  have k0 : w4.cell? ⟨p, 0, none⟩ = some (.int .i64 ((dig a 0 : Nat) : Int)) := rp.out.cell 0 (by decide)
  have k1 : w4.cell? ⟨p, 1, none⟩ = some (.int .i64 ((dig a 1 : Nat) : Int)) := rp.out.cell 1 (by decide)
  have k2 : w4.cell? ⟨p, 2, none⟩ = some (.int .i64 ((dig a 2 : Nat) : Int)) := rp.out.cell 2 (by decide)
  have k3 : w4.cell? ⟨p, 3, none⟩ = some (.int .i64 ((dig a 3 : Nat) : Int)) := rp.out.cell 3 (by decide)
  obtain ⟨d0, e0⟩ : ∃ d, dig a 0 = d := ⟨_, rfl⟩
  obtain ⟨d1, e1⟩ : ∃ d, dig a 1 = d := ⟨_, rfl⟩
  obtain ⟨d2, e2⟩ : ∃ d, dig a 2 = d := ⟨_, rfl⟩
  obtain ⟨d3, e3⟩ : ∃ d, dig a 3 = d := ⟨_, rfl⟩
  rw [e0] at k0 sm h0
  rw [e1] at k1 sm h1
  rw [e2] at k2 sm h2
  rw [e3] at k3 sm h3
  clear e0 e1 e2 e3
  obtain ⟨x0, hx0⟩ : ∃ x, d0 * 64 = x := ⟨_, rfl⟩
  obtain ⟨x1, hx1⟩ : ∃ x, d1 * 16 = x := ⟨_, rfl⟩
  obtain ⟨x2, hx2⟩ : ∃ x, d2 * 4 = x := ⟨_, rfl⟩
  obtain ⟨y1, hy1⟩ : ∃ x, x0 + x1 = x := ⟨_, rfl⟩
  obtain ⟨y2, hy2⟩ : ∃ x, y1 + x2 = x := ⟨_, rfl⟩
  rw [hx0, hx1, hx2, hy1, hy2] at sm
  have W1 : Hid True := trivial
  have W2 : Hid True := trivial
  have W3 : Hid True := trivial
  have W4 : Hid True := trivial
  refine wp_region_lit ?_
  refine wpList_val (.int .i64 0) (by kernel_rfl) (by go_simp) ?_
  simp only [Act.put, List.setIfInBounds_toArray, List.set_cons_succ, List.set_cons_zero]
  refine wpList_val (.bool true) (by kernel_rfl) (by go_simp) ?_
  simp only [Act.put, List.setIfInBounds_toArray, List.set_cons_succ, List.set_cons_zero]
  refine wpList_val (.bool true) (by kernel_rfl) (by go_simp) ?_
  simp only [Act.put, List.setIfInBounds_toArray, List.set_cons_succ, List.set_cons_zero]
  refine wpList_val (.int .i64 0) (by kernel_rfl) (by go_simp) ?_
  simp only [Act.put, List.setIfInBounds_toArray, List.set_cons_succ, List.set_cons_zero]
  refine wpList_val (.bool true) (by kernel_rfl) (by go_simp) ?_
  simp only [Act.put, List.setIfInBounds_toArray, List.set_cons_succ, List.set_cons_zero]
  refine wpList_val (.bool true) (by kernel_rfl) (by go_simp) ?_
  simp only [Act.put, List.setIfInBounds_toArray, List.set_cons_succ, List.set_cons_zero]
  refine wpList_val (.bool true) (by kernel_rfl) (by go_simp) ?_
  simp only [Act.put, List.setIfInBounds_toArray, List.set_cons_succ, List.set_cons_zero]
  refine wpList_val (.pointer (some ⟨p, 0, none⟩)) (by kernel_rfl) (by go_simp) ?_
  simp only [Act.put, List.setIfInBounds_toArray, List.set_cons_succ, List.set_cons_zero]
  refine wpList_val (.int .i64 (d0 : Int)) (by kernel_rfl) (by go_simp) ?_
  simp only [Act.put, List.setIfInBounds_toArray, List.set_cons_succ, List.set_cons_zero]
  refine wpList_val (.int .i64 (x0 : Int)) (by kernel_rfl) (by go_simp; try exact (IntWalk.i64_in _ (by omega)).trans (by omega)) ?_
  simp only [Act.put, List.setIfInBounds_toArray, List.set_cons_succ, List.set_cons_zero]
  refine wpList_val (.pointer (some ⟨p, 1, none⟩)) (by kernel_rfl) (by go_simp) ?_
  simp only [Act.put, List.setIfInBounds_toArray, List.set_cons_succ, List.set_cons_zero]
  refine wpList_val (.int .i64 (d1 : Int)) (by kernel_rfl) (by go_simp) ?_
  simp only [Act.put, List.setIfInBounds_toArray, List.set_cons_succ, List.set_cons_zero]
  refine wpList_val (.int .i64 (x1 : Int)) (by kernel_rfl) (by go_simp; try exact (IntWalk.i64_in _ (by omega)).trans (by omega)) ?_
  simp only [Act.put, List.setIfInBounds_toArray, List.set_cons_succ, List.set_cons_zero]
  refine wpList_val (.int .i64 (y1 : Int)) (by kernel_rfl) (by go_simp; try exact (IntWalk.i64_in _ (by omega)).trans (by omega)) ?_
  simp only [Act.put, List.setIfInBounds_toArray, List.set_cons_succ, List.set_cons_zero]
  refine wpList_val (.pointer (some ⟨p, 2, none⟩)) (by kernel_rfl) (by go_simp) ?_
  simp only [Act.put, List.setIfInBounds_toArray, List.set_cons_succ, List.set_cons_zero]
  refine wpList_val (.int .i64 (d2 : Int)) (by kernel_rfl) (by go_simp) ?_
  simp only [Act.put, List.setIfInBounds_toArray, List.set_cons_succ, List.set_cons_zero]
  refine wpList_val (.int .i64 (x2 : Int)) (by kernel_rfl) (by go_simp; try exact (IntWalk.i64_in _ (by omega)).trans (by omega)) ?_
  simp only [Act.put, List.setIfInBounds_toArray, List.set_cons_succ, List.set_cons_zero]
  refine wpList_val (.int .i64 (y2 : Int)) (by kernel_rfl) (by go_simp; try exact (IntWalk.i64_in _ (by omega)).trans (by omega)) ?_
  simp only [Act.put, List.setIfInBounds_toArray, List.set_cons_succ, List.set_cons_zero]
  refine wpList_val (.pointer (some ⟨p, 3, none⟩)) (by kernel_rfl) (by go_simp) ?_
  simp only [Act.put, List.setIfInBounds_toArray, List.set_cons_succ, List.set_cons_zero]
  refine wpList_val (.int .i64 (d3 : Int)) (by kernel_rfl) (by go_simp) ?_
  simp only [Act.put, List.setIfInBounds_toArray, List.set_cons_succ, List.set_cons_zero]
  refine wpList_val (.int .i64 (a : Int)) (by kernel_rfl) (by go_simp; try exact (IntWalk.i64_in _ (by omega)).trans (by omega)) ?_
  simp only [Act.put, List.setIfInBounds_toArray, List.set_cons_succ, List.set_cons_zero]
  refine wpList_val (.int .u8 (a : Int)) (by kernel_rfl) (by go_simp) ?_
  simp only [Act.put, List.setIfInBounds_toArray, List.set_cons_succ, List.set_cons_zero]
  refine wpList_val (.int .i64 (a : Int)) (by kernel_rfl) (by go_simp; try exact (IntWalk.i64_in _ (by omega)).trans (by omega)) ?_
  simp only [Act.put, List.setIfInBounds_toArray, List.set_cons_succ, List.set_cons_zero]
  refine wpList_val (.bool true) (by kernel_rfl) (by go_simp) ?_
  simp only [Act.put, List.setIfInBounds_toArray, List.set_cons_succ, List.set_cons_zero]
  refine wpList_val (.bool true) (by kernel_rfl) (by go_simp) ?_
  simp only [Act.put, List.setIfInBounds_toArray, List.set_cons_succ, List.set_cons_zero]
  refine wpList_val (.bool true) (by kernel_rfl) (by go_simp) ?_
  simp only [Act.put, List.setIfInBounds_toArray, List.set_cons_succ, List.set_cons_zero]
  refine wpList_wload_row (by kernel_rfl) 47 _ rfl p rfl 47 _ _ rp.out Try.underlying47 rfl (info4 _) ?_
  simp only [Act.put, List.setIfInBounds_toArray, List.set_cons_succ, List.set_cons_zero]
  refine wpList_wload_row (by kernel_rfl) 47 _ rfl q rfl 47 _ _ rq.out Try.underlying47 rfl (info4 _) ?_
  simp only [Act.put, List.setIfInBounds_toArray, List.set_cons_succ, List.set_cons_zero]
  refine wpList_wknown (by kernel_rfl) (run_eql_four (f := fun k => ((dig a k : Nat) : Int)) (g := fun k => ((dig b k : Nat) : Int)) SM.out rfl rfl rfl _) ?_
  simp only [Act.put, List.setIfInBounds_toArray, List.set_cons_succ, List.set_cons_zero]
  refine wpList_val (.int .u8 (a : Int)) (by kernel_rfl) (by go_simp) ?_
  simp only [Act.put, List.setIfInBounds_toArray, List.set_cons_succ, List.set_cons_zero]
  refine wpList_val (.int .u8 (b : Int)) (by kernel_rfl) (by go_simp) ?_
  simp only [Act.put, List.setIfInBounds_toArray, List.set_cons_succ, List.set_cons_zero]
  refine wpList_val (.bool r) (by kernel_rfl) (by go_simp) ?_
  simp only [Act.put, List.setIfInBounds_toArray, List.set_cons_succ, List.set_cons_zero]
  refine wpList_val (.bool true) (by kernel_rfl) (by go_simp) ?_
  simp only [Act.put, List.setIfInBounds_toArray, List.set_cons_succ, List.set_cons_zero]
  refine wpList_val (.bool true) (by kernel_rfl) (by go_simp) ?_
  simp only [Act.put, List.setIfInBounds_toArray, List.set_cons_succ, List.set_cons_zero]
  refine wpList_val (.bool true) (by kernel_rfl) (by go_simp) ?_
  simp only [Act.put, List.setIfInBounds_toArray, List.set_cons_succ, List.set_cons_zero]
  go_wp2_with fail
  refine (SH.out w4).mono ?_
  rintro e w5 ⟨rfl, b5⟩
  go_wp2
  go_ret
  exact ⟨rfl, b4.out.trans (b5.mono b4.out.size)⟩

theorem digits_law (a : Int) (ha : (Lit.int .u8 a).wf = true) (b : Int) (hb : (Lit.int .u8 b).wf = true) (w : World) :
    Calls Try.prog 6 #[.int .u8 a, .int .u8 b] w fun e w' => e = .returned (.bool true) ∧ Below w.heap.size w w' := by
  have h1 := wf_u8 ha
  have h2 := wf_u8 hb
  have := digits_walk a.toNat (by omega) b.toNat (by omega) w
  rwa [Int.toNat_of_nonneg h1.1, Int.toNat_of_nonneg h2.1] at this

end Go.Proofs.Ytapebaoajknepaa
