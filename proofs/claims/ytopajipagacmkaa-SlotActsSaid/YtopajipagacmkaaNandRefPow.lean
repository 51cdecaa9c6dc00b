/-
  The document's power, a value of four cells; contracts: its Act, its Fuse.
-/
import Derived.Test.YtopajipagacmkaaNandState
import Derived.Test.YtopajipagacmkaaRows1
import Derived.Test.YtopajipagacmkaaShaKit
import Derived.Test.YtopajipagacmkaaMinMax
namespace Go.Proofs.Ytopajipagacmkaa
open Go.RowKit
set_option linter.unusedVariables false

/-- The document's power. -/
def pwF (S : St) : Nat → Value := fun j => if j = 0 then .bool (!S.up) else if j = 1 then .int .i64 (S.left.toNat : Nat) else if j = 2 then .int .i64 (S.keep : Nat) else .int .u8 (S.junk : Nat)
abbrev pwA (S : St) : Value := .agg (rowOf 4 (pwF S))
theorem infoPow (f : Nat → Value) : (Try.prog.info? 29).map (·.size) = some (rowOf 4 f).size := by rw [rowOf_size]; kernel_rfl
theorem infoPow4 : (Try.prog.info? 29).map (·.size) = some 4 := by kernel_rfl
theorem run_allocPow {o : Oper} {a : Act} (ho : o.op = .alloc 29) (w : World) : (execOp a.eval o).run Try.prog w = .ok (.value (.pointer (some ⟨w.heap.size, 0, none⟩))) (w.alloc (.cells (rowOf 4 (pwF noneS)) 29)) := by
  unfold execOp
  rw [ho]
  kernel_rfl
theorem rowOf_one {n : Nat} {F : Nat → Value} (h : ∀ j, (F j).oneCell' = true) : (rowOf n F).all (·.oneCell') = true := by
  rw [Array.all_eq_true]
  intro i hi
  rw [rowOf_size] at hi
  have : (rowOf n F)[i]? = some (F i) := rowOf_get n F i hi
  rw [Array.getElem?_eq_getElem (by rw [rowOf_size]; exact hi)] at this
  rw [Option.some.inj this]
  exact h i
theorem pwF_one (S : St) (j : Nat) : (pwF S j).oneCell' = true := by
  unfold pwF
  split
  · rfl
  split
  · rfl
  split <;> rfl
theorem pwF_all (S : St) : (rowOf 4 (pwF S)).all (·.oneCell') = true := rowOf_one (pwF_one S)
section
variable {w : World} {p : Nat} {S : St} {t : TypeId}
theorem pf0 (h : RowAt w p t (rowOf 4 (pwF S))) : w.cell? ⟨p, 0, none⟩ = some (.bool (!S.up)) := h.cell 0 (by decide)
theorem pf1 (h : RowAt w p t (rowOf 4 (pwF S))) : w.cell? ⟨p, 1, none⟩ = some (.int .i64 (S.left.toNat : Nat)) := h.cell 1 (by decide)
theorem pf2 (h : RowAt w p t (rowOf 4 (pwF S))) : w.cell? ⟨p, 2, none⟩ = some (.int .i64 (S.keep : Nat)) := h.cell 2 (by decide)
theorem pf3 (h : RowAt w p t (rowOf 4 (pwF S))) : w.cell? ⟨p, 3, none⟩ = some (.int .u8 (S.junk : Nat)) := h.cell 3 (by decide)
end

theorem results_row_two' {P : Program} {fn : Func} {p u v : Tmp} {ty : TypeId} (h : fn.results = #[.cell p ty, .tmp u, .tmp v]) (tmps : Array Value) (w : World) (g : Nat) (t : TypeId) (cs : Array Value) (fr : Nat × Nat) (d : TypeDesc)
    (hp : tmps.getD p undef = .pointer (some ⟨g, 0, none⟩)) (hg : w.heap[g]? = some (.cells cs t fr))
    (hu : P.underlying ty = some d) (hd : (match d with | .struct _ | .array _ _ => true | _ => false) = true) (hi : (P.info? ty).map (·.size) = some cs.size) :
    (results fn tmps).run P w = .ok (.tuple #[.agg cs, tmps.getD u undef, tmps.getD v undef]) w := by
  have hp' : tmps[p]?.getD undef = .pointer (some ⟨g, 0, none⟩) := by simpa using hp
  simp [results, h, hp', asAddr, run_loadVar_row w g t ty cs fr d hg hu hd hi]

theorem pwF_of {S S' : St} (h0 : S.up = S'.up) (h1 : S.left.toNat = S'.left.toNat) (h2 : S.keep = S'.keep) (h3 : S.junk = S'.junk) : pwF S = pwF S' := by
  funext j
  unfold pwF
  rw [h0, h1, h2, h3]
theorem run_sub1 {x y : Int} (h : IntKind.i64.wrap (x - 1) = y) {o : Oper} {a : Act} {s c : Operand} (ho : o.op = .binOp .sub 3 s c 3) (hs : a.eval s = .int .i64 x) (hc : a.eval c = .int .i64 1) (w : World) : (execOp a.eval o).run Try.prog w = .ok (.value (.int .i64 y)) w := by
  unfold execOp
  simp only [ho, hs, hc]
  simp [go_sem, h]
theorem pw_cells {S S' : St} {i : Nat} {v : Value} (h : ∀ j, j < 4 → (if j = i then v else pwF S j) = pwF S' j) : (rowOf 4 (pwF S)).setIfInBounds i v = rowOf 4 (pwF S') := by
  rw [rowOf_set]
  exact rowOf_congr h
set_option maxHeartbeats 1000000 in
set_option maxRecDepth 8000 in
theorem refAct_off (S : St) (w : World) (hu : S.up = false) :
    Calls Try.prog 35 #[.agg (rowOf 4 (pwF S))] w fun e w' => e = .returned (.tuple #[.agg (rowOf 4 (pwF S)), .bool false, .bool false]) ∧ Below w.heap.size w w' := by
  have b0 : Below w.heap.size w ((w.alloc (.cells (rowOf 4 (pwF S)) 29)).alloc (.cells (rowOf 4 (pwF noneS)) 29)) := allocs_below [.cells (rowOf 4 (pwF S)) 29, .cells (rowOf 4 (pwF noneS)) 29] w
  have r1 : Hid (RowAt ((w.alloc (.cells (rowOf 4 (pwF S)) 29)).alloc (.cells (rowOf 4 (pwF noneS)) 29)) w.heap.size 29 (rowOf 4 (pwF S))) := allocs_row [.cells (rowOf 4 (pwF S)) 29, .cells (rowOf 4 (pwF noneS)) 29] w 0 _ _ rfl
  have r2 : Hid (RowAt ((w.alloc (.cells (rowOf 4 (pwF S)) 29)).alloc (.cells (rowOf 4 (pwF noneS)) 29)) (w.heap.size + 1) 29 (rowOf 4 (pwF noneS))) := allocs_row [.cells (rowOf 4 (pwF S)) 29, .cells (rowOf 4 (pwF noneS)) 29] w 1 _ _ rfl
  have c0 := pf0 r1.out
  rw [hu, Bool.not_false] at c0
  go_enter Try.func35, Try.ntmps35
  go_wp2_with (first | (refine wpList_new rfl (run_allocPow rfl _) ?_; generalize (w.alloc (.cells (rowOf 4 (pwF S)) 29)).alloc (.cells (rowOf 4 (pwF noneS)) 29) = w1 at *) | (refine wpList_load_row rfl 29 _ rfl w.heap.size rfl 29 (rowOf 4 (pwF S)) (0, 0) _ r1.out Try.underlying29 rfl (infoPow _) ?_) | (refine wpList_store_row rfl 29 _ _ rfl (w.heap.size + 1) (rowOf 4 (pwF S)) rfl rfl 29 (rowOf 4 (pwF noneS)) r2.out (infoPow _) (by rw [rowOf_size, rowOf_size]) (rowOf_one (pwF_one _)) ?_))
  refine bodyPost_ret (v := .tuple #[.agg (rowOf 4 (pwF S)), .bool false, .bool false]) ?_ rfl ⟨rfl, below_setRow' b0 (Nat.le_succ _) _⟩
  exact results_row_two' Try.results35 _ _ (w.heap.size + 1) 29 (rowOf 4 (pwF S)) (0, 0) _ rfl (r2.out.setRow _) Try.underlying29 rfl (infoPow _)

set_option maxHeartbeats 1000000 in
set_option maxRecDepth 8000 in
theorem refAct_none (S : St) (w : World) (hu : S.up = true) (hl : S.left.toNat = 0) :
    Calls Try.prog 35 #[.agg (rowOf 4 (pwF S))] w fun e w' => e = .returned (.tuple #[.agg (rowOf 4 (pwF S)), .bool true, .bool true]) ∧ Below w.heap.size w w' := by
  have b0 : Below w.heap.size w ((w.alloc (.cells (rowOf 4 (pwF S)) 29)).alloc (.cells (rowOf 4 (pwF noneS)) 29)) := allocs_below [.cells (rowOf 4 (pwF S)) 29, .cells (rowOf 4 (pwF noneS)) 29] w
  have r1 : Hid (RowAt ((w.alloc (.cells (rowOf 4 (pwF S)) 29)).alloc (.cells (rowOf 4 (pwF noneS)) 29)) w.heap.size 29 (rowOf 4 (pwF S))) := allocs_row [.cells (rowOf 4 (pwF S)) 29, .cells (rowOf 4 (pwF noneS)) 29] w 0 _ _ rfl
  have r2 : Hid (RowAt ((w.alloc (.cells (rowOf 4 (pwF S)) 29)).alloc (.cells (rowOf 4 (pwF noneS)) 29)) (w.heap.size + 1) 29 (rowOf 4 (pwF noneS))) := allocs_row [.cells (rowOf 4 (pwF S)) 29, .cells (rowOf 4 (pwF noneS)) 29] w 1 _ _ rfl
  have c0 := pf0 r1.out
  have c1 := pf1 r1.out
  rw [hu, Bool.not_true] at c0
  rw [hl] at c1
  go_enter Try.func35, Try.ntmps35
  go_wp2_with (first | (refine wpList_new rfl (run_allocPow rfl _) ?_; generalize (w.alloc (.cells (rowOf 4 (pwF S)) 29)).alloc (.cells (rowOf 4 (pwF noneS)) 29) = w1 at *) | (refine wpList_load_row rfl 29 _ rfl w.heap.size rfl 29 (rowOf 4 (pwF S)) (0, 0) _ r1.out Try.underlying29 rfl (infoPow _) ?_) | (refine wpList_store_row rfl 29 _ _ rfl (w.heap.size + 1) (rowOf 4 (pwF S)) rfl rfl 29 (rowOf 4 (pwF noneS)) r2.out (infoPow _) (by rw [rowOf_size, rowOf_size]) (rowOf_one (pwF_one _)) ?_))
  refine bodyPost_ret (v := .tuple #[.agg (rowOf 4 (pwF S)), .bool true, .bool true]) ?_ rfl ⟨rfl, below_setRow' b0 (Nat.le_succ _) _⟩
  exact results_row_two' Try.results35 _ _ (w.heap.size + 1) 29 (rowOf 4 (pwF S)) (0, 0) _ rfl (r2.out.setRow _) Try.underlying29 rfl (infoPow _)

theorem RowAt.other {w : World} {p g : Nat} {t : TypeId} {cs : Array Value} (h : RowAt w g t cs) (i : Nat) (v : Value) (hne : g ≠ p) : RowAt (w.setCell ⟨p, i, none⟩ v) g t cs := by
  unfold RowAt
  rw [Below.heap_setCell _ _ _ _ hne]
  exact h
set_option maxHeartbeats 1000000 in
set_option maxRecDepth 8000 in
theorem refAct_more (S : St) (w : World) (hu : S.up = true) (k : Nat) (hl : S.left.toNat = k) (hk : 2 ≤ k) (hk2 : (k : Int) < 9223372036854775808) :
    Calls Try.prog 35 #[.agg (rowOf 4 (pwF S))] w fun e w' => e = .returned (.tuple #[.agg (rowOf 4 (pwF (actS S true (S.left - 1)))), .bool true, .bool true]) ∧ Below w.heap.size w w' := by
  have b0 : Below w.heap.size w ((w.alloc (.cells (rowOf 4 (pwF S)) 29)).alloc (.cells (rowOf 4 (pwF noneS)) 29)) := allocs_below [.cells (rowOf 4 (pwF S)) 29, .cells (rowOf 4 (pwF noneS)) 29] w
  have r1 : Hid (RowAt ((w.alloc (.cells (rowOf 4 (pwF S)) 29)).alloc (.cells (rowOf 4 (pwF noneS)) 29)) w.heap.size 29 (rowOf 4 (pwF S))) := allocs_row [.cells (rowOf 4 (pwF S)) 29, .cells (rowOf 4 (pwF noneS)) 29] w 0 _ _ rfl
  have r2 : Hid (RowAt ((w.alloc (.cells (rowOf 4 (pwF S)) 29)).alloc (.cells (rowOf 4 (pwF noneS)) 29)) (w.heap.size + 1) 29 (rowOf 4 (pwF noneS))) := allocs_row [.cells (rowOf 4 (pwF S)) 29, .cells (rowOf 4 (pwF noneS)) 29] w 1 _ _ rfl
  obtain ⟨x, hx0⟩ : ∃ x : Int, ((k : Nat) : Int) = x := ⟨_, rfl⟩
  obtain ⟨y, hy0⟩ : ∃ y : Int, (k : Int) - 1 = y := ⟨_, rfl⟩
  have c0 := pf0 r1.out
  have c1 := pf1 r1.out
  have f1 := r1.out.free 1
  rw [hu, Bool.not_true] at c0
  have e1 : ((S.left.toNat : Nat) : Int) = x := by rw [hl]; exact hx0
  rw [e1] at c1
  clear e1
  obtain ⟨S1, hS1⟩ : ∃ S1 : St, S1 = { S with left := y } := ⟨_, rfl⟩
  have r3 := Lib.hid ((r1.out.set 1 (.int .i64 y)).congr (pw_cells (S' := S1) fun j hj => by
    subst hS1
    match j, hj with
    | 0, _ => rfl
    | 1, _ =>
      show Value.int .i64 y = .int .i64 ((y.toNat : Nat) : Int)
      rw [Int.toNat_of_nonneg (by omega)]
    | 2, _ => rfl
    | 3, _ => rfl))
  have r4 := Lib.hid (r2.out.other 1 (.int .i64 y) (p := w.heap.size) (by omega))
  have b3 := b0.setCell (p := ⟨w.heap.size, 1, none⟩) (Nat.le_refl _) (.int .i64 y)
  have n1 : (x == 0) = false := by simp; omega
  have hsub : Hid (IntKind.i64.wrap (x - 1) = y) := by
    unfold Hid
    rw [IntKind.wrap_i64]
    omega
  have c2 := pf1 r3.out
  have e2 : ((S1.left.toNat : Nat) : Int) = y := by
    subst hS1
    show ((y.toNat : Nat) : Int) = _
    omega
  rw [e2] at c2
  clear e2
  have n2 : decide (y > 0) = true := decide_eq_true (by omega)
  have eS : pwF S1 = pwF (actS S true (S.left - 1)) := by
    subst hS1
    refine pwF_of hu ?_ rfl rfl
    show y.toNat = (S.left - 1).toNat
    omega
  rw [← eS]
  clear eS
  clear hl hu hS1 hk hk2 hx0 hy0
  go_enter Try.func35, Try.ntmps35
  go_wp2_with (first | (refine wpList_new rfl (run_allocPow rfl _) ?_; generalize (w.alloc (.cells (rowOf 4 (pwF S)) 29)).alloc (.cells (rowOf 4 (pwF noneS)) 29) = w1 at *) | (refine wpList_known rfl (run_sub1 hsub.out rfl rfl rfl _) ?_) | (refine wpList_load_row rfl 29 _ rfl w.heap.size rfl 29 (rowOf 4 (pwF S1)) (0, 0) _ r3.out Try.underlying29 rfl (infoPow _) ?_) | (refine wpList_store_row rfl 29 _ _ rfl (w.heap.size + 1) (rowOf 4 (pwF S1)) rfl rfl 29 (rowOf 4 (pwF noneS)) r4.out (infoPow _) (by rw [rowOf_size, rowOf_size]) (rowOf_one (pwF_one _)) ?_))
  refine bodyPost_ret (v := .tuple #[.agg (rowOf 4 (pwF S1)), .bool true, .bool true]) ?_ rfl ⟨rfl, below_setRow' b3 (Nat.le_succ _) _⟩
  exact results_row_two' Try.results35 _ _ (w.heap.size + 1) 29 (rowOf 4 (pwF S1)) (0, 0) _ rfl (r4.out.setRow _) Try.underlying29 rfl (infoPow _)

set_option maxHeartbeats 1000000 in
set_option maxRecDepth 8000 in
theorem refAct_last (S : St) (w : World) (hu : S.up = true) (hl : S.left.toNat = 1) :
    Calls Try.prog 35 #[.agg (rowOf 4 (pwF S))] w fun e w' => e = .returned (.tuple #[.agg (rowOf 4 (pwF (actS S false (S.left - 1)))), .bool true, .bool false]) ∧ Below w.heap.size w w' := by
  have b0 : Below w.heap.size w ((w.alloc (.cells (rowOf 4 (pwF S)) 29)).alloc (.cells (rowOf 4 (pwF noneS)) 29)) := allocs_below [.cells (rowOf 4 (pwF S)) 29, .cells (rowOf 4 (pwF noneS)) 29] w
  have r1 : Hid (RowAt ((w.alloc (.cells (rowOf 4 (pwF S)) 29)).alloc (.cells (rowOf 4 (pwF noneS)) 29)) w.heap.size 29 (rowOf 4 (pwF S))) := allocs_row [.cells (rowOf 4 (pwF S)) 29, .cells (rowOf 4 (pwF noneS)) 29] w 0 _ _ rfl
  have r2 : Hid (RowAt ((w.alloc (.cells (rowOf 4 (pwF S)) 29)).alloc (.cells (rowOf 4 (pwF noneS)) 29)) (w.heap.size + 1) 29 (rowOf 4 (pwF noneS))) := allocs_row [.cells (rowOf 4 (pwF S)) 29, .cells (rowOf 4 (pwF noneS)) 29] w 1 _ _ rfl
  have c0 := pf0 r1.out
  have c1 := pf1 r1.out
  have f1 := r1.out.free 1
  rw [hu, Bool.not_true] at c0
  have e1 : ((S.left.toNat : Nat) : Int) = 1 := by rw [hl]; rfl
  rw [e1] at c1
  clear e1
  obtain ⟨S1, hS1⟩ : ∃ S1 : St, S1 = { S with left := 0 } := ⟨_, rfl⟩
  have r3 := Lib.hid ((r1.out.set 1 (.int .i64 0)).congr (pw_cells (S' := S1) fun j hj => by
    subst hS1
    match j, hj with
    | 0, _ => rfl
    | 1, _ => rfl
    | 2, _ => rfl
    | 3, _ => rfl))
  have r4 := Lib.hid (r2.out.other 1 (.int .i64 0) (p := w.heap.size) (by omega))
  have b3 := b0.setCell (p := ⟨w.heap.size, 1, none⟩) (Nat.le_refl _) (.int .i64 0)
  have c2 := pf1 r3.out
  have e2 : ((S1.left.toNat : Nat) : Int) = 0 := by subst hS1; rfl
  rw [e2] at c2
  clear e2
  obtain ⟨S2, hS2⟩ : ∃ S2 : St, S2 = { S1 with up := false } := ⟨_, rfl⟩
  have r5 := Lib.hid ((r3.out.set 0 (.bool true)).congr (pw_cells (S' := S2) fun j hj => by
    subst hS2
    match j, hj with
    | 0, _ => rfl
    | 1, _ => rfl
    | 2, _ => rfl
    | 3, _ => rfl))
  have r6 := Lib.hid (r4.out.other 0 (.bool true) (p := w.heap.size) (by omega))
  have b5 := b3.setCell (p := ⟨w.heap.size, 0, none⟩) (Nat.le_refl _) (.bool true)
  have c9 := pf0 r3.out
  have f9 := r3.out.free 0
  have eS : pwF S2 = pwF (actS S false (S.left - 1)) := by
    subst hS2
    subst hS1
    refine pwF_of rfl ?_ rfl rfl
    show (0 : Int).toNat = (S.left - 1).toNat
    omega
  rw [← eS]
  clear eS
  clear hl hu hS1 hS2
  go_enter Try.func35, Try.ntmps35
  go_wp2_with (first | (refine wpList_new rfl (run_allocPow rfl _) ?_; generalize (w.alloc (.cells (rowOf 4 (pwF S)) 29)).alloc (.cells (rowOf 4 (pwF noneS)) 29) = w1 at *) | (refine wpList_load_row rfl 29 _ rfl w.heap.size rfl 29 (rowOf 4 (pwF S2)) (0, 0) _ r5.out Try.underlying29 rfl (infoPow _) ?_) | (refine wpList_store_row rfl 29 _ _ rfl (w.heap.size + 1) (rowOf 4 (pwF S2)) rfl rfl 29 (rowOf 4 (pwF noneS)) r6.out (infoPow _) (by rw [rowOf_size, rowOf_size]) (rowOf_one (pwF_one _)) ?_))
  refine bodyPost_ret (v := .tuple #[.agg (rowOf 4 (pwF S2)), .bool true, .bool false]) ?_ rfl ⟨rfl, below_setRow' b5 (Nat.le_succ _) _⟩
  exact results_row_two' Try.results35 _ _ (w.heap.size + 1) 29 (rowOf 4 (pwF S2)) (0, 0) _ rfl (r6.out.setRow _) Try.underlying29 rfl (infoPow _)




set_option maxHeartbeats 1000000 in
set_option maxRecDepth 8000 in
theorem refFuse_any (S : St) (w : World) (n k N K : Int) (hN : (n < 0 ∧ N = 0) ∨ (0 ≤ n ∧ N = n)) (hK : (k < 0 ∧ K = 0) ∨ (0 ≤ k ∧ K = k)) (j : Nat) (Kn : Nat) (hKn : K = Kn) :
    Calls Try.prog 16 #[.agg (rowOf 4 (pwF S)), .int .i64 n, .int .i64 k, .int .u8 (j : Nat)] w fun e w' => e = .returned (.agg (rowOf 4 (pwF { S with left := N, keep := Kn, junk := j }))) ∧ Below w.heap.size w w' := by
  have b0 : Below w.heap.size w ((w.alloc (.cells (rowOf 4 (pwF S)) 29)).alloc (.cells (rowOf 4 (pwF noneS)) 29)) := allocs_below [.cells (rowOf 4 (pwF S)) 29, .cells (rowOf 4 (pwF noneS)) 29] w
  have r1 : Hid (RowAt ((w.alloc (.cells (rowOf 4 (pwF S)) 29)).alloc (.cells (rowOf 4 (pwF noneS)) 29)) w.heap.size 29 (rowOf 4 (pwF S))) := allocs_row [.cells (rowOf 4 (pwF S)) 29, .cells (rowOf 4 (pwF noneS)) 29] w 0 _ _ rfl
  have r2 : Hid (RowAt ((w.alloc (.cells (rowOf 4 (pwF S)) 29)).alloc (.cells (rowOf 4 (pwF noneS)) 29)) (w.heap.size + 1) 29 (rowOf 4 (pwF noneS))) := allocs_row [.cells (rowOf 4 (pwF S)) 29, .cells (rowOf 4 (pwF noneS)) 29] w 1 _ _ rfl
  have hN' := Lib.hid hN
  have hK' := Lib.hid hK
  subst hKn
  have hN0 : 0 ≤ N := by omega
  clear hN hK
  have c1 := pf1 r1.out
  have f1 := r1.out.free 1
  obtain ⟨S1, hS1⟩ : ∃ S1 : St, S1 = { S with left := N } := ⟨_, rfl⟩
  have r3 := Lib.hid ((r1.out.set 1 (.int .i64 N)).congr (pw_cells (S' := S1) fun j hj => by
    subst hS1
    match j, hj with
    | 0, _ => rfl
    | 1, _ =>
      show Value.int .i64 N = .int .i64 ((N.toNat : Nat) : Int)
      rw [Int.toNat_of_nonneg hN0]
    | 2, _ => rfl
    | 3, _ => rfl))
  have r4 := Lib.hid (r2.out.other 1 (.int .i64 N) (p := w.heap.size) (by omega))
  have b3 := b0.setCell (p := ⟨w.heap.size, 1, none⟩) (Nat.le_refl _) (.int .i64 N)
  obtain ⟨S2, hS2⟩ : ∃ S2 : St, S2 = { S1 with keep := Kn } := ⟨_, rfl⟩
  have c2 := pf2 r3.out
  have f2 := r3.out.free 2
  have r5 := Lib.hid ((r3.out.set 2 (.int .i64 (Kn : Nat))).congr (pw_cells (S' := S2) fun j hj => by
    subst hS2
    match j, hj with
    | 0, _ => rfl
    | 1, _ => rfl
    | 2, _ => rfl
    | 3, _ => rfl))
  have r6 := Lib.hid (r4.out.other 2 (.int .i64 (Kn : Nat)) (p := w.heap.size) (by omega))
  have b5 := b3.setCell (p := ⟨w.heap.size, 2, none⟩) (Nat.le_refl _) (.int .i64 (Kn : Nat))
  obtain ⟨S3, hS3⟩ : ∃ S3 : St, S3 = { S2 with junk := j } := ⟨_, rfl⟩
  have c3 := pf3 r5.out
  have f3 := r5.out.free 3
  have r7 := Lib.hid ((r5.out.set 3 (.int .u8 (j : Nat))).congr (pw_cells (S' := S3) fun j hj => by
    subst hS3
    match j, hj with
    | 0, _ => rfl
    | 1, _ => rfl
    | 2, _ => rfl
    | 3, _ => rfl))
  have r8 := Lib.hid (r6.out.other 3 (.int .u8 (j : Nat)) (p := w.heap.size) (by omega))
  have b7 := b5.setCell (p := ⟨w.heap.size, 3, none⟩) (Nat.le_refl _) (.int .u8 (j : Nat))
  have eS : pwF S3 = pwF { S with left := N, keep := Kn, junk := j } := by
    subst hS3
    subst hS2
    subst hS1
    rfl
  rw [← eS]
  clear eS
  clear hS1 hS2 hS3 hN0 r1 r2 b0 r3 r4 b3 r5 r6 b5
  go_enter Try.func16, Try.ntmps16
  go_wp2_with (first | (refine wpList_new rfl (run_allocPow rfl _) ?_; generalize (w.alloc (.cells (rowOf 4 (pwF S)) 29)).alloc (.cells (rowOf 4 (pwF noneS)) 29) = w1 at *) | (refine wpList_max2 rfl _ _ rfl rfl n 0 N rfl rfl hN'.out ?_) | (refine wpList_max2 rfl _ _ rfl rfl k 0 (Kn : Int) rfl rfl hK'.out ?_) | (refine wpList_load_row rfl 29 _ rfl w.heap.size rfl 29 (rowOf 4 (pwF S3)) (0, 0) _ r7.out Try.underlying29 rfl (infoPow _) ?_) | (refine wpList_store_row rfl 29 _ _ rfl (w.heap.size + 1) (rowOf 4 (pwF S3)) rfl rfl 29 (rowOf 4 (pwF noneS)) r8.out (infoPow _) (by rw [rowOf_size, rowOf_size]) (rowOf_one (pwF_one _)) ?_))
  refine bodyPost_ret (v := .agg (rowOf 4 (pwF S3))) ?_ rfl ⟨rfl, below_setRow' b7 (Nat.le_succ _) _⟩
  exact results_cell_row Try.results16 _ _ (w.heap.size + 1) 29 (rowOf 4 (pwF S3)) (0, 0) _ rfl (r8.out.setRow _) Try.underlying29 rfl (infoPow _)



theorem refA_act (S : St) (w : World) (hu : S.up = true) (hh : S.left < 9223372036854775808) (b : Bool) (hb : (S.left - 1 != 0) = b) :
    Calls Try.prog 35 #[.agg (rowOf 4 (pwF S))] w fun e w' => e = .returned (.tuple #[.agg (rowOf 4 (pwF (actS S b (S.left - 1)))), .bool true, .bool b]) ∧ Below w.heap.size w w' := by
  by_cases c0 : S.left.toNat = 0
  · have e : b = true := by rw [← hb, bne_iff_ne]; omega
    rw [e]
    have hp : pwF S = pwF (actS S true (S.left - 1)) := pwF_of hu (by show S.left.toNat = (S.left - 1).toNat; omega) rfl rfl
    have := refAct_none S w hu c0
    rw [← hp]
    exact this
  · by_cases c1 : S.left.toNat = 1
    · have e : b = false := by
        rw [← hb, show S.left = 1 by omega]
        rfl
      rw [e]
      exact refAct_last S w hu c1
    · have e : b = true := by rw [← hb, bne_iff_ne]; omega
      rw [e]
      exact refAct_more S w hu S.left.toNat rfl (by omega) (by omega)

end Go.Proofs.Ytopajipagacmkaa
