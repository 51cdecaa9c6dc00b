/-
  NandRefBase, NandRefPow, NandRefIn, NandRefFuse, NandCells, NandRefRead, NandRefErase, NandRefCells in one text.
-/
import Derived.Test.YtogeccmeaacgnaaNandLow
import Derived.Test.YtogeccmeaacgnaaNandNew
import Derived.Test.YtogeccmeaacgnaaRows1
import Derived.Test.YtogeccmeaacgnaaNandHistory
import Derived.Great.BuildSlice
import Derived.Test.YtogeccmeaacgnaaMinMax
import Derived.Test.YtogeccmeaacgnaaSeesV
import Derived.Test.YtogeccmeaacgnaaAppV
import Derived.Test.YtogeccmeaacgnaaMakeV
import Derived.Test.YtogeccmeaacgnaaNandRead
/-
  The document's chip, as a value of 139 cells; its power, of 4.
-/
namespace Go.Proofs.Ytogeccmeaacgnaa
open Go.RowKit
set_option linter.unusedVariables false

/-- The document's power. -/
def pwF (S : St) : Nat → Value := fun j => if j = 0 then .bool (!S.up) else if j = 1 then .int .i64 (S.left.toNat : Nat) else if j = 2 then .int .i64 (S.keep : Nat) else .int .u8 (S.junk : Nat)
/-- Where its pages, and its past, lie. -/
structure Mem where
  al : Option Addr
  cl : Nat
  ap : Option Addr
  cp : Nat
/-- The document's chip. -/
def refF (n m : Nat) (S : St) (M : Mem) : Nat → Value := fun j => if j < 4 then pwF S j else if j = 4 then .int .i64 (n : Nat) else if j = 5 then .int .i64 (m : Nat) else if j = 6 then .int .i64 S.rated else if j < 71 then .bool (S.bad (j - 7)) else if j = 71 then .slice M.al (n * m) M.cl else if j < 136 then .int .i64 (S.wear (j - 72) : Nat) else if j = 136 then .slice M.ap S.hist.length M.cp else if j = 137 then .int .i64 (S.progs : Nat) else .int .i64 (S.erases : Nat)
/-- Its pages, two cells each. -/
def cellV (m : Nat) (f : Nat → Nat → ByteArray) : Nat → Value := fun j => if j % 2 = 0 then .bool (isB (f (j / 2 / m) (j / 2 % m))) else .string (f (j / 2 / m) (j / 2 % m))

structure RefC (w : World) (n m : Nat) (S : St) (M : Mem) : Prop where
  cells : SeesV w M.al (n * m * 2) (cellV m S.page)
  past : SeesV w M.ap S.hist.length (lstS S.hist)
  nil : M.ap = none → M.cp = 0
theorem RefC.after {w w' : World} {n m : Nat} {S : St} {M : Mem} (h : RefC w n m S M) (hb : Below w.heap.size w w') : RefC w' n m S M := ⟨h.cells.after hb, h.past.after hb, h.nil⟩

abbrev refA (n m : Nat) (S : St) (M : Mem) : Value := .agg (rowOf 139 (refF n m S M))
abbrev pwA (S : St) : Value := .agg (rowOf 4 (pwF S))

theorem infoChip (f : Nat → Value) : (Try.prog.info? 36).map (·.size) = some (rowOf 139 f).size := by rw [rowOf_size]; kernel_rfl
theorem infoPow (f : Nat → Value) : (Try.prog.info? 30).map (·.size) = some (rowOf 4 f).size := by rw [rowOf_size]; kernel_rfl
theorem infoPow4 : (Try.prog.info? 30).map (·.size) = some 4 := by kernel_rfl

/-- A chip of nothing. -/
def noneS : St := newS true 0 0 0 0 fun _ => false
def noneM : Mem := ⟨none, 0, none, 0⟩
theorem run_allocChip {o : Oper} {a : Act} (ho : o.op = .alloc 36) (w : World) : (execOp a.eval o).run Try.prog w = .ok (.value (.pointer (some ⟨w.heap.size, 0, none⟩))) (w.alloc (.cells (rowOf 139 (refF 0 0 noneS noneM)) 36)) := by
  unfold execOp
  rw [ho]
  kernel_rfl
theorem run_allocPow {o : Oper} {a : Act} (ho : o.op = .alloc 30) (w : World) : (execOp a.eval o).run Try.prog w = .ok (.value (.pointer (some ⟨w.heap.size, 0, none⟩))) (w.alloc (.cells (rowOf 4 (pwF noneS)) 30)) := by
  unfold execOp
  rw [ho]
  kernel_rfl

theorem rowOf_one {n : Nat} {F : Nat → Value} (h : ∀ j, (F j).oneCell' = true) : (rowOf n F).all (·.oneCell') = true := by
  rw [Array.all_eq_true]
  intro i hi
  rw [rowOf_size] at hi
  have : (rowOf n F)[i]? = some (F i) := rowOf_get n F i hi
  rw [Array.getElem?_eq_getElem (by rw [rowOf_size]; exact hi)] at this
  rw [Option.some.inj this]
  exact h i
theorem pwF_one (S : St) (j : Nat) : (pwF S j).oneCell' = true := by
  unfold pwF
  split
  · rfl
  split
  · rfl
  split <;> rfl
theorem refF_one (n m : Nat) (S : St) (M : Mem) (j : Nat) : (refF n m S M j).oneCell' = true := by
  unfold refF
  split
  · exact pwF_one S j
  split
  · rfl
  split
  · rfl
  split
  · rfl
  split
  · rfl
  split
  · rfl
  split
  · rfl
  split
  · rfl
  split <;> rfl
theorem pwF_all (S : St) : (rowOf 4 (pwF S)).all (·.oneCell') = true := rowOf_one (pwF_one S)
theorem refF_all (n m : Nat) (S : St) (M : Mem) : (rowOf 139 (refF n m S M)).all (·.oneCell') = true := rowOf_one (refF_one n m S M)

section
variable {w : World} {p n m : Nat} {S : St} {M : Mem} {t : TypeId}
theorem rf0 (h : RowAt w p t (rowOf 139 (refF n m S M))) : w.cell? ⟨p, 0, none⟩ = some (.bool (!S.up)) := h.cell 0 (by decide)
theorem rf4 (h : RowAt w p t (rowOf 139 (refF n m S M))) : w.cell? ⟨p, 4, none⟩ = some (.int .i64 (n : Nat)) := h.cell 4 (by decide)
theorem rf5 (h : RowAt w p t (rowOf 139 (refF n m S M))) : w.cell? ⟨p, 5, none⟩ = some (.int .i64 (m : Nat)) := h.cell 5 (by decide)
theorem rf6 (h : RowAt w p t (rowOf 139 (refF n m S M))) : w.cell? ⟨p, 6, none⟩ = some (.int .i64 S.rated) := h.cell 6 (by decide)
theorem rf71 (h : RowAt w p t (rowOf 139 (refF n m S M))) : w.cell? ⟨p, 71, none⟩ = some (.slice M.al (n * m) M.cl) := h.cell 71 (by decide)
theorem rf136 (h : RowAt w p t (rowOf 139 (refF n m S M))) : w.cell? ⟨p, 136, none⟩ = some (.slice M.ap S.hist.length M.cp) := h.cell 136 (by decide)
theorem rf137 (h : RowAt w p t (rowOf 139 (refF n m S M))) : w.cell? ⟨p, 137, none⟩ = some (.int .i64 (S.progs : Nat)) := h.cell 137 (by decide)
theorem rf138 (h : RowAt w p t (rowOf 139 (refF n m S M))) : w.cell? ⟨p, 138, none⟩ = some (.int .i64 (S.erases : Nat)) := h.cell 138 (by decide)
theorem rfBad (h : RowAt w p t (rowOf 139 (refF n m S M))) {i : Nat} (hi : i < 64) : w.cell? ⟨p, 7 + i, none⟩ = some (.bool (S.bad i)) := by
  rw [h.cell (7 + i) (by omega)]
  unfold refF
  rw [if_neg (by omega), if_neg (by omega), if_neg (by omega), if_neg (by omega), if_pos (by omega), show 7 + i - 7 = i by omega]
theorem rfWear (h : RowAt w p t (rowOf 139 (refF n m S M))) {i : Nat} (hi : i < 64) : w.cell? ⟨p, 72 + i, none⟩ = some (.int .i64 (S.wear i : Nat)) := by
  rw [h.cell (72 + i) (by omega)]
  unfold refF
  rw [if_neg (by omega), if_neg (by omega), if_neg (by omega), if_neg (by omega), if_neg (by omega), if_neg (by omega), if_pos (by omega), show 72 + i - 72 = i by omega]
theorem pf0 (h : RowAt w p t (rowOf 4 (pwF S))) : w.cell? ⟨p, 0, none⟩ = some (.bool (!S.up)) := h.cell 0 (by decide)
theorem pf1 (h : RowAt w p t (rowOf 4 (pwF S))) : w.cell? ⟨p, 1, none⟩ = some (.int .i64 (S.left.toNat : Nat)) := h.cell 1 (by decide)
theorem pf2 (h : RowAt w p t (rowOf 4 (pwF S))) : w.cell? ⟨p, 2, none⟩ = some (.int .i64 (S.keep : Nat)) := h.cell 2 (by decide)
theorem pf3 (h : RowAt w p t (rowOf 4 (pwF S))) : w.cell? ⟨p, 3, none⟩ = some (.int .u8 (S.junk : Nat)) := h.cell 3 (by decide)
end

/-- One cell turned. -/
theorem ref_set {n m : Nat} {S S' : St} {M M' : Mem} {i : Nat} {v : Value} (h : ∀ j, j < 139 → (if j = i then v else refF n m S M j) = refF n m S' M' j) : (rowOf 139 (refF n m S M)).setIfInBounds i v = rowOf 139 (refF n m S' M') := by
  rw [rowOf_set]
  exact rowOf_congr h

theorem results_row_two' {P : Program} {fn : Func} {p u v : Tmp} {ty : TypeId} (h : fn.results = #[.cell p ty, .tmp u, .tmp v]) (tmps : Array Value) (w : World) (g : Nat) (t : TypeId) (cs : Array Value) (fr : Nat × Nat) (d : TypeDesc)
    (hp : tmps.getD p undef = .pointer (some ⟨g, 0, none⟩)) (hg : w.heap[g]? = some (.cells cs t fr))
    (hu : P.underlying ty = some d) (hd : (match d with | .struct _ | .array _ _ => true | _ => false) = true) (hi : (P.info? ty).map (·.size) = some cs.size) :
    (results fn tmps).run P w = .ok (.tuple #[.agg cs, tmps.getD u undef, tmps.getD v undef]) w := by
  have hp' : tmps[p]?.getD undef = .pointer (some ⟨g, 0, none⟩) := by simpa using hp
  simp [results, h, hp', asAddr, run_loadVar_row w g t ty cs fr d hg hu hd hi]

end Go.Proofs.Ytogeccmeaacgnaa

/-
  Contracts: the document's Act, Fuse, in.
-/
namespace Go.Proofs.Ytogeccmeaacgnaa
open Go.RowKit
set_option linter.unusedVariables false

theorem pwF_of {S S' : St} (h0 : S.up = S'.up) (h1 : S.left.toNat = S'.left.toNat) (h2 : S.keep = S'.keep) (h3 : S.junk = S'.junk) : pwF S = pwF S' := by
  funext j
  unfold pwF
  rw [h0, h1, h2, h3]
theorem run_sub1 {x y : Int} (h : IntKind.i64.wrap (x - 1) = y) {o : Oper} {a : Act} {s c : Operand} (ho : o.op = .binOp .sub 3 s c 3) (hs : a.eval s = .int .i64 x) (hc : a.eval c = .int .i64 1) (w : World) : (execOp a.eval o).run Try.prog w = .ok (.value (.int .i64 y)) w := by
  unfold execOp
  simp only [ho, hs, hc]
  simp [go_sem, h]
theorem pw_cells {S S' : St} {i : Nat} {v : Value} (h : ∀ j, j < 4 → (if j = i then v else pwF S j) = pwF S' j) : (rowOf 4 (pwF S)).setIfInBounds i v = rowOf 4 (pwF S') := by
  rw [rowOf_set]
  exact rowOf_congr h
set_option maxHeartbeats 1000000 in
set_option maxRecDepth 8000 in
theorem refAct_off (S : St) (w : World) (hu : S.up = false) :
    Calls Try.prog 24 #[.agg (rowOf 4 (pwF S))] w fun e w' => e = .returned (.tuple #[.agg (rowOf 4 (pwF S)), .bool false, .bool false]) ∧ Below w.heap.size w w' := by
  have b0 : Below w.heap.size w ((w.alloc (.cells (rowOf 4 (pwF S)) 30)).alloc (.cells (rowOf 4 (pwF noneS)) 30)) := allocs_below [.cells (rowOf 4 (pwF S)) 30, .cells (rowOf 4 (pwF noneS)) 30] w
  have r1 : Hid (RowAt ((w.alloc (.cells (rowOf 4 (pwF S)) 30)).alloc (.cells (rowOf 4 (pwF noneS)) 30)) w.heap.size 30 (rowOf 4 (pwF S))) := allocs_row [.cells (rowOf 4 (pwF S)) 30, .cells (rowOf 4 (pwF noneS)) 30] w 0 _ _ rfl
  have r2 : Hid (RowAt ((w.alloc (.cells (rowOf 4 (pwF S)) 30)).alloc (.cells (rowOf 4 (pwF noneS)) 30)) (w.heap.size + 1) 30 (rowOf 4 (pwF noneS))) := allocs_row [.cells (rowOf 4 (pwF S)) 30, .cells (rowOf 4 (pwF noneS)) 30] w 1 _ _ rfl
  have c0 := pf0 r1.out
  rw [hu, Bool.not_false] at c0
  go_enter Try.func24, Try.ntmps24
  go_wp2_with (first | (refine wpList_new rfl (run_allocPow rfl _) ?_; generalize (w.alloc (.cells (rowOf 4 (pwF S)) 30)).alloc (.cells (rowOf 4 (pwF noneS)) 30) = w1 at *) | (refine wpList_load_row rfl 30 _ rfl w.heap.size rfl 30 (rowOf 4 (pwF S)) (0, 0) _ r1.out Try.underlying30 rfl (infoPow _) ?_) | (refine wpList_store_row rfl 30 _ _ rfl (w.heap.size + 1) (rowOf 4 (pwF S)) rfl rfl 30 (rowOf 4 (pwF noneS)) r2.out (infoPow _) (by rw [rowOf_size, rowOf_size]) (rowOf_one (pwF_one _)) ?_))
  refine bodyPost_ret (v := .tuple #[.agg (rowOf 4 (pwF S)), .bool false, .bool false]) ?_ rfl ⟨rfl, below_setRow' b0 (Nat.le_succ _) _⟩
  exact results_row_two' Try.results24 _ _ (w.heap.size + 1) 30 (rowOf 4 (pwF S)) (0, 0) _ rfl (r2.out.setRow _) Try.underlying30 rfl (infoPow _)

set_option maxHeartbeats 1000000 in
set_option maxRecDepth 8000 in
theorem refAct_none (S : St) (w : World) (hu : S.up = true) (hl : S.left.toNat = 0) :
    Calls Try.prog 24 #[.agg (rowOf 4 (pwF S))] w fun e w' => e = .returned (.tuple #[.agg (rowOf 4 (pwF S)), .bool true, .bool true]) ∧ Below w.heap.size w w' := by
  have b0 : Below w.heap.size w ((w.alloc (.cells (rowOf 4 (pwF S)) 30)).alloc (.cells (rowOf 4 (pwF noneS)) 30)) := allocs_below [.cells (rowOf 4 (pwF S)) 30, .cells (rowOf 4 (pwF noneS)) 30] w
  have r1 : Hid (RowAt ((w.alloc (.cells (rowOf 4 (pwF S)) 30)).alloc (.cells (rowOf 4 (pwF noneS)) 30)) w.heap.size 30 (rowOf 4 (pwF S))) := allocs_row [.cells (rowOf 4 (pwF S)) 30, .cells (rowOf 4 (pwF noneS)) 30] w 0 _ _ rfl
  have r2 : Hid (RowAt ((w.alloc (.cells (rowOf 4 (pwF S)) 30)).alloc (.cells (rowOf 4 (pwF noneS)) 30)) (w.heap.size + 1) 30 (rowOf 4 (pwF noneS))) := allocs_row [.cells (rowOf 4 (pwF S)) 30, .cells (rowOf 4 (pwF noneS)) 30] w 1 _ _ rfl
  have c0 := pf0 r1.out
  have c1 := pf1 r1.out
  rw [hu, Bool.not_true] at c0
  rw [hl] at c1
  go_enter Try.func24, Try.ntmps24
  go_wp2_with (first | (refine wpList_new rfl (run_allocPow rfl _) ?_; generalize (w.alloc (.cells (rowOf 4 (pwF S)) 30)).alloc (.cells (rowOf 4 (pwF noneS)) 30) = w1 at *) | (refine wpList_load_row rfl 30 _ rfl w.heap.size rfl 30 (rowOf 4 (pwF S)) (0, 0) _ r1.out Try.underlying30 rfl (infoPow _) ?_) | (refine wpList_store_row rfl 30 _ _ rfl (w.heap.size + 1) (rowOf 4 (pwF S)) rfl rfl 30 (rowOf 4 (pwF noneS)) r2.out (infoPow _) (by rw [rowOf_size, rowOf_size]) (rowOf_one (pwF_one _)) ?_))
  refine bodyPost_ret (v := .tuple #[.agg (rowOf 4 (pwF S)), .bool true, .bool true]) ?_ rfl ⟨rfl, below_setRow' b0 (Nat.le_succ _) _⟩
  exact results_row_two' Try.results24 _ _ (w.heap.size + 1) 30 (rowOf 4 (pwF S)) (0, 0) _ rfl (r2.out.setRow _) Try.underlying30 rfl (infoPow _)

theorem RowAt.other {w : World} {p g : Nat} {t : TypeId} {cs : Array Value} (h : RowAt w g t cs) (i : Nat) (v : Value) (hne : g ≠ p) : RowAt (w.setCell ⟨p, i, none⟩ v) g t cs := by
  unfold RowAt
  rw [Below.heap_setCell _ _ _ _ hne]
  exact h
set_option maxHeartbeats 1000000 in
set_option maxRecDepth 8000 in
theorem refAct_more (S : St) (w : World) (hu : S.up = true) (k : Nat) (hl : S.left.toNat = k) (hk : 2 ≤ k) (hk2 : (k : Int) < 9223372036854775808) :
    Calls Try.prog 24 #[.agg (rowOf 4 (pwF S))] w fun e w' => e = .returned (.tuple #[.agg (rowOf 4 (pwF (actS S true (S.left - 1)))), .bool true, .bool true]) ∧ Below w.heap.size w w' := by
  have b0 : Below w.heap.size w ((w.alloc (.cells (rowOf 4 (pwF S)) 30)).alloc (.cells (rowOf 4 (pwF noneS)) 30)) := allocs_below [.cells (rowOf 4 (pwF S)) 30, .cells (rowOf 4 (pwF noneS)) 30] w
  have r1 : Hid (RowAt ((w.alloc (.cells (rowOf 4 (pwF S)) 30)).alloc (.cells (rowOf 4 (pwF noneS)) 30)) w.heap.size 30 (rowOf 4 (pwF S))) := allocs_row [.cells (rowOf 4 (pwF S)) 30, .cells (rowOf 4 (pwF noneS)) 30] w 0 _ _ rfl
  have r2 : Hid (RowAt ((w.alloc (.cells (rowOf 4 (pwF S)) 30)).alloc (.cells (rowOf 4 (pwF noneS)) 30)) (w.heap.size + 1) 30 (rowOf 4 (pwF noneS))) := allocs_row [.cells (rowOf 4 (pwF S)) 30, .cells (rowOf 4 (pwF noneS)) 30] w 1 _ _ rfl
  obtain ⟨x, hx0⟩ : ∃ x : Int, ((k : Nat) : Int) = x := ⟨_, rfl⟩
  obtain ⟨y, hy0⟩ : ∃ y : Int, (k : Int) - 1 = y := ⟨_, rfl⟩
  have c0 := pf0 r1.out
  have c1 := pf1 r1.out
  have f1 := r1.out.free 1
  rw [hu, Bool.not_true] at c0
  have e1 : ((S.left.toNat : Nat) : Int) = x := by rw [hl]; exact hx0
  rw [e1] at c1
  clear e1
  obtain ⟨S1, hS1⟩ : ∃ S1 : St, S1 = { S with left := y } := ⟨_, rfl⟩
  have r3 := Lib.hid ((r1.out.set 1 (.int .i64 y)).congr (pw_cells (S' := S1) fun j hj => by
    subst hS1
    match j, hj with
    | 0, _ => rfl
    | 1, _ =>
      show Value.int .i64 y = .int .i64 ((y.toNat : Nat) : Int)
      rw [Int.toNat_of_nonneg (by omega)]
    | 2, _ => rfl
    | 3, _ => rfl))
  have r4 := Lib.hid (r2.out.other 1 (.int .i64 y) (p := w.heap.size) (by omega))
  have b3 := b0.setCell (p := ⟨w.heap.size, 1, none⟩) (Nat.le_refl _) (.int .i64 y)
  have n1 : (x == 0) = false := by simp; omega
  have hsub : Hid (IntKind.i64.wrap (x - 1) = y) := by
    unfold Hid
    rw [IntKind.wrap_i64]
    omega
  have c2 := pf1 r3.out
  have e2 : ((S1.left.toNat : Nat) : Int) = y := by
    subst hS1
    show ((y.toNat : Nat) : Int) = _
    omega
  rw [e2] at c2
  clear e2
  have n2 : decide (y > 0) = true := decide_eq_true (by omega)
  have eS : pwF S1 = pwF (actS S true (S.left - 1)) := by
    subst hS1
    refine pwF_of hu ?_ rfl rfl
    show y.toNat = (S.left - 1).toNat
    omega
  rw [← eS]
  clear eS
  clear hl hu hS1 hk hk2 hx0 hy0
  go_enter Try.func24, Try.ntmps24
  go_wp2_with (first | (refine wpList_new rfl (run_allocPow rfl _) ?_; generalize (w.alloc (.cells (rowOf 4 (pwF S)) 30)).alloc (.cells (rowOf 4 (pwF noneS)) 30) = w1 at *) | (refine wpList_known rfl (run_sub1 hsub.out rfl rfl rfl _) ?_) | (refine wpList_load_row rfl 30 _ rfl w.heap.size rfl 30 (rowOf 4 (pwF S1)) (0, 0) _ r3.out Try.underlying30 rfl (infoPow _) ?_) | (refine wpList_store_row rfl 30 _ _ rfl (w.heap.size + 1) (rowOf 4 (pwF S1)) rfl rfl 30 (rowOf 4 (pwF noneS)) r4.out (infoPow _) (by rw [rowOf_size, rowOf_size]) (rowOf_one (pwF_one _)) ?_))
  refine bodyPost_ret (v := .tuple #[.agg (rowOf 4 (pwF S1)), .bool true, .bool true]) ?_ rfl ⟨rfl, below_setRow' b3 (Nat.le_succ _) _⟩
  exact results_row_two' Try.results24 _ _ (w.heap.size + 1) 30 (rowOf 4 (pwF S1)) (0, 0) _ rfl (r4.out.setRow _) Try.underlying30 rfl (infoPow _)

set_option maxHeartbeats 1000000 in
set_option maxRecDepth 8000 in
theorem refAct_last (S : St) (w : World) (hu : S.up = true) (hl : S.left.toNat = 1) :
    Calls Try.prog 24 #[.agg (rowOf 4 (pwF S))] w fun e w' => e = .returned (.tuple #[.agg (rowOf 4 (pwF (actS S false (S.left - 1)))), .bool true, .bool false]) ∧ Below w.heap.size w w' := by
  have b0 : Below w.heap.size w ((w.alloc (.cells (rowOf 4 (pwF S)) 30)).alloc (.cells (rowOf 4 (pwF noneS)) 30)) := allocs_below [.cells (rowOf 4 (pwF S)) 30, .cells (rowOf 4 (pwF noneS)) 30] w
  have r1 : Hid (RowAt ((w.alloc (.cells (rowOf 4 (pwF S)) 30)).alloc (.cells (rowOf 4 (pwF noneS)) 30)) w.heap.size 30 (rowOf 4 (pwF S))) := allocs_row [.cells (rowOf 4 (pwF S)) 30, .cells (rowOf 4 (pwF noneS)) 30] w 0 _ _ rfl
  have r2 : Hid (RowAt ((w.alloc (.cells (rowOf 4 (pwF S)) 30)).alloc (.cells (rowOf 4 (pwF noneS)) 30)) (w.heap.size + 1) 30 (rowOf 4 (pwF noneS))) := allocs_row [.cells (rowOf 4 (pwF S)) 30, .cells (rowOf 4 (pwF noneS)) 30] w 1 _ _ rfl
  have c0 := pf0 r1.out
  have c1 := pf1 r1.out
  have f1 := r1.out.free 1
  rw [hu, Bool.not_true] at c0
  have e1 : ((S.left.toNat : Nat) : Int) = 1 := by rw [hl]; rfl
  rw [e1] at c1
  clear e1
  obtain ⟨S1, hS1⟩ : ∃ S1 : St, S1 = { S with left := 0 } := ⟨_, rfl⟩
  have r3 := Lib.hid ((r1.out.set 1 (.int .i64 0)).congr (pw_cells (S' := S1) fun j hj => by
    subst hS1
    match j, hj with
    | 0, _ => rfl
    | 1, _ => rfl
    | 2, _ => rfl
    | 3, _ => rfl))
  have r4 := Lib.hid (r2.out.other 1 (.int .i64 0) (p := w.heap.size) (by omega))
  have b3 := b0.setCell (p := ⟨w.heap.size, 1, none⟩) (Nat.le_refl _) (.int .i64 0)
  have c2 := pf1 r3.out
  have e2 : ((S1.left.toNat : Nat) : Int) = 0 := by subst hS1; rfl
  rw [e2] at c2
  clear e2
  obtain ⟨S2, hS2⟩ : ∃ S2 : St, S2 = { S1 with up := false } := ⟨_, rfl⟩
  have r5 := Lib.hid ((r3.out.set 0 (.bool true)).congr (pw_cells (S' := S2) fun j hj => by
    subst hS2
    match j, hj with
    | 0, _ => rfl
    | 1, _ => rfl
    | 2, _ => rfl
    | 3, _ => rfl))
  have r6 := Lib.hid (r4.out.other 0 (.bool true) (p := w.heap.size) (by omega))
  have b5 := b3.setCell (p := ⟨w.heap.size, 0, none⟩) (Nat.le_refl _) (.bool true)
  have c9 := pf0 r3.out
  have f9 := r3.out.free 0
  have eS : pwF S2 = pwF (actS S false (S.left - 1)) := by
    subst hS2
    subst hS1
    refine pwF_of rfl ?_ rfl rfl
    show (0 : Int).toNat = (S.left - 1).toNat
    omega
  rw [← eS]
  clear eS
  clear hl hu hS1 hS2
  go_enter Try.func24, Try.ntmps24
  go_wp2_with (first | (refine wpList_new rfl (run_allocPow rfl _) ?_; generalize (w.alloc (.cells (rowOf 4 (pwF S)) 30)).alloc (.cells (rowOf 4 (pwF noneS)) 30) = w1 at *) | (refine wpList_load_row rfl 30 _ rfl w.heap.size rfl 30 (rowOf 4 (pwF S2)) (0, 0) _ r5.out Try.underlying30 rfl (infoPow _) ?_) | (refine wpList_store_row rfl 30 _ _ rfl (w.heap.size + 1) (rowOf 4 (pwF S2)) rfl rfl 30 (rowOf 4 (pwF noneS)) r6.out (infoPow _) (by rw [rowOf_size, rowOf_size]) (rowOf_one (pwF_one _)) ?_))
  refine bodyPost_ret (v := .tuple #[.agg (rowOf 4 (pwF S2)), .bool true, .bool false]) ?_ rfl ⟨rfl, below_setRow' b5 (Nat.le_succ _) _⟩
  exact results_row_two' Try.results24 _ _ (w.heap.size + 1) 30 (rowOf 4 (pwF S2)) (0, 0) _ rfl (r6.out.setRow _) Try.underlying30 rfl (infoPow _)


end Go.Proofs.Ytogeccmeaacgnaa

/-
  Contract: the document's in.
-/
namespace Go.Proofs.Ytogeccmeaacgnaa
open Go.RowKit
set_option linter.unusedVariables false

set_option maxHeartbeats 1000000 in
set_option maxRecDepth 8000 in
theorem refIn_any (n m : Nat) (S : St) (M : Mem) (w : World) (z y : Int) :
    Calls Try.prog 40 #[.agg (rowOf 139 (refF n m S M)), .int .i64 z, .int .i64 y] w fun e w' => e = .returned (.bool (inB z n && inB y m)) ∧ Below w.heap.size w w' := by
  have b0 : Below w.heap.size w (w.alloc (.cells (rowOf 139 (refF n m S M)) 36)) := (Below.refl _ _).alloc (Nat.le_refl _) _
  have r0 := RowAt.new w 36 (rowOf 139 (refF n m S M))
  have c4 := rf4 r0
  have c5 := rf5 r0
  clear r0
  unfold inB
  cases h1 : decide (0 ≤ z) with
  | false =>
    have g1 : decide (z ≥ 0) = false := h1
    go_enter Try.func40, Try.ntmps40
    go_wp2
    go_ret
    exact ⟨rfl, b0⟩
  | true =>
    have g1 : decide (z ≥ 0) = true := h1
    cases h2 : decide (z < (n : Int)) with
    | false =>
      go_enter Try.func40, Try.ntmps40
      go_wp2
      go_ret
      exact ⟨rfl, b0⟩
    | true =>
      cases h3 : decide (0 ≤ y) with
      | false =>
        have g3 : decide (y ≥ 0) = false := h3
        go_enter Try.func40, Try.ntmps40
        go_wp2
        go_ret
        exact ⟨rfl, b0⟩
      | true =>
        have g3 : decide (y ≥ 0) = true := h3
        cases h4 : decide (y < (m : Int)) with
        | false =>
          go_enter Try.func40, Try.ntmps40
          go_wp2
          go_ret
          exact ⟨rfl, b0⟩
        | true =>
          go_enter Try.func40, Try.ntmps40
          go_wp2
          go_ret
          exact ⟨rfl, b0⟩


end Go.Proofs.Ytogeccmeaacgnaa

/-
  Contract: the document's Fuse.
-/
namespace Go.Proofs.Ytogeccmeaacgnaa
open Go.RowKit
set_option linter.unusedVariables false

set_option maxHeartbeats 1000000 in
set_option maxRecDepth 8000 in
theorem refFuse_any (S : St) (w : World) (n k N K : Int) (hN : (n < 0 ∧ N = 0) ∨ (0 ≤ n ∧ N = n)) (hK : (k < 0 ∧ K = 0) ∨ (0 ≤ k ∧ K = k)) (j : Nat) (Kn : Nat) (hKn : K = Kn) :
    Calls Try.prog 19 #[.agg (rowOf 4 (pwF S)), .int .i64 n, .int .i64 k, .int .u8 (j : Nat)] w fun e w' => e = .returned (.agg (rowOf 4 (pwF { S with left := N, keep := Kn, junk := j }))) ∧ Below w.heap.size w w' := by
  have b0 : Below w.heap.size w ((w.alloc (.cells (rowOf 4 (pwF S)) 30)).alloc (.cells (rowOf 4 (pwF noneS)) 30)) := allocs_below [.cells (rowOf 4 (pwF S)) 30, .cells (rowOf 4 (pwF noneS)) 30] w
  have r1 : Hid (RowAt ((w.alloc (.cells (rowOf 4 (pwF S)) 30)).alloc (.cells (rowOf 4 (pwF noneS)) 30)) w.heap.size 30 (rowOf 4 (pwF S))) := allocs_row [.cells (rowOf 4 (pwF S)) 30, .cells (rowOf 4 (pwF noneS)) 30] w 0 _ _ rfl
  have r2 : Hid (RowAt ((w.alloc (.cells (rowOf 4 (pwF S)) 30)).alloc (.cells (rowOf 4 (pwF noneS)) 30)) (w.heap.size + 1) 30 (rowOf 4 (pwF noneS))) := allocs_row [.cells (rowOf 4 (pwF S)) 30, .cells (rowOf 4 (pwF noneS)) 30] w 1 _ _ rfl
  have hN' := Lib.hid hN
  have hK' := Lib.hid hK
  subst hKn
  have hN0 : 0 ≤ N := by omega
  clear hN hK
  have c1 := pf1 r1.out
  have f1 := r1.out.free 1
  obtain ⟨S1, hS1⟩ : ∃ S1 : St, S1 = { S with left := N } := ⟨_, rfl⟩
  have r3 := Lib.hid ((r1.out.set 1 (.int .i64 N)).congr (pw_cells (S' := S1) fun j hj => by
    subst hS1
    match j, hj with
    | 0, _ => rfl
    | 1, _ =>
      show Value.int .i64 N = .int .i64 ((N.toNat : Nat) : Int)
      rw [Int.toNat_of_nonneg hN0]
    | 2, _ => rfl
    | 3, _ => rfl))
  have r4 := Lib.hid (r2.out.other 1 (.int .i64 N) (p := w.heap.size) (by omega))
  have b3 := b0.setCell (p := ⟨w.heap.size, 1, none⟩) (Nat.le_refl _) (.int .i64 N)
  obtain ⟨S2, hS2⟩ : ∃ S2 : St, S2 = { S1 with keep := Kn } := ⟨_, rfl⟩
  have c2 := pf2 r3.out
  have f2 := r3.out.free 2
  have r5 := Lib.hid ((r3.out.set 2 (.int .i64 (Kn : Nat))).congr (pw_cells (S' := S2) fun j hj => by
    subst hS2
    match j, hj with
    | 0, _ => rfl
    | 1, _ => rfl
    | 2, _ => rfl
    | 3, _ => rfl))
  have r6 := Lib.hid (r4.out.other 2 (.int .i64 (Kn : Nat)) (p := w.heap.size) (by omega))
  have b5 := b3.setCell (p := ⟨w.heap.size, 2, none⟩) (Nat.le_refl _) (.int .i64 (Kn : Nat))
  obtain ⟨S3, hS3⟩ : ∃ S3 : St, S3 = { S2 with junk := j } := ⟨_, rfl⟩
  have c3 := pf3 r5.out
  have f3 := r5.out.free 3
  have r7 := Lib.hid ((r5.out.set 3 (.int .u8 (j : Nat))).congr (pw_cells (S' := S3) fun j hj => by
    subst hS3
    match j, hj with
    | 0, _ => rfl
    | 1, _ => rfl
    | 2, _ => rfl
    | 3, _ => rfl))
  have r8 := Lib.hid (r6.out.other 3 (.int .u8 (j : Nat)) (p := w.heap.size) (by omega))
  have b7 := b5.setCell (p := ⟨w.heap.size, 3, none⟩) (Nat.le_refl _) (.int .u8 (j : Nat))
  have eS : pwF S3 = pwF { S with left := N, keep := Kn, junk := j } := by
    subst hS3
    subst hS2
    subst hS1
    rfl
  rw [← eS]
  clear eS
  clear hS1 hS2 hS3 hN0 r1 r2 b0 r3 r4 b3 r5 r6 b5
  go_enter Try.func19, Try.ntmps19
  go_wp2_with (first | (refine wpList_new rfl (run_allocPow rfl _) ?_; generalize (w.alloc (.cells (rowOf 4 (pwF S)) 30)).alloc (.cells (rowOf 4 (pwF noneS)) 30) = w1 at *) | (refine wpList_max2 rfl _ _ rfl rfl n 0 N rfl rfl hN'.out ?_) | (refine wpList_max2 rfl _ _ rfl rfl k 0 (Kn : Int) rfl rfl hK'.out ?_) | (refine wpList_load_row rfl 30 _ rfl w.heap.size rfl 30 (rowOf 4 (pwF S3)) (0, 0) _ r7.out Try.underlying30 rfl (infoPow _) ?_) | (refine wpList_store_row rfl 30 _ _ rfl (w.heap.size + 1) (rowOf 4 (pwF S3)) rfl rfl 30 (rowOf 4 (pwF noneS)) r8.out (infoPow _) (by rw [rowOf_size, rowOf_size]) (rowOf_one (pwF_one _)) ?_))
  refine bodyPost_ret (v := .agg (rowOf 4 (pwF S3))) ?_ rfl ⟨rfl, below_setRow' b7 (Nat.le_succ _) _⟩
  exact results_cell_row Try.results19 _ _ (w.heap.size + 1) 30 (rowOf 4 (pwF S3)) (0, 0) _ rfl (r8.out.setRow _) Try.underlying30 rfl (infoPow _)


end Go.Proofs.Ytogeccmeaacgnaa

/-
  Elements of several cells: loaded whole; a slice of them copied; the copy as a row.
-/
namespace Go.Proofs.Ytogeccmeaacgnaa
open Go.RowKit
set_option linter.unusedVariables false

section
variable {P : Program} {S T : TypeId}
/-- An element, loaded whole at the operation. -/
theorem run_load_many {w : World} {ad : Option Addr} {n k i : Nat} {F : Nat → Value} {d : TypeDesc} (vs : List Value) (hk : vs.length = k) (hk0 : 0 < k) (hvs : ∀ j v, vs[j]? = some v → v = F (i * k + j)) (h : SeesV w ad (n * k) F) (hi : i < n) (hu : P.underlying T = some d) (hd : (match d with | .struct _ | .array _ _ => true | _ => false) = true) (hs : (P.info? T).map (·.size) = some k)
    {o : Oper} {a : Act} {x : Operand} (ho : o.op = .load T x) (hx : a.eval x = .pointer (some (elV ad (i * k)))) : (execOp a.eval o).run P w = .ok (.value (.agg vs.toArray)) w := by
  have hagg : (isAgg T).run P w = .ok true w := by
    unfold isAgg
    rw [Sem.run_bind, run_underlying hu w]
    cases d <;> simp_all
  obtain ⟨ad', rfl, _⟩ := h.some (Nat.mul_pos (by omega) hk0)
  have hle : ∀ j, j < k → i * k + j < n * k := fun j hj => by
    have : (i + 1) * k ≤ n * k := Nat.mul_le_mul_right k (by omega)
    rw [Nat.succ_mul] at this
    omega
  have hl := run_loadCells_list (P := P) w (elV (some ad') (i * k)) vs (fun j v hv => by
    have hj : j < k := by rw [← hk]; exact (List.getElem?_eq_some_iff.1 hv).1
    have e : (elV (some ad') (i * k)).add j = ad'.add (i * k + j) := Deep.add_add _ _ _
    obtain ⟨ad2, e2, _, hc⟩ := h (i * k + j) (hle j hj)
    cases e2
    rw [e, hc, hvs j v hv])
  rw [hk] at hl
  unfold execOp
  simp only [ho, hx, Instr.loadAt, Instr.sureAddr, Sem.run_bind, Sem.run_pure, Result.andThen_ok]
  have e3 : (loadVar T (elV (some ad') (i * k))).run P w = .ok (.agg vs.toArray) w := by
    simp [loadVar, Sem.run_bind, hagg, sizeOf_k hs, hl]
  simp [e3]

/-- append(own, s...): elements of several cells. -/
theorem wpList_append_K {ops : Array Oper} {rest : List Oper} {o : Oper} {a : Act} {w : World} {Q : Exit → Act → World → Prop} (hu : P.underlying S = some (.slice T)) {z : Value} {k bytes : Nat} (hi : (P.info? T).map (fun i => (i.zero, i.size, i.bytes)) = some (some z, k, bytes)) (hzs : z.cells.size = k) (hk : 0 < k) (hby : bytes ≤ 64)
    (hgd : o.guard = none) (s x : Operand) (ho : o.op = .call { callee := .builtin .append, args := #[s, x], argTypes := #[S, S] }) (base : Nat) (v : Value) (n0 : Nat) (xs : List Value) (hs : a.eval s = v) (hown : w.ownsRow base T k v n0 xs) (hbase : base ≤ w.heap.size)
    (al : Option Addr) (n c : Nat) (hx : a.eval x = .slice al n c) (F : Nat → Value) (hF : SeesV w al (n * k) F) (h1 : ∀ j, (F j).oneCell' = true) (hn0 : n0 ≤ 1000000) (hn : n ≤ 1000000) (hpos : 0 < n)
    (h : ∀ v' w', Hid (w'.ownsRow base T k v' (n0 + n) (xs ++ cellL (n * k) F)) → Hid (Below base w w') → wpList P ops Q rest (a.put o.dst v') w') : wpList P ops Q (o :: rest) a w := by
  obtain ⟨i0, hi, hz0, hz1, hz2⟩ := info_parts hi
  obtain ⟨ad, rfl, _⟩ := hF.some (Nat.mul_pos hpos hk)
  refine wpList_append_own_at w hgd s x S ho base T i0 z k bytes hu hi hz0 hz1 hz2 hzs hk v n0 xs hs hown ad n c (cellL (n * k) F) hx (by rw [cellL_length]) ?_ (cellL_one h1) (by unfold maxLen; omega) ?_ hbase ?_
  · intro j u hj
    have hl : j < n * k := by
      have := (List.getElem?_eq_some_iff.1 hj).1
      rwa [cellL_length] at this
    obtain ⟨ad', e, _, hc⟩ := hF j hl
    cases e
    rw [cellL_get _ F j hl] at hj
    rw [hc]
    exact hj
  · have : (n0 + n) * bytes ≤ 2000000 * 64 := Nat.mul_le_mul (by omega) hby
    omega
  · intro v' w' h2 h3 h4 h5
    exact h v' w' h2 ((Below.refl base w).grown h3 hbase (fun g hg => (hown.lt g hg).1))
end

/-- What is owned, as a row. -/
theorem own_rowOf {w : World} {base : Nat} {t : TypeId} {k n : Nat} {v : Value} {xs : List Value} (h : w.ownsRow base t k v n xs) (hn : 0 < n) : ∃ g cap G, v = .slice (some ⟨g, 0, none⟩) n cap ∧ RowAt w g t (rowOf (cap * k) G) ∧ (∀ j, j < n * k → xs[j]? = some (G j)) ∧ base ≤ g ∧ n ≤ cap ∧ cap ≤ maxLen := by
  rcases h.2 with ⟨_, rfl⟩ | ⟨g, cap, cur, rfl, hg, hr, hc, hm, hs, ht⟩
  · omega
  · refine ⟨g, cap, fun j => cur.getD j undef, rfl, ?_, fun j hj => ?_, hg, hc, hm⟩
    · have e : cur = rowOf (cap * k) fun j => cur.getD j undef := by
        apply Array.ext
        · rw [rowOf_size]; exact hs
        · intro i h1 h2
          rw [rowOf_size] at h2
          have := rowOf_get (cap * k) (fun j => cur.getD j undef) i h2
          rw [Array.getElem?_eq_getElem (by rw [rowOf_size]; exact h2)] at this
          rw [Option.some.inj this]
          simp [h1]
      rw [← e]
      exact hr
    · have hle : n * k ≤ cap * k := Nat.mul_le_mul_right k hc
      have hjs : j < cur.size := by omega
      rw [← ht, List.getElem?_take, if_pos hj, Array.getElem?_toList, Array.getElem?_eq_getElem hjs]
      simp [hjs]
/-- A row is seen. -/
theorem RowAt.seesV {w : World} {g L n : Nat} {t : TypeId} {F G : Nat → Value} (h : RowAt w g t (rowOf L F)) (hn : n ≤ L) (e : ∀ j, j < n → F j = G j) : SeesV w (some ⟨g, 0, none⟩) n G := fun j hj =>
  ⟨_, rfl, h.lt, by rw [addr_add, Nat.zero_add, h.cell j (by omega), e j hj]⟩

end Go.Proofs.Ytogeccmeaacgnaa

/-
  Contract: the document's Read.
-/
namespace Go.Proofs.Ytogeccmeaacgnaa
open Go.RowKit
set_option linter.unusedVariables false

theorem el_cells : Try.prog.elem 32 = 94 := by kernel_rfl
theorem sz_cell : (Try.prog.info? 94).map (·.size) = some 2 := by kernel_rfl
theorem infoCell : (Try.prog.info? 94).map (fun i => (i.zero, i.size, i.bytes)) = some (some (.agg #[.bool false, .string ⟨#[]⟩]), 2, 24) := by kernel_rfl
theorem cellV_0 {m i j q : Nat} {f : Nat → Nat → ByteArray} (hj : j < m) (hq : q = i * m + j) : cellV m f (q * 2) = .bool (isB (f i j)) := by
  have e1 : q * 2 / 2 = q := by omega
  have e2 : q / m = i := by rw [hq, Nat.mul_comm, Nat.mul_add_div (by omega), Nat.div_eq_of_lt hj, Nat.add_zero]
  have e3 : q % m = j := by rw [hq, Nat.mul_comm, Nat.mul_add_mod, Nat.mod_eq_of_lt hj]
  unfold cellV
  rw [if_pos (by omega), e1, e2, e3]
theorem cellV_1 {m i j q : Nat} {f : Nat → Nat → ByteArray} (hj : j < m) (hq : q = i * m + j) : cellV m f (q * 2 + 1) = .string (f i j) := by
  have e1 : (q * 2 + 1) / 2 = q := by omega
  have e2 : q / m = i := by rw [hq, Nat.mul_comm, Nat.mul_add_div (by omega), Nat.div_eq_of_lt hj, Nat.add_zero]
  have e3 : q % m = j := by rw [hq, Nat.mul_comm, Nat.mul_add_mod, Nat.mod_eq_of_lt hj]
  unfold cellV
  rw [if_neg (by omega), e1, e2, e3]
theorem load_cell {w : World} {al : Option Addr} {N q m : Nat} {f : Nat → Nat → ByteArray} {b : Bool} {s : ByteArray} (h : SeesV w al (N * 2) (cellV m f)) (hq : q < N) (h0 : cellV m f (q * 2) = .bool b) (h1 : cellV m f (q * 2 + 1) = .string s) {o : Oper} {a : Act} {x : Operand} (ho : o.op = .load 94 x) (hx : a.eval x = .pointer (some (elV al (q * 2)))) :
    (execOp a.eval o).run Try.prog w = .ok (.value (.agg #[.bool b, .string s])) w :=
  run_load_many [.bool b, .string s] rfl (show 0 < 2 by decide) (fun x v hx => by
    match x with
    | 0 =>
      have e : v = .bool b := by simpa using hx.symm
      rw [e]
      exact h0.symm
    | 1 =>
      have e : v = .string s := by simpa using hx.symm
      rw [e]
      exact h1.symm
    | x + 2 => simp at hx) h hq Try.underlying94 rfl sz_cell ho hx
theorem at_cell {w0 : World} {al : Option Addr} {N c q : Nat} {F : Nat → Value} (h : SeesV w0 al (N * 2) F) (hq : q < N) {o : Oper} {a : Act} {x y : Operand} (ho : o.op = .indexAddr 32 x y) (hx : a.eval x = .slice al N c) {z : Int} (hy : a.eval y = .int .i64 z) (hz : z = (q : Int)) (w : World) :
    (execOp a.eval o).run Try.prog w = .ok (.value (.pointer (some (elV al (q * 2))))) w := run_index_v Try.underlying32 el_cells sz_cell h (by decide) hq ho hx hy hz w
theorem place_lt {n m i j q : Nat} (hi : i < n) (hj : j < m) (hq : q = i * m + j) : q < n * m := by
  have : (i + 1) * m ≤ n * m := Nat.mul_le_mul_right m (by omega)
  rw [Nat.succ_mul] at this
  omega
set_option maxHeartbeats 2000000 in
set_option maxRecDepth 8000 in
theorem refRead_off (n m : Nat) (S : St) (M : Mem) (w : World) (hc : Hid (RefC w n m S M)) (z y : Int) (hu : S.up = false) :
    Calls Try.prog 17 #[.agg (rowOf 139 (refF n m S M)), .int .i64 z, .int .i64 y] w fun e w' => e = .returned (.tuple #[.string ⟨#[]⟩, .bool false, .int .i64 4]) ∧ Below w.heap.size w w' := by
  have b0 : Below w.heap.size w (w.alloc (.cells (rowOf 139 (refF n m S M)) 36)) := (Below.refl _ _).alloc (Nat.le_refl _) _
  have r0 := Lib.hid (RowAt.new w 36 (rowOf 139 (refF n m S M)))
  have h0 := Lib.hid (hc.out.after b0)
  have c0 := rf0 r0.out
  rw [hu, Bool.not_false] at c0
  go_enter Try.func17, Try.ntmps17
  go_wp2
  go_ret3
  exact ⟨rfl, b0⟩

set_option maxHeartbeats 2000000 in
set_option maxRecDepth 8000 in
theorem refRead_arg (n m : Nat) (S : St) (M : Mem) (w : World) (hc : Hid (RefC w n m S M)) (z y : Int) (hu : S.up = true) (hin : (inB z n && inB y m) = false) :
    Calls Try.prog 17 #[.agg (rowOf 139 (refF n m S M)), .int .i64 z, .int .i64 y] w fun e w' => e = .returned (.tuple #[.string ⟨#[]⟩, .bool false, .int .i64 1]) ∧ Below w.heap.size w w' := by
  have b0 : Below w.heap.size w (w.alloc (.cells (rowOf 139 (refF n m S M)) 36)) := (Below.refl _ _).alloc (Nat.le_refl _) _
  have r0 := Lib.hid (RowAt.new w 36 (rowOf 139 (refF n m S M)))
  have h0 := Lib.hid (hc.out.after b0)
  have c0 := rf0 r0.out
  rw [hu, Bool.not_true] at c0
  have I := Lib.hid (refIn_any n m S M (w.alloc (.cells (rowOf 139 (refF n m S M)) 36)) z y)
  rw [hin] at I
  go_enter Try.func17, Try.ntmps17
  go_wp2_with (first | (refine wpList_load_row rfl 36 _ rfl (w.heap.size) rfl 36 (rowOf 139 (refF n m S M)) (0, 0) _ r0.out Try.underlying36 rfl (infoChip _) ?_))
  refine I.out.mono ?_
  rintro e w2 ⟨rfl, bi⟩
  have r2 := Lib.hid (r0.out.below bi r0.out.lt)
  have h2 := Lib.hid (h0.out.after bi)
  have b2 := b0.trans (bi.mono b0.size)
  clear I r0 h0 b0 bi c0
  go_wp2
  go_ret3
  exact ⟨rfl, b2⟩

set_option maxHeartbeats 2000000 in
set_option maxRecDepth 8000 in
theorem refRead_yes (n m : Nat) (S : St) (M : Mem) (w : World) (hc : Hid (RefC w n m S M)) (i j : Nat) (hi : i < n) (hj : j < m) (hn64 : n ≤ 64) (hm16 : m ≤ 16) (hu : S.up = true) :
    Calls Try.prog 17 #[.agg (rowOf 139 (refF n m S M)), .int .i64 (i : Nat), .int .i64 (j : Nat)] w fun e w' => e = .returned (.tuple #[.string (S.page i j), .bool (isB (S.page i j)), .int .i64 0]) ∧ Below w.heap.size w w' := by
  have b0 : Below w.heap.size w (w.alloc (.cells (rowOf 139 (refF n m S M)) 36)) := (Below.refl _ _).alloc (Nat.le_refl _) _
  have r0 := Lib.hid (RowAt.new w 36 (rowOf 139 (refF n m S M)))
  have h0 := Lib.hid (hc.out.after b0)
  have c0 := rf0 r0.out
  rw [hu, Bool.not_true] at c0
  have hin : (inB ((i : Nat) : Int) n && inB ((j : Nat) : Int) m) = true := by rw [inB_nat i _ hi, inB_nat j _ hj]; rfl
  have I := Lib.hid (refIn_any n m S M (w.alloc (.cells (rowOf 139 (refF n m S M)) 36)) (i : Int) (j : Int))
  rw [hin] at I
  obtain ⟨r, hr⟩ : ∃ r, r = i * m := ⟨_, rfl⟩
  obtain ⟨q, hq⟩ : ∃ q, q = r + j := ⟨_, rfl⟩
  have hqq : q = i * m + j := by rw [hq, hr]
  have hr6 : r ≤ 1024 := by
    rw [hr]
    exact Nat.le_trans (Nat.mul_le_mul (show i ≤ 64 by omega) hm16) (by decide)
  have er : (i : Int) * (m : Int) = (r : Int) := by rw [hr, Int.natCast_mul]
  have eq : (r : Int) + (j : Int) = (q : Int) := by rw [hq, Int.natCast_add]
  have hqn := Lib.hid (place_lt hi hj hqq)
  have v0 := cellV_0 (f := S.page) hj hqq
  have v1 := cellV_1 (f := S.page) hj hqq
  replace v0 := Lib.hid v0
  replace v1 := Lib.hid v1
  clear hr hq hqq
  go_enter Try.func17, Try.ntmps17
  go_wp2_with (first | (refine wpList_load_row rfl 36 _ rfl (w.heap.size) rfl 36 (rowOf 139 (refF n m S M)) (0, 0) _ r0.out Try.underlying36 rfl (infoChip _) ?_))
  refine I.out.mono ?_
  rintro e w2 ⟨rfl, bi⟩
  have r2 := Lib.hid (r0.out.below bi r0.out.lt)
  have h2 := Lib.hid (h0.out.after bi)
  have b2 := b0.trans (bi.mono b0.size)
  clear I r0 h0 b0 bi c0
  have c5 := rf5 r2.out
  have c71 := rf71 r2.out
  have r9 := RowAt.new w2 94 #[.bool false, .string ⟨#[]⟩]
  have r8 := Lib.hid (RowAt.new w2 94 #[.bool (isB (S.page i j)), .string (S.page i j)])
  have b8 := b2.alloc b2.size (.cells #[.bool (isB (S.page i j)), .string (S.page i j)] 94)
  have hcl := Lib.hid h2.out.cells
  clear h2
  go_wp2_with (first | (refine wpList_known rfl (at_cell hcl.out hqn.out rfl rfl rfl rfl _) ?_) | (refine wpList_known rfl (load_cell hcl.out hqn.out v0.out v1.out rfl rfl) ?_) | (refine wpList_store_row rfl 94 _ _ rfl w2.heap.size #[.bool (isB (S.page i j)), .string (S.page i j)] rfl rfl 94 #[.bool false, .string ⟨#[]⟩] r9 (by kernel_rfl) rfl rfl ?_))
  clear r9 b2 r2 c5 c71 hcl v0 v1
  generalize w2.alloc (.cells #[.bool (isB (S.page i j)), .string (S.page i j)] 94) = w3 at *
  have d0 := cell_of_row w3 _ 0 _ _ _ r8.out
  have d1 := cell_of_row w3 _ 1 _ _ _ r8.out
  change w3.cell? _ = some (.bool (isB (S.page i j))) at d0
  change w3.cell? _ = some (.string (S.page i j)) at d1
  go_quiet (fail)
  go_wp2_with fail
  go_ret3
  exact ⟨rfl, b8.trans ⟨rfl, rfl, rfl, Nat.le_refl _, fun _ _ => rfl⟩⟩

theorem refRead_any (n m : Nat) (S : St) (M : Mem) (w : World) (hc : Hid (RefC w n m S M)) (hn64 : n ≤ 64) (hm16 : m ≤ 16) (z y : Int) :
    Calls Try.prog 17 #[.agg (rowOf 139 (refF n m S M)), .int .i64 z, .int .i64 y] w fun e w' => e = .returned (.tuple (readV n m S z y)) ∧ Below w.heap.size w w' := by
  unfold readV
  by_cases hu : S.up = false
  · rw [if_pos hu]
    exact refRead_off n m S M w hc z y hu
  rw [if_neg hu]
  have hu' : S.up = true := by simpa using hu
  by_cases hin : (inB z n && inB y m) = false
  · rw [if_pos hin]
    exact refRead_arg n m S M w hc z y hu' hin
  rw [if_neg hin]
  have hin' : (inB z n && inB y m) = true := by simpa using hin
  rw [Bool.and_eq_true] at hin'
  obtain ⟨i, rfl, hi⟩ := inB_get hin'.1
  obtain ⟨j, rfl, hj⟩ := inB_get hin'.2
  exact refRead_yes n m S M w hc i j hi hj hn64 hm16 hu'

end Go.Proofs.Ytogeccmeaacgnaa

/-
  Contract: the document's Erase.
-/
namespace Go.Proofs.Ytogeccmeaacgnaa
open Go.RowKit
set_option linter.unusedVariables false

/-- What the document's Erase, or Program, comes to. -/
def NewM (w w' : World) (M M' : Mem) : Prop := (∀ ad, M'.al = some ad → M.al = some ad ∨ w.heap.size ≤ ad.block ∧ ad.block < w'.heap.size) ∧ ∀ ad, M'.ap = some ad → M.ap = some ad ∨ w.heap.size ≤ ad.block ∧ ad.block < w'.heap.size
theorem NewM.same (w w' : World) (M : Mem) : NewM w w' M M := ⟨fun ad h => .inl h, fun ad h => .inl h⟩
def RefEnd (n m : Nat) (M : Mem) (S' : St) (E : Int) (w : World) (e : Ending) (w' : World) : Prop := ∃ M', e = .returned (.tuple #[.agg (rowOf 139 (refF n m S' M')), .int .i64 E]) ∧ Hid (RefC w' n m S' M') ∧ Below w.heap.size w w' ∧ NewM w w' M M'
set_option maxHeartbeats 4000000 in
set_option maxRecDepth 8000 in
theorem refErase_off (n m : Nat) (S : St) (M : Mem) (w : World) (hc : Hid (RefC w n m S M)) (z : Int) (hu : S.up = false) :
    Calls Try.prog 15 #[.agg (rowOf 139 (refF n m S M)), .int .i64 z] w (RefEnd n m M S 4 w) := by
  have b1 : Below w.heap.size w ((w.alloc (.cells (rowOf 139 (refF n m S M)) 36)).alloc (.cells (rowOf 139 (refF 0 0 noneS noneM)) 36)) := allocs_below [.cells (rowOf 139 (refF n m S M)) 36, .cells (rowOf 139 (refF 0 0 noneS noneM)) 36] w
  have r1 : Hid (RowAt ((w.alloc (.cells (rowOf 139 (refF n m S M)) 36)).alloc (.cells (rowOf 139 (refF 0 0 noneS noneM)) 36)) w.heap.size 36 (rowOf 139 (refF n m S M))) := allocs_row [.cells (rowOf 139 (refF n m S M)) 36, .cells (rowOf 139 (refF 0 0 noneS noneM)) 36] w 0 _ _ rfl
  have s1 : Hid (RowAt ((w.alloc (.cells (rowOf 139 (refF n m S M)) 36)).alloc (.cells (rowOf 139 (refF 0 0 noneS noneM)) 36)) (w.heap.size + 1) 36 (rowOf 139 (refF 0 0 noneS noneM))) := allocs_row [.cells (rowOf 139 (refF n m S M)) 36, .cells (rowOf 139 (refF 0 0 noneS noneM)) 36] w 1 _ _ rfl
  have c0 := rf0 r1.out
  rw [hu, Bool.not_false] at c0
  go_enter Try.func15, Try.ntmps15
  go_wp2_with (first | (refine wpList_new rfl (run_allocChip rfl _) ?_; generalize (w.alloc (.cells (rowOf 139 (refF n m S M)) 36)).alloc (.cells (rowOf 139 (refF 0 0 noneS noneM)) 36) = w1 at *) | (refine wpList_load_row rfl 36 _ rfl w.heap.size rfl 36 (rowOf 139 (refF n m S M)) (0, 0) _ r1.out Try.underlying36 rfl (infoChip _) ?_) | (refine wpList_store_row rfl 36 _ _ rfl (w.heap.size + 1) (rowOf 139 (refF n m S M)) rfl rfl 36 (rowOf 139 (refF 0 0 noneS noneM)) s1.out (infoChip _) (by rw [rowOf_size, rowOf_size]) (refF_all _ _ _ _) ?_))
  refine bodyPost_ret (v := .tuple #[.agg (rowOf 139 (refF n m S M)), .int .i64 4]) ?_ rfl ⟨M, rfl, hc.out.after (below_setRow' b1 (Nat.le_succ _) _), (below_setRow' b1 (Nat.le_succ _) _), .same _ _ _⟩
  exact results_row_one Try.results15 _ _ (w.heap.size + 1) 36 (rowOf 139 (refF n m S M)) (0, 0) _ rfl (s1.out.setRow _) Try.underlying36 rfl (infoChip _)

set_option maxHeartbeats 4000000 in
set_option maxRecDepth 8000 in
theorem refErase_arg (n m : Nat) (S : St) (M : Mem) (w : World) (hc : Hid (RefC w n m S M)) (z : Int) (hu : S.up = true) (hin : (inB z n && inB 0 m) = false) :
    Calls Try.prog 15 #[.agg (rowOf 139 (refF n m S M)), .int .i64 z] w (RefEnd n m M S 1 w) := by
  have b1 : Below w.heap.size w ((w.alloc (.cells (rowOf 139 (refF n m S M)) 36)).alloc (.cells (rowOf 139 (refF 0 0 noneS noneM)) 36)) := allocs_below [.cells (rowOf 139 (refF n m S M)) 36, .cells (rowOf 139 (refF 0 0 noneS noneM)) 36] w
  have r1 : Hid (RowAt ((w.alloc (.cells (rowOf 139 (refF n m S M)) 36)).alloc (.cells (rowOf 139 (refF 0 0 noneS noneM)) 36)) w.heap.size 36 (rowOf 139 (refF n m S M))) := allocs_row [.cells (rowOf 139 (refF n m S M)) 36, .cells (rowOf 139 (refF 0 0 noneS noneM)) 36] w 0 _ _ rfl
  have s1 : Hid (RowAt ((w.alloc (.cells (rowOf 139 (refF n m S M)) 36)).alloc (.cells (rowOf 139 (refF 0 0 noneS noneM)) 36)) (w.heap.size + 1) 36 (rowOf 139 (refF 0 0 noneS noneM))) := allocs_row [.cells (rowOf 139 (refF n m S M)) 36, .cells (rowOf 139 (refF 0 0 noneS noneM)) 36] w 1 _ _ rfl
  have c0 := rf0 r1.out
  rw [hu, Bool.not_true] at c0
  have I := Lib.hid (refIn_any n m S M ((w.alloc (.cells (rowOf 139 (refF n m S M)) 36)).alloc (.cells (rowOf 139 (refF 0 0 noneS noneM)) 36)) z 0)
  rw [hin] at I
  go_enter Try.func15, Try.ntmps15
  go_wp2_with (first | (refine wpList_new rfl (run_allocChip rfl _) ?_; generalize (w.alloc (.cells (rowOf 139 (refF n m S M)) 36)).alloc (.cells (rowOf 139 (refF 0 0 noneS noneM)) 36) = w1 at *) | (refine wpList_load_row rfl 36 _ rfl w.heap.size rfl 36 (rowOf 139 (refF n m S M)) (0, 0) _ r1.out Try.underlying36 rfl (infoChip _) ?_))
  refine I.out.mono ?_
  rintro e w2 ⟨rfl, bi⟩
  have r2 := Lib.hid (r1.out.below bi r1.out.lt)
  have s2 := Lib.hid (s1.out.below bi s1.out.lt)
  have b2 := b1.trans (bi.mono b1.size)
  clear I r1 s1 b1 bi c0
  go_wp2_with (first | (refine wpList_load_row rfl 36 _ rfl w.heap.size rfl 36 (rowOf 139 (refF n m S M)) (0, 0) _ r2.out Try.underlying36 rfl (infoChip _) ?_) | (refine wpList_store_row rfl 36 _ _ rfl (w.heap.size + 1) (rowOf 139 (refF n m S M)) rfl rfl 36 (rowOf 139 (refF 0 0 noneS noneM)) s2.out (infoChip _) (by rw [rowOf_size, rowOf_size]) (refF_all _ _ _ _) ?_))
  refine bodyPost_ret (v := .tuple #[.agg (rowOf 139 (refF n m S M)), .int .i64 1]) ?_ rfl ⟨M, rfl, hc.out.after (below_setRow' b2 (Nat.le_succ _) _), (below_setRow' b2 (Nat.le_succ _) _), .same _ _ _⟩
  exact results_row_one Try.results15 _ _ (w.heap.size + 1) 36 (rowOf 139 (refF n m S M)) (0, 0) _ rfl (s2.out.setRow _) Try.underlying36 rfl (infoChip _)

set_option maxHeartbeats 4000000 in
set_option maxRecDepth 8000 in
theorem refErase_worn (n m : Nat) (S : St) (M : Mem) (w : World) (hc : Hid (RefC w n m S M)) (i : Nat) (hi : i < n) (hn64 : n ≤ 64) (hu : S.up = true) (hin : (inB ((i : Nat) : Int) n && inB 0 m) = true) (hw : wornB S i = true) :
    Calls Try.prog 15 #[.agg (rowOf 139 (refF n m S M)), .int .i64 (i : Nat)] w (RefEnd n m M S 101 w) := by
  have b1 : Below w.heap.size w ((w.alloc (.cells (rowOf 139 (refF n m S M)) 36)).alloc (.cells (rowOf 139 (refF 0 0 noneS noneM)) 36)) := allocs_below [.cells (rowOf 139 (refF n m S M)) 36, .cells (rowOf 139 (refF 0 0 noneS noneM)) 36] w
  have r1 : Hid (RowAt ((w.alloc (.cells (rowOf 139 (refF n m S M)) 36)).alloc (.cells (rowOf 139 (refF 0 0 noneS noneM)) 36)) w.heap.size 36 (rowOf 139 (refF n m S M))) := allocs_row [.cells (rowOf 139 (refF n m S M)) 36, .cells (rowOf 139 (refF 0 0 noneS noneM)) 36] w 0 _ _ rfl
  have s1 : Hid (RowAt ((w.alloc (.cells (rowOf 139 (refF n m S M)) 36)).alloc (.cells (rowOf 139 (refF 0 0 noneS noneM)) 36)) (w.heap.size + 1) 36 (rowOf 139 (refF 0 0 noneS noneM))) := allocs_row [.cells (rowOf 139 (refF n m S M)) 36, .cells (rowOf 139 (refF 0 0 noneS noneM)) 36] w 1 _ _ rfl
  have c0 := rf0 r1.out
  rw [hu, Bool.not_true] at c0
  have I := Lib.hid (refIn_any n m S M ((w.alloc (.cells (rowOf 139 (refF n m S M)) 36)).alloc (.cells (rowOf 139 (refF 0 0 noneS noneM)) 36)) (i : Int) 0)
  rw [hin] at I
  have hw' : S.bad i = true ∨ S.bad i = false ∧ S.rated ≤ (S.wear i : Int) := by
    unfold wornB at hw
    cases hb : S.bad i with
    | true => exact .inl rfl
    | false =>
      rw [hb, Bool.false_or, decide_eq_true_eq] at hw
      exact .inr ⟨rfl, hw⟩
  rcases hw' with hb | ⟨hb, hr⟩
  · clear hw
    go_enter Try.func15, Try.ntmps15
    go_wp2_with (first | (refine wpList_new rfl (run_allocChip rfl _) ?_; generalize (w.alloc (.cells (rowOf 139 (refF n m S M)) 36)).alloc (.cells (rowOf 139 (refF 0 0 noneS noneM)) 36) = w1 at *) | (refine wpList_load_row rfl 36 _ rfl w.heap.size rfl 36 (rowOf 139 (refF n m S M)) (0, 0) _ r1.out Try.underlying36 rfl (infoChip _) ?_))
    refine I.out.mono ?_
    rintro e w2 ⟨rfl, bi⟩
    have r2 := Lib.hid (r1.out.below bi r1.out.lt)
    have s2 := Lib.hid (s1.out.below bi s1.out.lt)
    have b2 := b1.trans (bi.mono b1.size)
    clear I r1 s1 b1 bi c0
    have c6 := rf6 r2.out
    have cb := rfBad r2.out (i := i) (by omega)
    have cw := rfWear r2.out (i := i) (by omega)
    have i64 : (i : Int) < 64 := by omega
    rw [hb] at cb
    go_wp2_with fail
    go_quiet (fail)
    have bq : Below w2.heap.size w2 (w2.drewN nq) := ⟨rfl, rfl, rfl, Nat.le_refl _, fun _ _ => rfl⟩
    have r3 := Lib.hid (r2.out.below bq r2.out.lt)
    have s3 := Lib.hid (s2.out.below bq s2.out.lt)
    have b3 := b2.trans (bq.mono b2.size)
    go_wp2_with (first | (refine wpList_load_row rfl 36 _ rfl w.heap.size rfl 36 (rowOf 139 (refF n m S M)) (0, 0) _ r3.out Try.underlying36 rfl (infoChip _) ?_) | (refine wpList_store_row rfl 36 _ _ rfl (w.heap.size + 1) (rowOf 139 (refF n m S M)) rfl rfl 36 (rowOf 139 (refF 0 0 noneS noneM)) s3.out (infoChip _) (by rw [rowOf_size, rowOf_size]) (refF_all _ _ _ _) ?_))
    refine bodyPost_ret (v := .tuple #[.agg (rowOf 139 (refF n m S M)), .int .i64 101]) ?_ rfl ⟨M, rfl, hc.out.after (below_setRow' b3 (Nat.le_succ _) _), (below_setRow' b3 (Nat.le_succ _) _), .same _ _ _⟩
    exact results_row_one Try.results15 _ _ (w.heap.size + 1) 36 (rowOf 139 (refF n m S M)) (0, 0) _ rfl (s3.out.setRow _) Try.underlying36 rfl (infoChip _)
  · clear hw
    have d1 : decide (((S.wear i : Nat) : Int) ≥ S.rated) = true := decide_eq_true hr
    clear hr
    go_enter Try.func15, Try.ntmps15
    go_wp2_with (first | (refine wpList_new rfl (run_allocChip rfl _) ?_; generalize (w.alloc (.cells (rowOf 139 (refF n m S M)) 36)).alloc (.cells (rowOf 139 (refF 0 0 noneS noneM)) 36) = w1 at *) | (refine wpList_load_row rfl 36 _ rfl w.heap.size rfl 36 (rowOf 139 (refF n m S M)) (0, 0) _ r1.out Try.underlying36 rfl (infoChip _) ?_))
    refine I.out.mono ?_
    rintro e w2 ⟨rfl, bi⟩
    have r2 := Lib.hid (r1.out.below bi r1.out.lt)
    have s2 := Lib.hid (s1.out.below bi s1.out.lt)
    have b2 := b1.trans (bi.mono b1.size)
    clear I r1 s1 b1 bi c0
    have c6 := rf6 r2.out
    have cb := rfBad r2.out (i := i) (by omega)
    have cw := rfWear r2.out (i := i) (by omega)
    have i64 : (i : Int) < 64 := by omega
    rw [hb] at cb
    go_wp2_with fail
    go_quiet (fail)
    have bq : Below w2.heap.size w2 (w2.drewN nq) := ⟨rfl, rfl, rfl, Nat.le_refl _, fun _ _ => rfl⟩
    have r3 := Lib.hid (r2.out.below bq r2.out.lt)
    have s3 := Lib.hid (s2.out.below bq s2.out.lt)
    have b3 := b2.trans (bq.mono b2.size)
    go_wp2_with (first | (refine wpList_load_row rfl 36 _ rfl w.heap.size rfl 36 (rowOf 139 (refF n m S M)) (0, 0) _ r3.out Try.underlying36 rfl (infoChip _) ?_) | (refine wpList_store_row rfl 36 _ _ rfl (w.heap.size + 1) (rowOf 139 (refF n m S M)) rfl rfl 36 (rowOf 139 (refF 0 0 noneS noneM)) s3.out (infoChip _) (by rw [rowOf_size, rowOf_size]) (refF_all _ _ _ _) ?_))
    refine bodyPost_ret (v := .tuple #[.agg (rowOf 139 (refF n m S M)), .int .i64 101]) ?_ rfl ⟨M, rfl, hc.out.after (below_setRow' b3 (Nat.le_succ _) _), (below_setRow' b3 (Nat.le_succ _) _), .same _ _ _⟩
    exact results_row_one Try.results15 _ _ (w.heap.size + 1) 36 (rowOf 139 (refF n m S M)) (0, 0) _ rfl (s3.out.setRow _) Try.underlying36 rfl (infoChip _)


end Go.Proofs.Ytogeccmeaacgnaa

/-
  The cells of the document's chip: one of its fields turned, one of its pages laid.
-/
namespace Go.Proofs.Ytogeccmeaacgnaa
open Go.RowKit
set_option linter.unusedVariables false

theorem cellV_one (m : Nat) (f : Nat → Nat → ByteArray) (j : Nat) : (cellV m f j).oneCell' = true := by
  unfold cellV
  split <;> rfl
theorem cell_lay {m i x q N : Nat} {G H : Nat → Value} {f f' : Nat → Nat → ByteArray} {b : Bool} {s : ByteArray} (hx : x < m) (hq : q = i * m + x) (hG : ∀ j, j < N * 2 → G j = cellV m f j) (hb : isB s = b) (hf : ∀ a y, y < m → f' a y = if a = i ∧ y = x then s else f a y) (h0 : H 0 = .bool b) (h1 : H 1 = .string s) :
    ∀ j, j < N * 2 → laidV G H (q * 2) 2 j = cellV m f' j := by
  intro j hj
  have hm : 0 < m := by omega
  have hy : j / 2 % m < m := Nat.mod_lt _ hm
  have hfe := hf (j / 2 / m) (j / 2 % m) hy
  have hdm : j / 2 / m * m + j / 2 % m = j / 2 := by rw [Nat.mul_comm]; exact Nat.div_add_mod _ _
  unfold laidV
  by_cases c : q * 2 ≤ j ∧ j < q * 2 + 2
  · rw [if_pos c]
    have e : j / 2 = q := by omega
    have e2 : q / m = i := by rw [hq, Nat.mul_comm, Nat.mul_add_div hm, Nat.div_eq_of_lt hx, Nat.add_zero]
    have e3 : q % m = x := by rw [hq, Nat.mul_comm, Nat.mul_add_mod, Nat.mod_eq_of_lt hx]
    rw [e, e2, e3, if_pos ⟨rfl, rfl⟩] at hfe
    unfold cellV
    rw [e, e2, e3, hfe, hb]
    by_cases d : j % 2 = 0
    · rw [if_pos d, show j - q * 2 = 0 by omega, h0]
    · rw [if_neg d, show j - q * 2 = 1 by omega, h1]
  · rw [if_neg c, hG j hj]
    have hne : ¬ (j / 2 / m = i ∧ j / 2 % m = x) := fun h => by
      rw [h.1, h.2, ← hq] at hdm
      omega
    rw [if_neg hne] at hfe
    unfold cellV
    rw [hfe]
theorem cellV_congr {m : Nat} (hm : 0 < m) {f g : Nat → Nat → ByteArray} (h : ∀ a y, y < m → f a y = g a y) (j : Nat) : cellV m f j = cellV m g j := by
  unfold cellV
  rw [h _ _ (Nat.mod_lt _ hm)]
theorem ref_wear (n m : Nat) (S : St) (M : Mem) (i : Nat) (hi : i < 64) (pg : Nat → Nat → ByteArray) : ∀ j, j < 139 → (if j = 72 + i then .int .i64 ((S.wear i + 1 : Nat) : Int) else refF n m S M j) = refF n m { S with page := pg, wear := updW S.wear i } M j := by
  intro j hj
  unfold refF
  by_cases h0 : j < 4
  · first | rw [if_neg (show ¬ j = 72 + i by omega), if_pos h0, if_pos h0] | rw [if_neg (show ¬ j = 72 + i by omega), if_pos h0]
    try rfl
  first | rw [if_neg h0, if_neg h0] | rw [if_neg h0]
  by_cases h1 : j = 4
  · first | rw [if_neg (show ¬ j = 72 + i by omega), if_pos h1, if_pos h1] | rw [if_neg (show ¬ j = 72 + i by omega), if_pos h1]
    try rfl
  first | rw [if_neg h1, if_neg h1] | rw [if_neg h1]
  by_cases h2 : j = 5
  · first | rw [if_neg (show ¬ j = 72 + i by omega), if_pos h2, if_pos h2] | rw [if_neg (show ¬ j = 72 + i by omega), if_pos h2]
    try rfl
  first | rw [if_neg h2, if_neg h2] | rw [if_neg h2]
  by_cases h3 : j = 6
  · first | rw [if_neg (show ¬ j = 72 + i by omega), if_pos h3, if_pos h3] | rw [if_neg (show ¬ j = 72 + i by omega), if_pos h3]
    try rfl
  first | rw [if_neg h3, if_neg h3] | rw [if_neg h3]
  by_cases h4 : j < 71
  · first | rw [if_neg (show ¬ j = 72 + i by omega), if_pos h4, if_pos h4] | rw [if_neg (show ¬ j = 72 + i by omega), if_pos h4]
    try rfl
  first | rw [if_neg h4, if_neg h4] | rw [if_neg h4]
  by_cases h5 : j = 71
  · first | rw [if_neg (show ¬ j = 72 + i by omega), if_pos h5, if_pos h5] | rw [if_neg (show ¬ j = 72 + i by omega), if_pos h5]
    try rfl
  first | rw [if_neg h5, if_neg h5] | rw [if_neg h5]
  by_cases h6 : j < 136
  · by_cases c : j = 72 + i
    · subst c
      rw [if_pos rfl, if_pos h6]
      show _ = Value.int .i64 ((updW S.wear i (72 + i - 72) : Nat) : Int)
      unfold updW
      rw [if_pos (by omega)]
    · rw [if_neg c, if_pos h6, if_pos h6]
      show _ = Value.int .i64 ((updW S.wear i (j - 72) : Nat) : Int)
      unfold updW
      rw [if_neg (by omega)]
  first | rw [if_neg h6, if_neg h6] | rw [if_neg h6]
  by_cases h7 : j = 136
  · first | rw [if_neg (show ¬ j = 72 + i by omega), if_pos h7, if_pos h7] | rw [if_neg (show ¬ j = 72 + i by omega), if_pos h7]
    try rfl
  first | rw [if_neg h7, if_neg h7] | rw [if_neg h7]
  by_cases h8 : j = 137
  · first | rw [if_neg (show ¬ j = 72 + i by omega), if_pos h8, if_pos h8] | rw [if_neg (show ¬ j = 72 + i by omega), if_pos h8]
    try rfl
  first | rw [if_neg h8, if_neg h8] | rw [if_neg h8]
  rw [if_neg (show ¬ j = 72 + i by omega)]
theorem ref_era (n m : Nat) (S : St) (M : Mem) : ∀ j, j < 139 → (if j = 138 then .int .i64 ((S.erases + 1 : Nat) : Int) else refF n m S M j) = refF n m { S with erases := S.erases + 1 } M j := by
  intro j hj
  unfold refF
  by_cases h0 : j < 4
  · first | rw [if_neg (show ¬ j = 138 by omega), if_pos h0, if_pos h0] | rw [if_neg (show ¬ j = 138 by omega), if_pos h0]
    try rfl
  first | rw [if_neg h0, if_neg h0] | rw [if_neg h0]
  by_cases h1 : j = 4
  · first | rw [if_neg (show ¬ j = 138 by omega), if_pos h1, if_pos h1] | rw [if_neg (show ¬ j = 138 by omega), if_pos h1]
    try rfl
  first | rw [if_neg h1, if_neg h1] | rw [if_neg h1]
  by_cases h2 : j = 5
  · first | rw [if_neg (show ¬ j = 138 by omega), if_pos h2, if_pos h2] | rw [if_neg (show ¬ j = 138 by omega), if_pos h2]
    try rfl
  first | rw [if_neg h2, if_neg h2] | rw [if_neg h2]
  by_cases h3 : j = 6
  · first | rw [if_neg (show ¬ j = 138 by omega), if_pos h3, if_pos h3] | rw [if_neg (show ¬ j = 138 by omega), if_pos h3]
    try rfl
  first | rw [if_neg h3, if_neg h3] | rw [if_neg h3]
  by_cases h4 : j < 71
  · first | rw [if_neg (show ¬ j = 138 by omega), if_pos h4, if_pos h4] | rw [if_neg (show ¬ j = 138 by omega), if_pos h4]
    try rfl
  first | rw [if_neg h4, if_neg h4] | rw [if_neg h4]
  by_cases h5 : j = 71
  · first | rw [if_neg (show ¬ j = 138 by omega), if_pos h5, if_pos h5] | rw [if_neg (show ¬ j = 138 by omega), if_pos h5]
    try rfl
  first | rw [if_neg h5, if_neg h5] | rw [if_neg h5]
  by_cases h6 : j < 136
  · first | rw [if_neg (show ¬ j = 138 by omega), if_pos h6, if_pos h6] | rw [if_neg (show ¬ j = 138 by omega), if_pos h6]
    try rfl
  first | rw [if_neg h6, if_neg h6] | rw [if_neg h6]
  by_cases h7 : j = 136
  · first | rw [if_neg (show ¬ j = 138 by omega), if_pos h7, if_pos h7] | rw [if_neg (show ¬ j = 138 by omega), if_pos h7]
    try rfl
  first | rw [if_neg h7, if_neg h7] | rw [if_neg h7]
  by_cases h8 : j = 137
  · first | rw [if_neg (show ¬ j = 138 by omega), if_pos h8, if_pos h8] | rw [if_neg (show ¬ j = 138 by omega), if_pos h8]
    try rfl
  first | rw [if_neg h8, if_neg h8] | rw [if_neg h8]
  rw [if_pos (show j = 138 by omega)]
theorem ref_prg (n m : Nat) (S : St) (M : Mem) : ∀ j, j < 139 → (if j = 137 then .int .i64 ((S.progs + 1 : Nat) : Int) else refF n m S M j) = refF n m { S with progs := S.progs + 1 } M j := by
  intro j hj
  unfold refF
  by_cases h0 : j < 4
  · first | rw [if_neg (show ¬ j = 137 by omega), if_pos h0, if_pos h0] | rw [if_neg (show ¬ j = 137 by omega), if_pos h0]
    try rfl
  first | rw [if_neg h0, if_neg h0] | rw [if_neg h0]
  by_cases h1 : j = 4
  · first | rw [if_neg (show ¬ j = 137 by omega), if_pos h1, if_pos h1] | rw [if_neg (show ¬ j = 137 by omega), if_pos h1]
    try rfl
  first | rw [if_neg h1, if_neg h1] | rw [if_neg h1]
  by_cases h2 : j = 5
  · first | rw [if_neg (show ¬ j = 137 by omega), if_pos h2, if_pos h2] | rw [if_neg (show ¬ j = 137 by omega), if_pos h2]
    try rfl
  first | rw [if_neg h2, if_neg h2] | rw [if_neg h2]
  by_cases h3 : j = 6
  · first | rw [if_neg (show ¬ j = 137 by omega), if_pos h3, if_pos h3] | rw [if_neg (show ¬ j = 137 by omega), if_pos h3]
    try rfl
  first | rw [if_neg h3, if_neg h3] | rw [if_neg h3]
  by_cases h4 : j < 71
  · first | rw [if_neg (show ¬ j = 137 by omega), if_pos h4, if_pos h4] | rw [if_neg (show ¬ j = 137 by omega), if_pos h4]
    try rfl
  first | rw [if_neg h4, if_neg h4] | rw [if_neg h4]
  by_cases h5 : j = 71
  · first | rw [if_neg (show ¬ j = 137 by omega), if_pos h5, if_pos h5] | rw [if_neg (show ¬ j = 137 by omega), if_pos h5]
    try rfl
  first | rw [if_neg h5, if_neg h5] | rw [if_neg h5]
  by_cases h6 : j < 136
  · first | rw [if_neg (show ¬ j = 137 by omega), if_pos h6, if_pos h6] | rw [if_neg (show ¬ j = 137 by omega), if_pos h6]
    try rfl
  first | rw [if_neg h6, if_neg h6] | rw [if_neg h6]
  by_cases h7 : j = 136
  · first | rw [if_neg (show ¬ j = 137 by omega), if_pos h7, if_pos h7] | rw [if_neg (show ¬ j = 137 by omega), if_pos h7]
    try rfl
  first | rw [if_neg h7, if_neg h7] | rw [if_neg h7]
  by_cases h8 : j = 137
  · rw [if_pos h8, if_pos h8]
  first | rw [if_neg h8, if_neg h8] | rw [if_neg h8]
  rw [if_neg (show ¬ j = 137 by omega)]
theorem ref_L (n m : Nat) (S : St) (M : Mem) (g cap : Nat) (pg : Nat → Nat → ByteArray) : ∀ j, j < 139 → (if j = 71 then .slice (some ⟨g, 0, none⟩) (n * m) cap else refF n m S M j) = refF n m { S with page := pg } { M with al := some ⟨g, 0, none⟩, cl := cap } j := by
  intro j hj
  unfold refF
  by_cases h0 : j < 4
  · first | rw [if_neg (show ¬ j = 71 by omega), if_pos h0, if_pos h0] | rw [if_neg (show ¬ j = 71 by omega), if_pos h0]
    try rfl
  first | rw [if_neg h0, if_neg h0] | rw [if_neg h0]
  by_cases h1 : j = 4
  · first | rw [if_neg (show ¬ j = 71 by omega), if_pos h1, if_pos h1] | rw [if_neg (show ¬ j = 71 by omega), if_pos h1]
    try rfl
  first | rw [if_neg h1, if_neg h1] | rw [if_neg h1]
  by_cases h2 : j = 5
  · first | rw [if_neg (show ¬ j = 71 by omega), if_pos h2, if_pos h2] | rw [if_neg (show ¬ j = 71 by omega), if_pos h2]
    try rfl
  first | rw [if_neg h2, if_neg h2] | rw [if_neg h2]
  by_cases h3 : j = 6
  · first | rw [if_neg (show ¬ j = 71 by omega), if_pos h3, if_pos h3] | rw [if_neg (show ¬ j = 71 by omega), if_pos h3]
    try rfl
  first | rw [if_neg h3, if_neg h3] | rw [if_neg h3]
  by_cases h4 : j < 71
  · first | rw [if_neg (show ¬ j = 71 by omega), if_pos h4, if_pos h4] | rw [if_neg (show ¬ j = 71 by omega), if_pos h4]
    try rfl
  first | rw [if_neg h4, if_neg h4] | rw [if_neg h4]
  by_cases h5 : j = 71
  · rw [if_pos h5, if_pos h5]
  first | rw [if_neg h5, if_neg h5] | rw [if_neg h5]
  by_cases h6 : j < 136
  · first | rw [if_neg (show ¬ j = 71 by omega), if_pos h6, if_pos h6] | rw [if_neg (show ¬ j = 71 by omega), if_pos h6]
    try rfl
  first | rw [if_neg h6, if_neg h6] | rw [if_neg h6]
  by_cases h7 : j = 136
  · first | rw [if_neg (show ¬ j = 71 by omega), if_pos h7, if_pos h7] | rw [if_neg (show ¬ j = 71 by omega), if_pos h7]
    try rfl
  first | rw [if_neg h7, if_neg h7] | rw [if_neg h7]
  by_cases h8 : j = 137
  · first | rw [if_neg (show ¬ j = 71 by omega), if_pos h8, if_pos h8] | rw [if_neg (show ¬ j = 71 by omega), if_pos h8]
    try rfl
  first | rw [if_neg h8, if_neg h8] | rw [if_neg h8]
  rw [if_neg (show ¬ j = 71 by omega)]
theorem ref_P (n m : Nat) (S : St) (M : Mem) (a : Option Addr) (c : Nat) (l : List ByteArray) : ∀ j, j < 139 → (if j = 136 then .slice a l.length c else refF n m S M j) = refF n m { S with hist := l } { M with ap := a, cp := c } j := by
  intro j hj
  unfold refF
  by_cases h0 : j < 4
  · first | rw [if_neg (show ¬ j = 136 by omega), if_pos h0, if_pos h0] | rw [if_neg (show ¬ j = 136 by omega), if_pos h0]
    try rfl
  first | rw [if_neg h0, if_neg h0] | rw [if_neg h0]
  by_cases h1 : j = 4
  · first | rw [if_neg (show ¬ j = 136 by omega), if_pos h1, if_pos h1] | rw [if_neg (show ¬ j = 136 by omega), if_pos h1]
    try rfl
  first | rw [if_neg h1, if_neg h1] | rw [if_neg h1]
  by_cases h2 : j = 5
  · first | rw [if_neg (show ¬ j = 136 by omega), if_pos h2, if_pos h2] | rw [if_neg (show ¬ j = 136 by omega), if_pos h2]
    try rfl
  first | rw [if_neg h2, if_neg h2] | rw [if_neg h2]
  by_cases h3 : j = 6
  · first | rw [if_neg (show ¬ j = 136 by omega), if_pos h3, if_pos h3] | rw [if_neg (show ¬ j = 136 by omega), if_pos h3]
    try rfl
  first | rw [if_neg h3, if_neg h3] | rw [if_neg h3]
  by_cases h4 : j < 71
  · first | rw [if_neg (show ¬ j = 136 by omega), if_pos h4, if_pos h4] | rw [if_neg (show ¬ j = 136 by omega), if_pos h4]
    try rfl
  first | rw [if_neg h4, if_neg h4] | rw [if_neg h4]
  by_cases h5 : j = 71
  · first | rw [if_neg (show ¬ j = 136 by omega), if_pos h5, if_pos h5] | rw [if_neg (show ¬ j = 136 by omega), if_pos h5]
    try rfl
  first | rw [if_neg h5, if_neg h5] | rw [if_neg h5]
  by_cases h6 : j < 136
  · first | rw [if_neg (show ¬ j = 136 by omega), if_pos h6, if_pos h6] | rw [if_neg (show ¬ j = 136 by omega), if_pos h6]
    try rfl
  first | rw [if_neg h6, if_neg h6] | rw [if_neg h6]
  by_cases h7 : j = 136
  · rw [if_pos h7, if_pos h7]
  first | rw [if_neg h7, if_neg h7] | rw [if_neg h7]
  by_cases h8 : j = 137
  · first | rw [if_neg (show ¬ j = 136 by omega), if_pos h8, if_pos h8] | rw [if_neg (show ¬ j = 136 by omega), if_pos h8]
    try rfl
  first | rw [if_neg h8, if_neg h8] | rw [if_neg h8]
  rw [if_neg (show ¬ j = 136 by omega)]
theorem ref_bad (n m : Nat) (S : St) (M : Mem) (i : Nat) (hi : i < 64) : ∀ j, j < 139 → (if j = 7 + i then .bool true else refF n m S M j) = refF n m { S with bad := updB S.bad i } M j := by
  intro j hj
  unfold refF
  by_cases h0 : j < 4
  · first | rw [if_neg (show ¬ j = 7 + i by omega), if_pos h0, if_pos h0] | rw [if_neg (show ¬ j = 7 + i by omega), if_pos h0]
    try rfl
  first | rw [if_neg h0, if_neg h0] | rw [if_neg h0]
  by_cases h1 : j = 4
  · first | rw [if_neg (show ¬ j = 7 + i by omega), if_pos h1, if_pos h1] | rw [if_neg (show ¬ j = 7 + i by omega), if_pos h1]
    try rfl
  first | rw [if_neg h1, if_neg h1] | rw [if_neg h1]
  by_cases h2 : j = 5
  · first | rw [if_neg (show ¬ j = 7 + i by omega), if_pos h2, if_pos h2] | rw [if_neg (show ¬ j = 7 + i by omega), if_pos h2]
    try rfl
  first | rw [if_neg h2, if_neg h2] | rw [if_neg h2]
  by_cases h3 : j = 6
  · first | rw [if_neg (show ¬ j = 7 + i by omega), if_pos h3, if_pos h3] | rw [if_neg (show ¬ j = 7 + i by omega), if_pos h3]
    try rfl
  first | rw [if_neg h3, if_neg h3] | rw [if_neg h3]
  by_cases h4 : j < 71
  · by_cases c : j = 7 + i
    · subst c
      rw [if_pos rfl, if_pos h4]
      show _ = Value.bool (updB S.bad i (7 + i - 7))
      unfold updB
      rw [if_pos (by omega)]
    · rw [if_neg c, if_pos h4, if_pos h4]
      show _ = Value.bool (updB S.bad i (j - 7))
      unfold updB
      rw [if_neg (by omega)]
  first | rw [if_neg h4, if_neg h4] | rw [if_neg h4]
  by_cases h5 : j = 71
  · first | rw [if_neg (show ¬ j = 7 + i by omega), if_pos h5, if_pos h5] | rw [if_neg (show ¬ j = 7 + i by omega), if_pos h5]
    try rfl
  first | rw [if_neg h5, if_neg h5] | rw [if_neg h5]
  by_cases h6 : j < 136
  · first | rw [if_neg (show ¬ j = 7 + i by omega), if_pos h6, if_pos h6] | rw [if_neg (show ¬ j = 7 + i by omega), if_pos h6]
    try rfl
  first | rw [if_neg h6, if_neg h6] | rw [if_neg h6]
  by_cases h7 : j = 136
  · first | rw [if_neg (show ¬ j = 7 + i by omega), if_pos h7, if_pos h7] | rw [if_neg (show ¬ j = 7 + i by omega), if_pos h7]
    try rfl
  first | rw [if_neg h7, if_neg h7] | rw [if_neg h7]
  by_cases h8 : j = 137
  · first | rw [if_neg (show ¬ j = 7 + i by omega), if_pos h8, if_pos h8] | rw [if_neg (show ¬ j = 7 + i by omega), if_pos h8]
    try rfl
  first | rw [if_neg h8, if_neg h8] | rw [if_neg h8]
  rw [if_neg (show ¬ j = 7 + i by omega)]
end Go.Proofs.Ytogeccmeaacgnaa

