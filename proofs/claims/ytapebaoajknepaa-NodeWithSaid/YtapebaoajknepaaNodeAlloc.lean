/-
  New nodes and children.
-/
import Derived.Test.YtapebaoajknepaaNodeEq
import Derived.Test.YtapebaoajknepaaNandState
namespace Go.Proofs.Ytapebaoajknepaa
open Go.RowKit
set_option linter.unusedVariables false

theorem run_allocNod {o : Oper} {a : Act} (ho : o.op = .alloc 29) (w : World) : (execOp a.eval o).run Try.prog w = .ok (.value (.pointer (some ⟨w.heap.size, 0, none⟩))) (w.alloc (.cells (rowOf 85 (nF noNod)) 29)) := by
  unfold execOp
  rw [ho]
  kernel_rfl
theorem run_allocChd {o : Oper} {a : Act} (ho : o.op = .alloc 26) (w : World) : (execOp a.eval o).run Try.prog w = .ok (.value (.pointer (some ⟨w.heap.size, 0, none⟩))) (w.alloc (.cells (rowOf 21 (chF noChd)) 26)) := by
  unfold execOp
  rw [ho]
  kernel_rfl

theorem run_allocNodRef {o : Oper} {a : Act} (ho : o.op = .alloc 37) (w : World) : (execOp a.eval o).run Try.prog w = .ok (.value (.pointer (some ⟨w.heap.size, 0, none⟩))) (w.alloc (.cells (rowOf 85 (nF noNod)) 37)) := by
  unfold execOp
  rw [ho]
  kernel_rfl
theorem run_allocChdRef {o : Oper} {a : Act} (ho : o.op = .alloc 34) (w : World) : (execOp a.eval o).run Try.prog w = .ok (.value (.pointer (some ⟨w.heap.size, 0, none⟩))) (w.alloc (.cells (rowOf 21 (chF noChd)) 34)) := by
  unfold execOp
  rw [ho]
  kernel_rfl

end Go.Proofs.Ytapebaoajknepaa
