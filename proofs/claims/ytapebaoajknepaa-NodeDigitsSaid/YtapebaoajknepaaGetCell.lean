/-
  One cell of a block, loaded.
-/
import Derived.Test.YtapebaoajknepaaShaRows
namespace Go.Proofs.Ytapebaoajknepaa
open Go.RowKit

/-- One cell of a block. -/
theorem RowAt.one {w : World} {p : Nat} {t : TypeId} {cs : Array Value} (h : RowAt w p t cs) (j : Nat) {v : Value} (hv : cs[j]? = some v) : w.cell? ⟨p, j, none⟩ = some v := by
  rw [cell_of_row w p j cs t (0, 0) h, hv]

/-- One cell of a block, loaded. -/
theorem get_cell {P : Program} {w : World} {g j : Nat} {t T : TypeId} {cs : Array Value} {v : Value} {d : TypeDesc} (hr : RowAt w g t cs) (hc : cs[j]? = some v) (hd : (match d with | .struct _ | .array _ _ => false | _ => true) = true) (hu : P.underlying T = some d)
    {o : Oper} {a : Act} {x : Operand} (ho : o.op = .load T x) (hx : a.eval x = .pointer (some ⟨g, j, none⟩)) : (execOp a.eval o).run P w = .ok (.value v) w := by
  have hcell : w.cell? ⟨g, j, none⟩ = some v := by rw [cell_of_row w g j cs t (0, 0) hr, hc]
  have hagg : (isAgg T).run P w = .ok false w := by
    unfold isAgg
    rw [Sem.run_bind, run_underlying hu w]
    cases d <;> simp_all
  unfold execOp
  simp [ho, hx, Instr.loadAt, Instr.sureAddr, loadVar, Sem.run_bind, hagg, hcell]

end Go.Proofs.Ytapebaoajknepaa
