/-
  One byte of a text, at the operation.
-/
import Derived.Test.YtcglbbkphgdnmaaDoorBytes
import Derived.Test.YtcglbbkphgdnmaaDoorCopyText
namespace Go.Proofs.YtcglbbkphgdnmaaDoor
open Go.RowKit

theorem run_index_op {P : Program} {T : TypeId} {s : ByteArray} {z : Int} {v : Value} (h : ∀ w', (Instr.index T (.string s) (.int .i64 z)).run P w' = .ok v w') {o : Oper} {a : Act} {x y : Operand} (ho : o.op = .index T x y) (hx : a.eval x = .string s) (hy : a.eval y = .int .i64 z) (w : World) :
    (execOp a.eval o).run P w = .ok (.value v) w := by
  unfold execOp
  simp only [ho, hx, hy, Sem.run_bind, Sem.run_pure, h, Result.andThen_ok]

theorem run_index_byte (s : ByteArray) (x : Nat) (h : x < s.size) (w : World) : (Instr.index 9 (.string s) (.int .i64 (x : Int))).run Tryd.prog w = .ok (.int .u8 ((byteL s.data.toList x : Nat) : Int)) w := by
  rw [run_index_string w 9 s .i64 (x : Int) Tryd.underlying9, dif_pos ⟨by omega, by omega⟩]
  have hl : x < s.data.toList.length := by simpa using h
  have e : byteL s.data.toList x = (s.data.toList[x]'hl).toNat := by
    unfold byteL
    rw [List.getD_eq_getElem?_getD, List.getElem?_eq_getElem hl]
    rfl
  rw [e]
  show Result.ok (Value.int .u8 (((s[x]'h).toNat : Nat) : Int)) w = _
  congr 3

end Go.Proofs.YtcglbbkphgdnmaaDoor
