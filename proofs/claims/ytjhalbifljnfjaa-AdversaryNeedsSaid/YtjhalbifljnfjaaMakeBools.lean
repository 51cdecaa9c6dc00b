/-
  Bools in a row, made.
-/
import Derived.Test.YtjhalbifljnfjaaTermNodes
import Derived.Laws.MakeOwn
namespace Go.Proofs.Ytjhalbifljnfjaa
open Go.RowKit
set_option linter.unusedVariables false

/-- Marks in a row. -/
def boolV (f : Nat → Bool) : Nat → Value := fun j => .bool (f j)
theorem made_bools (m : Nat) : madeCells #[Value.bool false] m = rowOf m (boolV fun _ => false) := by
  apply Array.ext'
  rw [toList_madeCells_one]
  unfold rowOf
  apply List.ext_getElem
  · simp
  · intro j h1 h2
    simp [boolV]
theorem Try.infoBool : (Try.prog.info? 4).map (fun i => (i.zero, i.size, i.bytes)) = some (some (.bool false), 1, 1) := by kernel_rfl

/-- make([]bool, m). -/
theorem wpList_make_bools {ops : Array Oper} {rest : List Oper} {o : Oper} {a : Act} {w : World} {Q : Exit → Act → World → Prop} (hgd : o.guard = none) (l c : Operand) (ho : o.op = .makeSlice 28 l c) (m : Nat) (z : Int) (hl : a.eval l = .int .i64 z) (hc : a.eval c = .int .i64 z) (hz : z = (m : Int)) (hm : m ≤ 1000000)
    (h : wpList Try.prog ops Q rest (a.put o.dst (.slice (some ⟨w.heap.size, 0, none⟩) m m)) (w.alloc (.cells (rowOf m (boolV fun _ => false)) 4))) : wpList Try.prog ops Q (o :: rest) a w := by
  subst hz
  obtain ⟨i0, hi, hz0, hz1, hz2⟩ := info_parts Try.infoBool
  refine wpList_plain hgd fun _ hK => ?_
  have h1 := run_makeSlice (P := Try.prog) w 28 4 i0 (.bool false) Try.underlying28 hi hz0 .i64 .i64 (m : Int) (m : Int) (by omega) (by omega) (by rw [hz1]; simp; omega) (by rw [hz2]; omega) (by omega)
  rw [hz1] at h1
  simp only [Int.toNat_natCast, Nat.mul_one, show (Value.bool false).cells = #[Value.bool false] from rfl, made_bools] at h1
  unfold Oper.wp execOp
  simp only [ho, hl, hc, Sem.run_bind, Sem.run_pure, h1, Result.andThen_ok]
  exact hK _ _ h

end Go.Proofs.Ytjhalbifljnfjaa
