/-
  Bytes 0 made, in a walk over a region that draws its order.
-/
import Derived.Test.YtcglbbkphgdnmaaDoorRelyCells
import Derived.Test.YtcglbbkphgdnmaaDoorKeys
import Derived.Laws.MakeOwn
namespace Go.Proofs.YtcglbbkphgdnmaaDoor
open Go.RowKit

theorem made_zero (m : Nat) : madeCells #[Value.int .u8 0] m = rowOf m (w8 zeroN) := by
  apply Array.ext'
  rw [toList_madeCells_one]
  unfold rowOf
  apply List.ext_getElem
  · simp
  · intro j h1 h2
    simp [w8, zeroN]

/-- m bytes 0 made. -/
theorem grows_make {ops : Array Oper} {C : World → Prop} {R : List Pred} {o : Oper} {a : Act} {w : World} {l c : Operand} {m : Nat} (hR : Steady R) (hCs : ∀ w w', Below w.heap.size w w' → C w → C w') (hC : C w) (hw : Region.wanted o (yielded ops a.tmps) = true)
    (ho : o.op = .makeSlice 42 l c) (hl : a.eval l = .int .i64 (m : Int)) (hc : a.eval c = .int .i64 (m : Int)) (hm : m ≤ 1000000) :
    growsAt Tryd.prog ops o a w fun v w' => C w' ∧ heldv 5 m (rowOf m (w8 zeroN)) v w' ∧ Keeps R w w' := by
  obtain ⟨i0, hi, hz0, hz1, hz2⟩ := info_parts Tryd.info5
  refine grows_held hR hCs hC hw ?_
  have h := run_makeSlice (P := Tryd.prog) w 42 5 i0 (.int .u8 0) Tryd.underlying42 hi hz0 .i64 .i64 (m : Int) (m : Int) (by omega) (by omega) (by rw [hz1]; simp; omega) (by rw [hz2]; omega) (by omega)
  rw [hz1] at h
  simp only [Int.toNat_natCast, Nat.mul_one, show (Value.int .u8 0).cells = #[Value.int .u8 0] from rfl, made_zero] at h
  unfold execOp
  simp only [ho, hl, hc, Sem.run_bind, Sem.run_pure, h, Result.andThen_ok]

end Go.Proofs.YtcglbbkphgdnmaaDoor
