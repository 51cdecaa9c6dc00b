/-
  The steps of a walk over a region that draws its order: whole arrays loaded and stored, lists of texts made.
-/
import Derived.Test.YtedmdojmgccclaaDoorRelyCells
import Derived.Test.YtedmdojmgccclaaDoorShaOne
import Derived.Test.YtedmdojmgccclaaDoorRelyMake
namespace Go.Proofs.YtedmdojmgccclaaDoor
open Go.RowKit

section
variable {P : Program} {ops : Array Oper} {C : World → Prop} {R : List Pred}

/-- A list of texts in a block of its own. -/
def seesv (ss : List ByteArray) : Pred := fun v w => ∃ q, v = .slice (some ⟨q, 0, none⟩) ss.length ss.length ∧ RowAt w q 9 (ss.map Value.string).toArray

theorem steady_seesv (ss : List ByteArray) : ∀ v w w', Below w.heap.size w w' → seesv ss v w → seesv ss v w' := by
  rintro v w w' hb ⟨q, hv, hr⟩
  exact ⟨q, hv, hr.below hb hr.lt⟩

theorem seesv_firm {ss : List ByteArray} {v : Value} {w : World} {p : Nat} {t : TypeId} {cs ds : Array Value} (hp : RowAt w p t cs) (ht : t ≠ 9) (h : seesv ss v w) : seesv ss v (w.setRow p ds) := by
  obtain ⟨q, hv, hr⟩ := h
  refine ⟨q, hv, hr.setRowOther p ds fun e => ht ?_⟩
  subst e
  unfold RowAt at hp hr
  rw [hr] at hp
  cases hp
  rfl

theorem grows_strs {o : Oper} {a : Act} {w : World} {ss : List ByteArray} (hR : Steady R) (hCs : ∀ w w', Below w.heap.size w w' → C w → C w') (hC : C w) (hw : Region.wanted o (yielded ops a.tmps) = true)
    (hv : (execOp a.eval o).run P w = .ok (.value (.slice (some ⟨w.heap.size, 0, none⟩) ss.length ss.length)) (w.alloc (.cells (ss.map Value.string).toArray 9))) :
    growsAt P ops o a w fun v w' => C w' ∧ seesv ss v w' ∧ Keeps R w w' :=
  have b : Below w.heap.size w (w.alloc (.cells (ss.map Value.string).toArray 9)) := (Below.refl _ _).alloc (Nat.le_refl _) _
  grows_new hw hv ⟨w.heap.size, rfl, RowAt.new _ _ _⟩ (hCs _ _ b hC) fun i v h => hR i v _ _ b h

end

/-- A hash held against itself. -/
theorem run_eql_hash (f : Nat → Nat) {o : Oper} {a : Act} {x y : Operand} {t : TypeId} (ho : o.op = .binOp .eql 59 x y t) (hx : a.eval x = .agg (rowOf 32 (w8 f))) (hy : a.eval y = .agg (rowOf 32 (w8 f))) (w : World) :
    (execOp a.eval o).run Tryd.prog w = .ok (.value (.bool true)) w := by
  have e := eq_hash_same f w
  unfold execOp
  simp only [ho, hx, hy]
  simp [go_sem, e]
end Go.Proofs.YtedmdojmgccclaaDoor
