/-
  A region that draws its order, where all that is told of the values is what they are: calls may turn what the class lets turn.
-/
import Derived.Test.YtcglbbkphgdnmaaDoorRelyCells
namespace Go.Proofs.YtcglbbkphgdnmaaDoor
open Go.RowKit

/-- Told of the values alone. -/
def Flat (R : List Pred) : Prop := ∀ i v w w', predAt R i v w → predAt R i v w'

theorem Flat.nil : Flat [] := fun i v w w' h => by cases i <;> exact h
theorem Flat.cons {V : Value} {R : List Pred} (hR : Flat R) : Flat (eqv V :: R) := fun i v w w' hr => by
  cases i with
  | zero => exact hr
  | succ i => exact hR i v w w' hr

section
variable {P : Program} {ops : Array Oper} {C : World → Prop} {R : List Pred} {a0 : Act}

theorem wp_region_flat {id : Nat} {Q : Exit → Act → World → Prop} {w : World} {l : List Oper} (C : World → Prop) (rs : List Pred) (hm : P.follows .mixedOrders = true) (hB : relyB l.toArray = true) (hC : C w.drew) (hst : Flat rs)
    (h : ∀ R, Flat R → wpRely P l.toArray C R (fun a w => Q .normal a w) l rs [] a0) : (Code.region id l.toArray true).wp P Q a0 w :=
  wp_region_rely C rs hm hB hC (h rs hst)

/-- A new variable, above B. -/
def freshv (B : Nat) (t : TypeId) (cs : Array Value) : Pred := fun v w => ∃ q, v = .pointer (some ⟨q, 0, none⟩) ∧ B ≤ q ∧ RowAt w q t cs

theorem steady_freshv (B : Nat) (t : TypeId) (cs : Array Value) : ∀ v w w', Below w.heap.size w w' → freshv B t cs v w → freshv B t cs v w' := by
  rintro v w w' hb ⟨q, hv, hq, hr⟩
  exact ⟨q, hv, hq, hr.below hb hr.lt⟩

theorem grows_fresh {o : Oper} {a : Act} {w : World} {B : Nat} {t : TypeId} {cs : Array Value} (hR : Steady R) (hCs : ∀ w w', Below w.heap.size w w' → C w → C w') (hC : C w) (hw : Region.wanted o (yielded ops a.tmps) = true)
    (hv : (execOp a.eval o).run P w = .ok (.value (.pointer (some ⟨w.heap.size, 0, none⟩))) (w.alloc (.cells cs t))) (hB : B ≤ w.heap.size) :
    growsAt P ops o a w fun v w' => C w' ∧ freshv B t cs v w' ∧ Keeps R w w' :=
  have b : Below w.heap.size w (w.alloc (.cells cs t)) := (Below.refl _ _).alloc (Nat.le_refl _) _
  grows_new hw hv ⟨w.heap.size, rfl, hB, RowAt.new _ _ _⟩ (hCs _ _ b hC) fun i v h => hR i v _ _ b h

/-- A call that hands back this value and stays in the class. -/
theorem grows_flat {o : Oper} {a : Act} {w : World} {V : Value} {f : FuncId} {args : Array Value} (hR : Flat R) (hw : Region.wanted o (yielded ops a.tmps) = true) (hv : (execOp a.eval o).run P w = .ok (.enter f args) w)
    (hc : Calls P f args w fun e w' => e = .returned V ∧ C w') : growsAt P ops o a w fun v w' => C w' ∧ eqv V v w' ∧ Keeps R w w' :=
  grows_call hw hv (hc.mono fun _ w' ⟨he, hC⟩ => ⟨V, he, hC, rfl, fun i v h => hR i v w w' h⟩)
end

end Go.Proofs.YtcglbbkphgdnmaaDoor
