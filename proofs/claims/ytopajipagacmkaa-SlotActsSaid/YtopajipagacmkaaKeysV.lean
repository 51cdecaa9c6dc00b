/-
  Rows of keys that a drawn region makes.
-/
import Derived.Test.YtopajipagacmkaaKeyRow
import Derived.Test.YtopajipagacmkaaRelyCells
namespace Go.Proofs.Ytopajipagacmkaa
open Go.RowKit

/-- Keys of the call's own. -/
def keysv (B n : Nat) (K : Nat → Nat → Nat) : Pred := fun v w => w.ownsRow B 31 16 v n (keyL n K)

theorem steady_keysv (B n : Nat) (K : Nat → Nat → Nat) : ∀ v w w', Below w.heap.size w w' → keysv B n K v w → keysv B n K v w' := fun _ _ _ hb h => own_after h hb

theorem grows_keys {ops : Array Oper} {C : World → Prop} {R : List Pred} {o : Oper} {a : Act} {w : World} {B n : Nat} {K : Nat → Nat → Nat} {f : FuncId} {args : Array Value} (hR : Steady R) (hCs : ∀ w w', Below w.heap.size w w' → C w → C w') (hC : C w) (hB : B ≤ w.heap.size)
    (hw : Region.wanted o (yielded ops a.tmps) = true) (hv : (execOp a.eval o).run Try.prog w = .ok (.enter f args) w) (hc : Calls Try.prog f args w fun e w' => ∃ v, e = .returned v ∧ Hid (w'.ownsRow w.heap.size 31 16 v n (keyL n K)) ∧ Below w.heap.size w w') :
    growsAt Try.prog ops o a w fun v w' => C w' ∧ keysv B n K v w' ∧ Keeps R w w' :=
  grows_call hw hv (hc.mono fun _ _ ⟨v, he, ho, hb⟩ => ⟨v, he, hCs _ _ hb hC, own_base ho.out hB, fun i u h => hR i u _ _ hb h⟩)

end Go.Proofs.Ytopajipagacmkaa
