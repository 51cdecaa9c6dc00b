/-
  A plain region step by step: where the walk stops; a call whose world may turn.
-/
import Derived.Test.YtapebaoajknepaaWant
namespace Go.Proofs.Ytapebaoajknepaa
open Go.RowKit

theorem wp_stop {P : Program} {id : Nat} {ops : Array Oper} {d : Bool} {Q : Exit → Act → World → Prop} {a : Act} {w : World} (h : Hid ((Code.region id ops d).wp P Q a w)) : (Code.region id ops d).wp P Q a w := h

section
variable {P : Program} {ops : Array Oper} {rest : List Oper} {o : Oper} {a : Act} {w : World} {Q : Exit → Act → World → Prop}
theorem wpList_calls {f : Nat} {args : Array Value} {R : Value → World → Prop} (hw : Region.wanted o (yielded ops a.tmps) = true) (hc : Calls P f args w fun e w' => ∃ v, e = .returned v ∧ R v w') (hr : (execOp a.eval o).run P w = .ok (.enter f args) w)
    (h : ∀ v w', R v w' → wpList P ops Q rest (a.put o.dst v) w') : wpList P ops Q (o :: rest) a w :=
  wpList_want hw fun _ hK => by
    unfold Oper.wp
    simp only [hr, Oper.upon]
    exact hc.mono fun e w' ⟨v, he, hR⟩ => by subst he; exact hK _ _ (h v w' hR)
end

end Go.Proofs.Ytapebaoajknepaa
