/-
  The walk of AdversaryPairs.
-/
import Derived.Test.YtjhalbifljnfjaaAdvPairsMath
import Derived.Test.YtjhalbifljnfjaaAdvStep
import Derived.Test.YtjhalbifljnfjaaRely
namespace Go.Proofs.Ytjhalbifljnfjaa
open Go.RowKit
set_option linter.unusedVariables false

set_option maxRecDepth 8000 in
theorem number_any (x : Bool) (w : World) : Calls Try.prog 21 #[.bool x] w fun e w' => e = .returned (.int .i64 ((if x = true then 1 else 0 : Nat) : Int)) ∧ w' = w := by
  cases x <;>
  · go_enter Try.func21, Try.ntmps21
    go_wp2
    go_ret
    exact ⟨rfl, rfl⟩

theorem sees_pairs (a b : Nat) (w : World) : SeesN (w.alloc (.cells #[.int .i64 0, .int .i64 (a : Int), .int .i64 0, .int .i64 0, .int .i64 (70000 + (b : Int)), .int .i64 0, .int .i64 2, .int .i64 0, .int .i64 1, .int .i64 1, .int .i64 1, .int .i64 0, .int .i64 1, .int .i64 2, .int .i64 0, .int .i64 3, .int .i64 3, .int .i64 2, .int .i64 3, .int .i64 4, .int .i64 5] 42)) (some ⟨w.heap.size, 0, none⟩) 7 (pairsK a b) :=
  sees_cells w _ _ _ _ fun m hm => by
    have hm : m = 0 ∨ m = 1 ∨ m = 2 ∨ m = 3 ∨ m = 4 ∨ m = 5 ∨ m = 6 ∨ m = 7 ∨ m = 8 ∨ m = 9 ∨ m = 10 ∨ m = 11 ∨ m = 12 ∨ m = 13 ∨ m = 14 ∨ m = 15 ∨ m = 16 ∨ m = 17 ∨ m = 18 ∨ m = 19 ∨ m = 20 := by omega
    rcases hm with rfl | rfl | rfl | rfl | rfl | rfl | rfl | rfl | rfl | rfl | rfl | rfl | rfl | rfl | rfl | rfl | rfl | rfl | rfl | rfl | rfl <;> rfl

/-- A slice of so many. -/
def lenv (n : Nat) : Pred := fun v _ => ∃ a c, v = .slice a n c
theorem steady_lenv (n : Nat) : ∀ v w w', Below w.heap.size w w' → lenv n v w → lenv n v w' := fun _ _ _ _ h => h
theorem grows_len {ops : Array Oper} {R : List Pred} {o : Oper} {a : Act} {w w0 : World} {n : Nat} {f : FuncId} {args : Array Value} (hR : Steady R) (hC : Below w0.heap.size w0 w) (hw : Region.wanted o (yielded ops a.tmps) = true) (hv : (execOp a.eval o).run Try.prog w = .ok (.enter f args) w)
    (hc : Calls Try.prog f args w fun e w' => ∃ v, e = .returned v ∧ (∃ ao co, v = .slice ao n co) ∧ Below w.heap.size w w') : growsAt Try.prog ops o a w fun v w' => Below w0.heap.size w0 w' ∧ lenv n v w' ∧ Keeps R w w' :=
  grows_call hw hv (hc.mono fun _ w' ⟨v, he, hl, hb⟩ => ⟨v, he, hC.trans (hb.mono hC.size), hl, fun i v h => hR i v w w' hb h⟩)

/-- A row of one number, just made. -/
theorem own_one (w : World) (B : Nat) (hB : B ≤ w.heap.size) (z : Int) : (w.alloc (.cells #[.int .i64 z] 3)).ownsRow B 3 1 (.slice (some ⟨w.heap.size, 0, none⟩) 1 1) [z].length (zCells [z]) :=
  ⟨rfl, .inr ⟨w.heap.size, 1, #[.int .i64 z], rfl, hB, RowAt.new w _ _, Nat.le_refl _, by decide, rfl, rfl⟩⟩

end Go.Proofs.Ytjhalbifljnfjaa
