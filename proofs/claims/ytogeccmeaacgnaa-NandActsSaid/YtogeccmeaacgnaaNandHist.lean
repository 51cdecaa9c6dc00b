/-
  A text appended to the history in a region that draws its order: what is told of the values, what is kept.
-/
import Derived.Test.YtogeccmeaacgnaaNandDo
import Derived.Test.YtogeccmeaacgnaaRelyOver
namespace Go.Proofs.Ytogeccmeaacgnaa
open Go.RowKit
set_option linter.unusedVariables false

theorem own_slice {w : World} {B : Nat} {t : TypeId} {k n : Nat} {v : Value} {xs : List Value} (h : w.ownsRow B t k v n xs) : ∃ a c, v = .slice a n c := by
  rcases h.2 with ⟨rfl, rfl⟩ | ⟨g, cap, cur, rfl, _⟩
  · exact ⟨_, _, rfl⟩
  · exact ⟨_, _, rfl⟩
def onet (w0 : World) (s : ByteArray) : Pred := fun v w => ∃ q, v = .slice (some ⟨q, 0, none⟩) 1 1 ∧ w0.heap.size ≤ q ∧ RowAt w q 9 #[.string s]
def ownt (w0 : World) (B m : Nat) (l : List ByteArray) (s : ByteArray) (hv : Value) : Pred := fun v w => w.ownsRow B 9 1 v (m + 1) ((l ++ [s]).map .string) ∧ (v.ownBlock = hv.ownBlock ∨ ∀ k, v.ownBlock = some k → w0.heap.size ≤ k)
/-- From one world to the next: the history's row may have grown, a row with the text stays. -/
structure KeepT (B m : Nat) (l : List ByteArray) (s : ByteArray) (hv : Value) (w w' : World) : Prop where
  grown : w.grownBy w' hv.ownBlock
  more : ∀ u, w.ownsRow B 9 1 u (m + 1) ((l ++ [s]).map .string) → w'.ownsRow B 9 1 u (m + 1) ((l ++ [s]).map .string)
theorem KeepT.alloc (B m : Nat) (l : List ByteArray) (s : ByteArray) (hv : Value) (w : World) (o : Obj) : KeepT B m l s hv w (w.alloc o) := ⟨World.grownBy_alloc w o _, fun u h => h.alloc o⟩
/-- The worlds reached: the history is as it was, or has grown behind its end. -/
structure HC (B m : Nat) (l : List ByteArray) (hv : Value) (w0 w : World) : Prop where
  grown : w0.grownBy w hv.ownBlock
  own : w.ownsRow B 9 1 hv m (l.map .string)
  base : B ≤ w0.heap.size
  first : w0.ownsRow B 9 1 hv m (l.map .string)
theorem HC.alloc {B m : Nat} {l : List ByteArray} {hv : Value} {w0 w : World} (h : HC B m l hv w0 w) (o : Obj) : HC B m l hv w0 (w.alloc o) := ⟨h.grown.trans (World.grownBy_alloc w o _), h.own.alloc o, h.base, h.first⟩
def KeptT (B m : Nat) (l : List ByteArray) (s : ByteArray) (hv : Value) (w0 : World) (R : List Pred) : Prop := ∀ i v w w', HC B m l hv w0 w → KeepT B m l s hv w w' → predAt R i v w → predAt R i v w'

section
variable {B m : Nat} {l : List ByteArray} {s : ByteArray} {hv : Value} {w0 : World}
theorem KeptT.nil : KeptT B m l s hv w0 [] := fun i v w w' _ _ h => by cases i <;> exact h
theorem KeptT.cons {r : Pred} {R : List Pred} (h : ∀ v w w', HC B m l hv w0 w → KeepT B m l s hv w w' → r v w → r v w') (hR : KeptT B m l s hv w0 R) : KeptT B m l s hv w0 (r :: R) := fun i v w w' hc hb hr => by
  cases i with
  | zero => exact h v w w' hc hb hr
  | succ i => exact hR i v w w' hc hb hr
theorem keptt_eqv (V : Value) : ∀ v w w', HC B m l hv w0 w → KeepT B m l s hv w w' → eqv V v w → eqv V v w' := fun _ _ _ _ _ h => h
theorem keptt_onet : ∀ v w w', HC B m l hv w0 w → KeepT B m l s hv w w' → onet w0 s v w → onet w0 s v w' := fun v w w' hc hk ⟨q, h1, h2, h3⟩ => ⟨q, h1, h2, (hk.grown.block q h3.lt (fun e => by have := (hc.first.lt q e.symm).2; omega)).trans h3⟩
theorem keptt_ownt : ∀ v w w', HC B m l hv w0 w → KeepT B m l s hv w w' → ownt w0 B m l s hv v w → ownt w0 B m l s hv v w' := fun v w w' _ hk ⟨h1, h2⟩ => ⟨hk.more v h1, h2⟩

variable {ops : Array Oper} {R : List Pred} {o : Oper} {a : Act} {w : World}
theorem grows_onet (hR : KeptT B m l s hv w0 R) (hC : HC B m l hv w0 w) (hw : Region.wanted o (yielded ops a.tmps) = true) (hv' : (execOp a.eval o).run Try.prog w = .ok (.value (.slice (some ⟨w.heap.size, 0, none⟩) 1 1)) (w.alloc (.cells #[.string s] 9))) :
    growsAt Try.prog ops o a w fun u w' => HC B m l hv w0 w' ∧ onet w0 s u w' ∧ Keeps R w w' :=
  grows_new hw hv' ⟨w.heap.size, rfl, hC.grown.size, RowAt.new _ _ _⟩ (hC.alloc _) fun i u h => hR i u _ _ hC (.alloc B m l s hv w _) h
theorem grows_appt (hR : KeptT B m l s hv w0 R) (hC : HC B m l hv w0 w) (hw : Region.wanted o (yielded ops a.tmps) = true) {x y : Operand} (ho : o.op = .call { callee := .builtin .append, args := #[x, y], argTypes := #[34, 34] })
    (hx : a.eval x = hv) {q : Nat} (hy : a.eval y = .slice (some ⟨q, 0, none⟩) 1 1) (hq : RowAt w q 9 #[.string s]) (hm : m ≤ 1000000) :
    growsAt Try.prog ops o a w fun u w' => HC B m l hv w0 w' ∧ ownt w0 B m l s hv u w' ∧ Keeps R w w' := by
  obtain ⟨v', w', hr, h2, h3, h4, h5, h6⟩ := app_keep w B m q hv l s o.type hC.own hq hm (Nat.le_trans hC.base hC.grown.size)
  refine grows_new (w' := w') (v := v') hw ?_ ⟨h2, ?_⟩ ⟨hC.grown.trans h4, h3, hC.base, hC.first⟩ fun i u h => hR i u _ _ hC ⟨h4, h6⟩ h
  · unfold execOp
    simp only [ho, resolve, invoke, builtin, Sem.run_bind, Sem.run_pure, Result.andThen_ok, List.map_toArray, List.map_cons, List.map_nil, hx, hy, hr]
  · rcases h5 with h5 | h5
    · exact .inl h5
    · refine .inr fun k hk => ?_
      rw [h5] at hk
      cases hk
      exact hC.grown.size
end

end Go.Proofs.Ytogeccmeaacgnaa
