/-
  AdversaryNeeds: what is told of the values in the region that appends and asks.
-/
import Derived.Test.YtjhalbifljnfjaaAdvNeedsMath
namespace Go.Proofs.Ytjhalbifljnfjaa
open Go.RowKit Go.Maps
set_option linter.unusedVariables false

def emptyz (B : Nat) : Pred := fun v w => ∃ q, v = .slice (some ⟨q, 0, none⟩) 0 0 ∧ B ≤ q ∧ RowAt w q 3 #[]
def onez (z : Int) : Pred := fun v w => ∃ q, v = .slice (some ⟨q, 0, none⟩) 1 1 ∧ RowAt w q 3 #[.int .i64 z]
def ownz (B k : Nat) (f : Nat → Int) : Pred := fun v w => w.ownsRow B 3 1 v k (cellL k (intV f))

/-- What is kept by all that goes on above, and by a number appended to its row. -/
def KeptZ (B k : Nat) (f : Nat → Int) (z : Int) (R : List Pred) : Prop := ∀ i v w w', KeepZ B k f z w w' → predAt R i v w → predAt R i v w'
section
variable {B k : Nat} {f : Nat → Int} {z : Int}
theorem KeptZ.nil : KeptZ B k f z [] := fun i v w w' _ h => by cases i <;> exact h
theorem KeptZ.cons {r : Pred} {R : List Pred} (h : ∀ v w w', KeepZ B k f z w w' → r v w → r v w') (hR : KeptZ B k f z R) : KeptZ B k f z (r :: R) := fun i v w w' hb hr => by
  cases i with
  | zero => exact h v w w' hb hr
  | succ i => exact hR i v w w' hb hr
theorem kept_eqv (V : Value) : ∀ v w w', KeepZ B k f z w w' → eqv V v w → eqv V v w' := fun _ _ _ _ h => h
theorem kept_emptyz : ∀ v w w', KeepZ B k f z w w' → emptyz B v w → emptyz B v w' := fun v w w' h ⟨q, h1, h2, h3⟩ => ⟨q, h1, h2, h.1 q h3⟩
theorem kept_onez : ∀ v w w', KeepZ B k f z w w' → onez z v w → onez z v w' := fun v w w' h ⟨q, h1, h2⟩ => ⟨q, h1, h.2.1 q h2⟩
theorem kept_ownz : ∀ v w w', KeepZ B k f z w w' → ownz B k f v w → ownz B k f v w' := fun v w w' h h1 => h.2.2.1 v h1
theorem kept_ownz1 : ∀ v w w', KeepZ B k f z w w' → ownz B (k + 1) (snocF f k z) v w → ownz B (k + 1) (snocF f k z) v w' := fun v w w' h h1 => h.2.2.2 v h1
theorem KeptZ.steady {R : List Pred} (h : KeptZ B k f z R) : Steady R := fun i v w w' hb hr => h i v w w' (KeepZ.of hb) hr

theorem wp_region_keptZ {P : Program} {a0 : Act} {id : Nat} {Q : Exit → Act → World → Prop} {w : World} {l : List Oper} (C : World → Prop) (rs : List Pred) (hm : P.follows .mixedOrders = true) (hB : relyB l.toArray = true) (hC : C w.drew) (hst : KeptZ B k f z rs)
    (h : ∀ R, KeptZ B k f z R → wpRely P l.toArray C R (fun a w => Q .normal a w) l rs [] a0) : (Code.region id l.toArray true).wp P Q a0 w :=
  wp_region_rely C rs hm hB hC (h rs hst)

variable {ops : Array Oper} {R : List Pred} {o : Oper} {a : Act} {w w0 : World}
theorem grows_emptyz (hR : KeptZ B k f z R) (hC : Below w0.heap.size w0 w) (hBB : B = w0.heap.size) (hw : Region.wanted o (yielded ops a.tmps) = true)
    (hv : (execOp a.eval o).run Try.prog w = .ok (.value (.slice (some ⟨w.heap.size, 0, none⟩) 0 0)) (w.alloc (.cells #[] 3))) : growsAt Try.prog ops o a w fun v w' => Below w0.heap.size w0 w' ∧ emptyz B v w' ∧ Keeps R w w' :=
  have b : Below w.heap.size w (w.alloc (.cells #[] 3)) := (Below.refl _ _).alloc (Nat.le_refl _) _
  grows_new hw hv ⟨w.heap.size, rfl, by rw [hBB]; exact hC.size, RowAt.new _ _ _⟩ (hC.trans (b.mono hC.size)) fun i v h => hR.steady i v _ _ b h
theorem grows_onez (hR : KeptZ B k f z R) (hC : Below w0.heap.size w0 w) (hw : Region.wanted o (yielded ops a.tmps) = true)
    (hv : (execOp a.eval o).run Try.prog w = .ok (.value (.slice (some ⟨w.heap.size, 0, none⟩) 1 1)) (w.alloc (.cells #[.int .i64 z] 3))) : growsAt Try.prog ops o a w fun v w' => Below w0.heap.size w0 w' ∧ onez z v w' ∧ Keeps R w w' :=
  have b : Below w.heap.size w (w.alloc (.cells #[.int .i64 z] 3)) := (Below.refl _ _).alloc (Nat.le_refl _) _
  grows_new hw hv ⟨w.heap.size, rfl, RowAt.new _ _ _⟩ (hC.trans (b.mono hC.size)) fun i v h => hR.steady i v _ _ b h
theorem grows_app1 (hR : KeptZ B k f z R) (hC : Below w0.heap.size w0 w) (hBB : B = w0.heap.size) (hw : Region.wanted o (yielded ops a.tmps) = true) {s x : Operand} (ho : o.op = .call { callee := .builtin .append, args := #[s, x], argTypes := #[23, 23] })
    {v : Value} (hs : a.eval s = v) (hv : emptyz B v w) {ak : Option Addr} {ck : Nat} (hx : a.eval x = .slice ak k ck) (hf : SeesZ w0 ak k f) (hnil : ak = none → ck = 0) (hk : k ≤ 1000000) :
    growsAt Try.prog ops o a w fun v w' => Below w0.heap.size w0 w' ∧ ownz B k f v w' ∧ Keeps R w w' := by
  obtain ⟨q, rfl, hBq, hq⟩ := hv
  obtain ⟨v', w', hr, h1, h2⟩ := append_first w B q o.type hq hBq (by rw [hBB]; exact hC.size) ak k ck f (SeesV.after hf hC) hnil hk
  refine grows_new (v := v') (w' := w') hw ?_ h1 (hC.trans (h2.mono hC.size)) fun i u h => hR.steady i u _ _ h2 h
  unfold execOp
  simp only [ho, resolve, invoke, builtin, Sem.run_bind, Sem.run_pure, Result.andThen_ok, List.map_toArray, List.map_cons, List.map_nil, hs, hx, hr]
theorem grows_app2 (hR : KeptZ B k f z R) (hC : Below w0.heap.size w0 w) (hBB : B = w0.heap.size) (hw : Region.wanted o (yielded ops a.tmps) = true) {s x : Operand} (ho : o.op = .call { callee := .builtin .append, args := #[s, x], argTypes := #[23, 23] })
    {v u : Value} (hs : a.eval s = v) (hv : ownz B k f v w) (hx : a.eval x = u) (hu : onez z u w) (hk : k ≤ 1000000) :
    growsAt Try.prog ops o a w fun v w' => Below w0.heap.size w0 w' ∧ ownz B (k + 1) (snocF f k z) v w' ∧ Keeps R w w' := by
  obtain ⟨q, rfl, hq⟩ := hu
  obtain ⟨v', w', hr, h1, h2, h3⟩ := append_keeps w B k q v f z o.type hv hq hk (by rw [hBB]; exact hC.size)
  refine grows_new (v := v') (w' := w') hw ?_ h1 ?_ fun i u h => hR i u _ _ h3 h
  · unfold execOp
    simp only [ho, resolve, invoke, builtin, Sem.run_bind, Sem.run_pure, Result.andThen_ok, List.map_toArray, List.map_cons, List.map_nil, hs, hx, hr]
  · exact hC.grown h2 hC.size (fun g hg => by rw [← hBB]; exact (World.ownsRow.lt hv g hg).1)
end
theorem get_at9 {w : World} {ad : Addr} {z : Int} (hc : w.cell? ad = some (.int .i64 z)) {o : Oper} {a : Act} {x : Operand} (ho : o.op = .load 3 x) (hx : a.eval x = .pointer (some ad)) :
    (execOp a.eval o).run Try.prog w = .ok (.value (.int .i64 z)) w := by
  unfold execOp
  simp only [ho, hx, Instr.loadAt, Instr.sureAddr, Sem.run_bind, Sem.run_pure, Result.andThen_ok, run_loadVar_one w _ _ hc Try.underlying3 rfl]

end Go.Proofs.Ytjhalbifljnfjaa
