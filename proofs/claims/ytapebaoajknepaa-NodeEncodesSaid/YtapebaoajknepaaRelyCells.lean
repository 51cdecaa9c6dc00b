/-
  The steps of a walk over a region that draws its order: whole arrays loaded and stored.
-/
import Derived.Test.YtapebaoajknepaaRely
import Derived.Test.YtapebaoajknepaaRows1
namespace Go.Proofs.Ytapebaoajknepaa
open Go.RowKit

section
variable {P : Program} {ops : Array Oper} {C : World → Prop} {R : List Pred}

/-- A row that lies in its block. -/
def rowv (p : Nat) (t : TypeId) (cs : Array Value) : Pred := fun _ w => RowAt w p t cs

theorem steady_rowv (p : Nat) (t : TypeId) (cs : Array Value) : ∀ v w w', Below w.heap.size w w' → rowv p t cs v w → rowv p t cs v w' := fun _ _ _ hb hr => RowAt.below hr hb (RowAt.lt hr)

/-- The list of what is told, behind a letter, where the row of block p is stored into. -/
theorem wp_region_firm {id : Nat} {Q : Exit → Act → World → Prop} {w : World} {a0 : Act} {l : List Oper} (C : World → Prop) (rs : List Pred) (hm : P.follows .mixedOrders = true) (hB : relyB l.toArray = true) (hC : C w.drew) (hst : Steady rs)
    (p : Nat) (cs : Array Value) (hK : ∀ w, C w → Keeps rs w (w.setRow p cs))
    (h : ∀ R, Steady R → (∀ w, C w → Keeps R w (w.setRow p cs)) → wpRely P l.toArray C R (fun a w => Q .normal a w) l rs [] a0) : (Code.region id l.toArray true).wp P Q a0 w :=
  wp_region_rely C rs hm hB hC (h rs hst hK)

theorem Keeps.nil (w w' : World) : Keeps [] w w' := fun i v h => by cases i <;> exact h
theorem Keeps.cons {r : Pred} {R : List Pred} {w w' : World} (h : ∀ v, r v w → r v w') (hR : Keeps R w w') : Keeps (r :: R) w w' := fun i v hr => by
  cases i with
  | zero => exact h v hr
  | succ i => exact hR i v hr

/-- A row in a block of its own, as a slice. -/
def heldv (t : TypeId) (n : Nat) (cs : Array Value) : Pred := fun v w => ∃ q, v = .slice (some ⟨q, 0, none⟩) n n ∧ RowAt w q t cs

theorem steady_heldv (t : TypeId) (n : Nat) (cs : Array Value) : ∀ v w w', Below w.heap.size w w' → heldv t n cs v w → heldv t n cs v w' := by
  rintro v w w' hb ⟨q, hv, hr⟩
  exact ⟨q, hv, hr.below hb hr.lt⟩

theorem heldv_firm {t' : TypeId} {n : Nat} {cs' : Array Value} {v : Value} {w : World} {p : Nat} {t : TypeId} {cs ds : Array Value} (hp : RowAt w p t cs) (ht : t ≠ t') (h : heldv t' n cs' v w) : heldv t' n cs' v (w.setRow p ds) := by
  obtain ⟨q, hv, hr⟩ := h
  refine ⟨q, hv, hr.setRowOther p ds fun e => ht ?_⟩
  subst e
  unfold RowAt at hp hr
  rw [hr] at hp
  cases hp
  rfl

theorem grows_held {o : Oper} {a : Act} {w : World} {t : TypeId} {n : Nat} {cs : Array Value} (hR : Steady R) (hCs : ∀ w w', Below w.heap.size w w' → C w → C w') (hC : C w) (hw : Region.wanted o (yielded ops a.tmps) = true)
    (hv : (execOp a.eval o).run P w = .ok (.value (.slice (some ⟨w.heap.size, 0, none⟩) n n)) (w.alloc (.cells cs t))) :
    growsAt P ops o a w fun v w' => C w' ∧ heldv t n cs v w' ∧ Keeps R w w' :=
  have b : Below w.heap.size w (w.alloc (.cells cs t)) := (Below.refl _ _).alloc (Nat.le_refl _) _
  grows_new hw hv ⟨w.heap.size, rfl, RowAt.new _ _ _⟩ (hCs _ _ b hC) fun i v h => hR i v _ _ b h

theorem grows_load {o : Oper} {a : Act} {w : World} {ty : TypeId} {x : Operand} {g : Nat} {t : TypeId} {cs : Array Value} {d : TypeDesc} (hw : Region.wanted o (yielded ops a.tmps) = true) (hC : C w) (ho : o.op = .load ty x) (hx : a.eval x = .pointer (some ⟨g, 0, none⟩))
    (hg : RowAt w g t cs) (hu : P.underlying ty = some d) (hd : (match d with | .struct _ | .array _ _ => true | _ => false) = true) (hi : (P.info? ty).map (·.size) = some cs.size) :
    growsAt P ops o a w fun v w' => C w' ∧ eqv (.agg cs) v w' ∧ Keeps R w w' := by
  refine grows_eqv hw hC ?_
  unfold execOp
  simp only [ho, hx, Instr.loadAt, Instr.sureAddr, Sem.run_bind, Sem.run_pure, Result.andThen_ok, run_loadVar_row w g t ty cs (0, 0) d hg hu hd hi]

theorem grows_load_at {o : Oper} {a : Act} {w : World} {ty : TypeId} {x : Operand} {g s : Nat} {t : TypeId} {cs : Array Value} {d : TypeDesc} {n : Nat} {f : Nat → Value} (hw : Region.wanted o (yielded ops a.tmps) = true) (hC : C w) (ho : o.op = .load ty x) (hx : a.eval x = .pointer (some ⟨g, s, none⟩))
    (hg : RowAt w g t cs) (hc : ∀ j, j < n → cs[s + j]? = some (f j)) (hu : P.underlying ty = some d) (hd : (match d with | .struct _ | .array _ _ => true | _ => false) = true) (hi : (P.info? ty).map (·.size) = some n) :
    growsAt P ops o a w fun v w' => C w' ∧ eqv (.agg (rowOf n f)) v w' ∧ Keeps R w w' := by
  refine grows_eqv hw hC ?_
  unfold execOp
  simp only [ho, hx, Instr.loadAt, Instr.sureAddr, Sem.run_bind, Sem.run_pure, Result.andThen_ok, run_loadVar_at w g s t ty cs d n f hg hc hu hd hi]

theorem grows_store {o : Oper} {a : Act} {w : World} {ty : TypeId} {x y : Operand} {g : Nat} {t : TypeId} {cs old : Array Value} (hw : Region.wanted o (yielded ops a.tmps) = true) (ho : o.op = .store ty x y) (hx : a.eval x = .pointer (some ⟨g, 0, none⟩)) (hy : a.eval y = .agg cs)
    (hg : RowAt w g t old) (hi : (P.info? ty).map (·.size) = some cs.size) (hold : old.size = cs.size) (h1 : cs.all (·.oneCell') = true) (hC : C (w.setRow g cs)) (hk : Keeps R w (w.setRow g cs)) :
    growsAt P ops o a w fun v w' => C w' ∧ rowv g t cs v w' ∧ Keeps R w w' := by
  refine grows_skip hw ?_ (hg.setRow cs) hC hk
  unfold execOp
  simp only [ho, hx, hy, Instr.storeAt, Instr.sureAddr, Sem.run_bind, Sem.run_pure, Result.andThen_ok, run_storeVar_row w g t ty old cs hg hi hold h1]

end

/-- An operation of a plain region whose value is known. -/
theorem wpList_known {P : Program} {ops : Array Oper} {rest : List Oper} {o : Oper} {a : Act} {w : World} {Q : Exit → Act → World → Prop} {v : Value} (hgd : o.guard = none) (hr : (execOp a.eval o).run P w = .ok (.value v) w)
    (h : wpList P ops Q rest (a.put o.dst v) w) : wpList P ops Q (o :: rest) a w :=
  wpList_plain hgd fun _ hK => by
    unfold Oper.wp
    simp only [hr, Oper.upon]
    exact hK _ _ h

end Go.Proofs.Ytapebaoajknepaa
