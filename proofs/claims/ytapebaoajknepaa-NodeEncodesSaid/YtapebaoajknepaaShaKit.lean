/-
  General laws: regions that draw their order and only read, in one world; blocks laid one behind the other.
-/
import Derived.Test.YtapebaoajknepaaShaRows
import Derived.StillTailTactics
import Derived.Deep.Draws
namespace Go.Proofs.Ytapebaoajknepaa
open Go.RowKit

/-- A still walk out of a quiet one, in one world. -/
theorem wpStill_of_quiet {P : Program} {ops : Array Oper} {w : World} {Q : Act → Prop} : ∀ (l : List Oper) (a : Act), wpQuiet P ops (fun w' => w' = w) Q l a → wpStill P ops w Q l a
  | [], _, h => h
  | o :: r, a, h => by
    unfold wpQuiet at h
    unfold wpStill
    split
    · rename_i hw
      rw [if_pos hw] at h
      obtain ⟨v, hv, hn⟩ := h
      have hv := hv w rfl
      unfold Oper.quietAt at hv
      unfold Oper.still
      have hn' := wpStill_of_quiet r _ hn
      cases hx : (execOp a.eval o).run P w with
      | ok x w' =>
        rw [hx] at hv
        cases x with
        | value u => obtain ⟨h1, h2⟩ := hv; subst h2; exact ⟨h1, hn'⟩
        | skip => obtain ⟨h1, h2⟩ := hv; subst h2; exact ⟨h1, hn'⟩
        | enter f args => obtain ⟨h1, h2⟩ := hv; exact ⟨h1, v, h2, hn'⟩
        | _ => exact hv.elim
      | _ => rw [hx] at hv; exact hv.elim
    · rename_i hw
      rw [if_neg hw] at h
      exact wpStill_of_quiet r _ h

/-- A region that draws its order and only reads, walked once, in the order of the text, in one world. -/
theorem wp_region_one {P : Program} {id : Nat} {Q : Exit → Act → World → Prop} {a : Act} {w : World} {l : List Oper} (hm : P.follows .mixedOrders = true) (hB : Region.lexB .any l.toArray = true)
    (h : wpQuiet P l.toArray (fun w' => w' = w.drew) (fun a' => Q .normal a' w.drew) l a) : (Code.region id l.toArray true).wp P Q a w := by
  refine wp_region_quiet (C := fun w' => w' = w.drew) hm hB rfl ?_
  have : ∀ (l' : List Oper) (a : Act), wpQuiet P l.toArray (fun w' => w' = w.drew) (fun a' => Q .normal a' w.drew) l' a → wpQuiet P l.toArray (fun w' => w' = w.drew) (fun a' => ∀ w', w' = w.drew → Q .normal a' w') l' a := by
    intro l'
    induction l' with
    | nil => intro a h1; unfold wpQuiet at h1 ⊢; intro w' hw'; subst hw'; exact h1
    | cons o r ih =>
      intro a h1
      unfold wpQuiet at h1 ⊢
      split
      · rename_i hw
        rw [if_pos hw] at h1
        obtain ⟨v, hv, hn⟩ := h1
        exact ⟨v, hv, ih _ hn⟩
      · rename_i hw
        rw [if_neg hw] at h1
        exact ih _ h1
  exact this _ _ (by simpa using h)

/-- Blocks laid one behind the other. -/
theorem allocs_row (os : List Obj) (w : World) (i : Nat) (t : TypeId) (cs : Array Value) (h : os[i]? = some (.cells cs t (0, 0))) : RowAt (os.foldl World.alloc w) (w.heap.size + i) t cs := by
  induction os generalizing w i with
  | nil => simp at h
  | cons o r ih =>
    cases i with
    | zero =>
      simp at h
      subst h
      have : ∀ (r : List Obj) (w' : World), RowAt w' w.heap.size t cs → RowAt (r.foldl World.alloc w') w.heap.size t cs := by
        intro r
        induction r with
        | nil => intro w' h; exact h
        | cons o r ih => intro w' h; exact ih _ (h.alloc o)
      exact this r _ (RowAt.new w t cs)
    | succ i =>
      have h1 := ih (w.alloc o) i (by simpa using h)
      rw [World.size_alloc] at h1
      rw [show w.heap.size + (i + 1) = w.heap.size + 1 + i by omega]
      exact h1
theorem allocs_below (os : List Obj) (w : World) : Below w.heap.size w (os.foldl World.alloc w) := by
  have : ∀ (os : List Obj) (w' : World), Below w.heap.size w w' → Below w.heap.size w (os.foldl World.alloc w') := by
    intro os
    induction os with
    | nil => intro w' h; exact h
    | cons o r ih => intro w' h; exact ih _ (h.alloc h.size _)
  exact this os w (Below.refl _ _)
theorem allocs_size (os : List Obj) (w : World) : (os.foldl World.alloc w).heap.size = w.heap.size + os.length := by
  induction os generalizing w with
  | nil => rfl
  | cons o r ih => rw [List.foldl_cons, ih, World.size_alloc, List.length_cons]; omega

/-- A region that draws its order, whose operations only read in the worlds of a class, and whose callees end in that class: walked once, in the order of the text. -/
theorem wp_region_class {P : Program} {id : Nat} {Q : Exit → Act → World → Prop} {a : Act} {w : World} {l : List Oper} (C : World → Prop) (hm : P.follows .mixedOrders = true) (hB : Region.lexB .any l.toArray = true) (hC : C w.drew)
    (h : wpQuiet P l.toArray C (fun a' => ∀ w', C w' → Q .normal a' w') l a) : (Code.region id l.toArray true).wp P Q a w :=
  wp_region_quiet (C := C) hm hB hC (by simpa using h)

theorem wpQuiet_load_row {P : Program} {ops : Array Oper} {rest : List Oper} {o : Oper} {a : Act} {C : World → Prop} {Q : Act → Prop} (hw : Region.wanted o (yielded ops a.tmps) = true) (ty : TypeId) (x : Operand) (ho : o.op = .load ty x)
    (g : Nat) (hx : a.eval x = .pointer (some ⟨g, 0, none⟩)) (t : TypeId) (cs : Array Value) (d : TypeDesc) (hg : ∀ w, C w → RowAt w g t cs)
    (hu : P.underlying ty = some d) (hd : (match d with | .struct _ | .array _ _ => true | _ => false) = true) (hi : (P.info? ty).map (·.size) = some cs.size)
    (h : wpQuiet P ops C Q rest (a.put o.dst (.agg cs))) : wpQuiet P ops C Q (o :: rest) a := by
  refine wpQuiet_step (fun K hK => ?_)
  rw [if_pos hw]
  refine ⟨.agg cs, fun w hw => ?_, hK _ h⟩
  unfold Oper.quietAt execOp
  simp only [ho, hx, Instr.loadAt, Instr.sureAddr, Sem.run_bind, Sem.run_pure, Result.andThen_ok, run_loadVar_row w g t ty cs (0, 0) d (hg w hw) hu hd hi]
  exact ⟨rfl, rfl⟩

theorem wpQuiet_val {P : Program} {ops : Array Oper} {rest : List Oper} {o : Oper} {a : Act} {C : World → Prop} {Q : Act → Prop} (hw : Region.wanted o (yielded ops a.tmps) = true) (v : Value)
    (ho : ∀ w, C w → (execOp a.eval o).run P w = .ok (.value v) w) (h : wpQuiet P ops C Q rest (a.put o.dst v)) : wpQuiet P ops C Q (o :: rest) a := by
  refine wpQuiet_step (fun K hK => ?_)
  rw [if_pos hw]
  refine ⟨v, fun w hw => ?_, hK _ h⟩
  unfold Oper.quietAt
  rw [ho w hw]
  exact ⟨rfl, rfl⟩

end Go.Proofs.Ytapebaoajknepaa
