/-
  What several layers share over rows: new rows, arrays of integers held against each other; parts of a greater row, loaded and stored whole.
-/
import Derived.Test.YtapebaoajknepaaShaRows
import Derived.Laws.Tables
import Derived.Laws.CopyRow
import Derived.ChangeKeysEq
namespace Go.Proofs.Ytapebaoajknepaa
open Go.RowKit

def zeroN : Nat → Nat := fun _ => 0

theorem row_new1 (w : World) (o1 o2 : Obj) (t : TypeId) (cs : Array Value) : RowAt (((w.alloc o1).alloc (.cells cs t (0, 0))).alloc o2) (w.heap.size + 1) t cs := by
  have h := (RowAt.new (w.alloc o1) t cs).alloc o2
  rw [World.size_alloc] at h
  exact h
theorem row_new2 (w : World) (o1 o2 : Obj) (t : TypeId) (cs : Array Value) : RowAt (((w.alloc o1).alloc o2).alloc (.cells cs t (0, 0))) (w.heap.size + 1 + 1) t cs := by
  have h := RowAt.new ((w.alloc o1).alloc o2) t cs
  rw [World.size_alloc, World.size_alloc] at h
  exact h

theorem w8_one (l : List Nat) (g : Nat → Nat) : ∀ v ∈ l.map (w8 g), v.oneCell' = true := by
  intro v hv
  simp only [List.mem_map] at hv
  obtain ⟨b, _, rfl⟩ := hv
  rfl

theorem eqItems_two {P : Program} (w : World) (d : Nat) {e : TypeId} {k : IntKind} (he : P.underlying e = some (.int k)) (hp : P.plainKey e = true) (c : Nat) (xs ys : Array Value) (f g : Nat → Int) :
    ∀ is : List Nat, (∀ i ∈ is, xs[i * c]? = some (.int k (f i)) ∧ ys[i * c]? = some (.int k (g i))) → (Op.eqItems (d + 1) e c xs ys is).run P w = .ok (is.all fun i => f i == g i) w
  | [], _ => rfl
  | i :: is, h => by
    obtain ⟨hx, hy⟩ := h i (List.mem_cons_self ..)
    have ih := eqItems_two w d he hp c xs ys f g is (fun j hj => h j (List.mem_cons_of_mem _ hj))
    simp only [Op.eqItems, Sem.run_bind, run_part_plain w hp hx, run_part_plain w hp hy, Result.andThen_ok, run_equalIn_int w d e k k (f i) (g i) he, List.all_cons]
    cases hfg : f i == g i
    · simp
    · simp [ih]

/-! Parts of a row. -/
section
variable {P : Program}

theorem addr_add (g o j : Nat) : (⟨g, o, none⟩ : Addr).add j = ⟨g, o + j, none⟩ := by unfold Addr.add; split <;> simp_all

theorem run_loadVar_at (w : World) (g o : Nat) (t ty : TypeId) (cs : Array Value) (d : TypeDesc) (n : Nat) (f : Nat → Value) (hg : RowAt w g t cs) (hc : ∀ j, j < n → cs[o + j]? = some (f j))
    (hu : P.underlying ty = some d) (hd : (match d with | .struct _ | .array _ _ => true | _ => false) = true) (hi : (P.info? ty).map (·.size) = some n) :
    (loadVar ty ⟨g, o, none⟩).run P w = .ok (.agg (rowOf n f)) w := by
  have hl : (loadCells ⟨g, o, none⟩ (rowOf n f).toList.length).run P w = .ok (rowOf n f).toList.toArray w :=
    run_loadCells_list (P := P) w ⟨g, o, none⟩ (rowOf n f).toList (fun j v hv => by
      have hj : j < n := by
        have := (List.getElem?_eq_some_iff.1 hv).1
        simpa [rowOf] using this
      rw [addr_add, cell_of_row w g (o + j) cs t (0, 0) hg, hc j hj]
      have h2 := rowOf_get n f j hj
      rw [← Array.getElem?_toList] at h2
      exact h2.symm.trans hv)
  cases hq : P.info? ty with
  | none => simp [hq] at hi
  | some i =>
    have hs : i.size = n := by simpa [hq] using hi
    have hagg : (isAgg ty).run P w = .ok true w := by
      unfold isAgg
      rw [Sem.run_bind, run_underlying hu w]
      cases d <;> simp_all
    simp only [Array.length_toList, Array.toArray_toList, rowOf_size] at hl
    simp [loadVar, Sem.run_bind, hagg, sizeOf, typeInfo, hq, hs, hl]

/-- x[i] of an array that is a value. -/
theorem run_index_row (w : World) (ty e : TypeId) (n : Nat) (F : Nat → Value) (k : IntKind) (i : Nat) (hu : P.underlying ty = some (.array n e)) (hs : (P.info? e).map (·.size) = some 1) (hp : P.plainKey e = true) (h : i < n) :
    (Instr.index ty (.agg (rowOf n F)) (.int k (i : Int))).run P w = .ok (F i) w := by
  have hp' := run_part_plain (P := P) w hp (rowOf_get n F i h)
  have hc : (0 : Int) ≤ (i : Int) ∧ (i : Int) < (n : Int) := by omega
  simp [Instr.index, asIntOf, run_underlying hu, sizeOf_one hs, hp', h]

/-- G's n places laid over F's, from place o on. -/
def laidV (F G : Nat → Value) (o n : Nat) : Nat → Value := fun j => if o ≤ j ∧ j < o + n then G (j - o) else F j

theorem laidV_row (L : Nat) (F G : Nat → Value) (o n : Nat) (h : o + n ≤ L) :
    ((rowOf L F).toList.take o ++ (rowOf n G).toList ++ (rowOf L F).toList.drop (o + n)).toArray = rowOf L (laidV F G o n) := by
  unfold rowOf
  congr 1
  apply List.ext_getElem
  · simp
    omega
  · intro j h1 h2
    have hj : j < L := by simpa using h2
    rw [List.getElem_map, List.getElem_range]
    have e0 : ¬ (o ≤ j ∧ j < o + n) → laidV F G o n j = F j := fun h => if_neg h
    have e1 : (o ≤ j ∧ j < o + n) → laidV F G o n j = G (j - o) := fun h => if_pos h
    by_cases c1 : j < o
    · rw [e0 (by omega), List.getElem_append_left (by simp; omega), List.getElem_append_left (by simp; omega)]
      simp
    · by_cases c2 : j < o + n
      · rw [e1 (by omega), List.getElem_append_left (by simp; omega), List.getElem_append_right (by simp; omega)]
        simp
        rw [show min o L = o by omega]
      · rw [e0 (by omega), List.getElem_append_right (by simp; omega)]
        simp
        congr 1
        omega

theorem run_storeVar_at (w : World) (g o : Nat) (t ty : TypeId) (L n : Nat) (F G : Nat → Value) (hg : RowAt w g t (rowOf L F)) (hi : (P.info? ty).map (·.size) = some n) (h1 : (rowOf n G).all (·.oneCell') = true) (hL : o + n ≤ L) :
    (storeVar ty ⟨g, o, none⟩ (.agg (rowOf n G))).run P w = .ok () (w.setRow g (rowOf L (laidV F G o n))) := by
  have hlen : (rowOf n G).toList.length = n := by simp [rowOf_size]
  have := run_storeCells_at P g o t (rowOf n G).toList 0 (rowOf L F) w hg (by rw [hlen, rowOf_size]; omega) (fun v hv => (Array.all_eq_true_iff_forall_mem.1 h1) v (by simpa using hv))
  rw [hlen] at this
  simp only [Nat.add_zero] at this
  rw [laidV_row L F G o n hL] at this
  cases hq : P.info? ty with
  | none => simp [hq] at hi
  | some i =>
    have hs : i.size = n := by simpa [hq] using hi
    simp [storeVar, sizeOf, typeInfo, hq, Value.cells, hs, this, rowOf_size]

theorem wpList_load_at {ops : Array Oper} {rest : List Oper} {o : Oper} {a : Act} {w : World} {Q : Exit → Act → World → Prop} (hgd : o.guard = none) (ty : TypeId) (x : Operand) (ho : o.op = .load ty x)
    (g s : Nat) (hx : a.eval x = .pointer (some ⟨g, s, none⟩)) (t : TypeId) (cs : Array Value) (d : TypeDesc) (n : Nat) (f : Nat → Value) (hg : RowAt w g t cs) (hc : ∀ j, j < n → cs[s + j]? = some (f j))
    (hu : P.underlying ty = some d) (hd : (match d with | .struct _ | .array _ _ => true | _ => false) = true) (hi : (P.info? ty).map (·.size) = some n)
    (h : wpList P ops Q rest (a.put o.dst (.agg (rowOf n f))) w) : wpList P ops Q (o :: rest) a w :=
  wpList_plain hgd fun _ hK => by
    unfold Oper.wp execOp
    simp only [ho, hx, Instr.loadAt, Instr.sureAddr, Sem.run_bind, Sem.run_pure, Result.andThen_ok, run_loadVar_at w g s t ty cs d n f hg hc hu hd hi]
    exact hK _ _ h

theorem wpList_store_at {ops : Array Oper} {rest : List Oper} {o : Oper} {a : Act} {w : World} {Q : Exit → Act → World → Prop} (hgd : o.guard = none) (ty : TypeId) (x y : Operand) (ho : o.op = .store ty x y)
    (g s : Nat) (L n : Nat) (F G : Nat → Value) (hx : a.eval x = .pointer (some ⟨g, s, none⟩)) (hy : a.eval y = .agg (rowOf n G))
    (t : TypeId) (hg : RowAt w g t (rowOf L F)) (hi : (P.info? ty).map (·.size) = some n) (h1 : (rowOf n G).all (·.oneCell') = true) (hL : s + n ≤ L)
    (h : wpList P ops Q rest (a.put o.dst undef) (w.setRow g (rowOf L (laidV F G s n)))) : wpList P ops Q (o :: rest) a w :=
  wpList_plain hgd fun _ hK => by
    unfold Oper.wp execOp
    simp only [ho, hx, hy, Instr.storeAt, Instr.sureAddr, Sem.run_bind, Sem.run_pure, Result.andThen_ok, run_storeVar_at w g s t ty L n F G hg hi h1 hL]
    exact hK _ _ h
end

end Go.Proofs.Ytapebaoajknepaa
