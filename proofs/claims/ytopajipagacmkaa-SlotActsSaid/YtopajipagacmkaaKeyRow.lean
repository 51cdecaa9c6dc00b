/-
  Rows of keys that the call owns; a slice of one key.
-/
import Derived.Test.YtopajipagacmkaaDrawKeys
import Derived.Test.YtopajipagacmkaaWant
namespace Go.Proofs.Ytopajipagacmkaa
open Go.RowKit

theorem own_after {B n : Nat} {v : Value} {xs : List Value} {w w' : World} (h : w.ownsRow B 31 16 v n xs) (hb : Below w.heap.size w w') : w'.ownsRow B 31 16 v n xs := by
  refine ⟨h.1, ?_⟩
  rcases h.2 with h2 | ⟨g, cap, cur, e, hg, hr, rest⟩
  · exact .inl h2
  · exact .inr ⟨g, cap, cur, e, hg, (hb.block g (Array.getElem?_eq_some_iff.1 hr).1).trans hr, rest⟩
theorem own_base {B B' n : Nat} {v : Value} {xs : List Value} {w : World} (h : w.ownsRow B' 31 16 v n xs) (hB : B ≤ B') : w.ownsRow B 31 16 v n xs := by
  refine ⟨h.1, ?_⟩
  rcases h.2 with h2 | ⟨g, cap, cur, e, hg, rest⟩
  · exact .inl h2
  · exact .inr ⟨g, cap, cur, e, Nat.le_trans hB hg, rest⟩


theorem news_row {w : World} {g : Nat} {cs : Array Value} {t : TypeId} (h : RowAt w g t cs) : ∀ j u, cs.toList[j]? = some u → w.cell? ((⟨g, 0, none⟩ : Addr).add j) = some u := fun j u hj => by
  rw [addr_add, Nat.zero_add, cell_of_row w g j cs t (0, 0) h]
  rw [Array.getElem?_toList] at hj
  exact hj

theorem row_one (n : Nat) (f : Nat → Nat) : ∀ u ∈ (rowOf n (w8 f)).toList, u.oneCell' = true := fun u hu => by
  have hu' : u ∈ (List.range n).map (w8 f) := hu
  exact w8_one _ _ u hu'

/-- A slice of one key. -/
theorem build_one (F : Nat → Nat) (w : World) : (Instr.buildSlice 52 1 #[(0, .agg (rowOf 16 (w8 F)))]).run Try.prog w = .ok (.slice (some ⟨w.heap.size, 0, none⟩) 1 1) (w.alloc (.cells (rowOf 16 (w8 F)) 31)) := by kernel_rfl

theorem wpList_build_one {ops : Array Oper} {rest : List Oper} {o : Oper} {a : Act} {w : World} {Q : Exit → Act → World → Prop} (hgd : o.guard = none) (x : Operand) (ho : o.op = .buildSlice 52 1 #[(0, x)]) (F : Nat → Nat) (hx : a.eval x = .agg (rowOf 16 (w8 F)))
    (h : wpList Try.prog ops Q rest (a.put o.dst (.slice (some ⟨w.heap.size, 0, none⟩) 1 1)) (w.alloc (.cells (rowOf 16 (w8 F)) 31))) : wpList Try.prog ops Q (o :: rest) a w :=
  wpList_plain hgd fun _ hK => by
    unfold Oper.wp execOp
    simp only [ho, List.map_toArray, List.map_cons, List.map_nil, hx, Sem.run_bind, build_one F w, Result.andThen_ok, Sem.run_pure]
    exact hK _ _ h

end Go.Proofs.Ytopajipagacmkaa
