/-
  A region that draws its order and ends in operations that wait for all the rest, where what is told of the values is kept by its operations, whatever that is; a byte appended to a row of the call's own, the old row still there.
-/
import Derived.Test.YtlfgiggeeoegjaaDoorRelyTail
import Derived.Test.YtlfgiggeeoegjaaDoorTermApp
namespace Go.Proofs.YtlfgiggeeoegjaaDoor
open Go.RowKit
set_option linter.unusedVariables false

section
variable {P : Program} {a0 : Act}
theorem wp_region_head {id : Nat} {Q : Exit → Act → World → Prop} {w : World} {l : List Oper} (n : Nat) (C : World → Prop) (rs : List Pred) (Φ : List Pred → Prop) (hm : P.follows .mixedOrders = true) (hB : relyTailB l.toArray n = true) (hC : C w.drew) (hst : Φ rs)
    (h : ∀ R, Φ R → wpRely P l.toArray C R (fun a w => wpList P l.toArray Q (l.drop n) a w) (l.take n) rs [] a0) : (Code.region id l.toArray true).wp P Q a0 w := by
  refine wp_region_any hm ?_
  have inv0 : HeadInv .any l.toArray n (Array.replicate l.toArray.size false) :=
    ⟨by simp, fun j oj _ hl => (by rw [getD_replicate_false] at hl; cases hl), fun t _ ht => getD_in (by simpa using ht) (getD_replicate_false _ _)⟩
  have hn : n < l.toArray.size := by
    unfold relyTailB at hB
    simp only [Bool.and_eq_true, decide_eq_true_eq] at hB
    exact hB.1.1.1.2
  have hcount : ((Array.replicate l.toArray.size false).toList.take n).count false = n := by
    have : n < l.length := by simpa using hn
    simp
    omega
  have hno : ∀ k, k < l.toArray.size → (Array.replicate l.toArray.size false).getD k true = false := fun k hk => by
    rw [Array.getD_eq_getD_getElem?, Array.getElem?_replicate, if_pos hk]
    rfl
  have := wpAny_rely_tail (P := P) (ops := l.toArray) (C := C) (R := rs) (a0 := a0) (Q := Q) hB (by simpa using h rs hst) n (Array.replicate l.toArray.size false) (fun _ => undef) w.drew inv0 hcount hC
    (fun i hi hk => by rw [hno i (by omega)] at hk; cases hk)
  have he : actOf l.toArray a0 (Array.replicate l.toArray.size false) (fun _ => undef) l.toArray.size = a0 := by
    have := actOf_rest (ops := l.toArray) (a0 := a0) (vals := fun _ => undef) (n := 0) (m := l.toArray.size) (fun i _ hi => hno i hi) l.toArray.size (by omega)
    rw [Nat.zero_add] at this
    exact this
  rw [he, show n + (l.toArray.size - n) = l.toArray.size by omega] at this
  exact this
end

/-- A byte appended: the new row; the old one is still there, and so is any row that already has that byte. -/
theorem append_keep (w : World) (B m q : Nat) (v : Value) (l : List UInt8) (b : UInt8) (ty : TypeId) (hown : w.ownsRow B 5 1 v m (l.map bv)) (hq : RowAt w q 5 #[bv b]) (hm : m ≤ 1000000) (hB : B ≤ w.heap.size) :
    ∃ v' w', (Builtin.append_ #[46, 46] ty #[v, .slice (some ⟨q, 0, none⟩) 1 1]).run Tryd.prog w = .ok v' w' ∧ w'.ownsRow B 5 1 v' (m + 1) ((l ++ [b]).map bv) ∧ w'.ownsRow B 5 1 v m (l.map bv) ∧ w.grownBy w' v.ownBlock ∧
      ∀ u, w.ownsRow B 5 1 u (m + 1) ((l ++ [b]).map bv) → w'.ownsRow B 5 1 u (m + 1) ((l ++ [b]).map bv) := by
  obtain ⟨i0, hi, hz0, hz1, hz2⟩ := info_parts Tryd.info5
  have hnews : ∀ j u, [bv b][j]? = some u → w.cell? ((⟨q, 0, none⟩ : Addr).add j) = some u := by
    intro j u hj
    rw [addr_add, Nat.zero_add, cell_of_row w q j #[bv b] _ (0, 0) hq]
    simpa using hj
  have h1 : ∀ u ∈ [bv b], u.oneCell' = true := fun u hu => by simp at hu; subst hu; rfl
  have el : l.map bv ++ [bv b] = (l ++ [b]).map bv := by simp
  obtain ⟨v', w', hr, h2, h3, _⟩ := run_append_own (P := Tryd.prog) w B 46 ty 5 i0 (.int .u8 0) 1 1 Tryd.underlying46 hi hz0 hz1 hz2 rfl (by decide) v m (l.map bv) hown ⟨q, 0, none⟩ 1 1 [bv b] rfl hnews h1 (by unfold maxLen; omega) (by omega) hB
  rw [el] at h2
  refine ⟨v', w', hr, h2, ?_, h3, ?_⟩
  · rcases hown.2 with ⟨rfl, rfl⟩ | ⟨g, cap, cur, rfl, hg, hrow, hc, hcm, hcs, htake⟩
    · have : l.map bv = [] := List.eq_nil_of_length_eq_zero (by simpa using hown.1)
      rw [this]
      exact World.ownsRow_nil _ _ _ _
    · by_cases hroom : m + 1 ≤ cap
      · have hr2 := run_append_room (P := Tryd.prog) w 46 ty 5 i0 Tryd.underlying46 hi g m cap cur hrow ⟨q, 0, none⟩ 1 1 [bv b] (by rw [hz1]; rfl) hnews h1 hroom (by rw [hz1]; simp; omega)
        rw [hr] at hr2
        cases hr2
        rw [hz1] at *
        refine ⟨hown.1, .inr ⟨g, cap, _, rfl, hg, setRow_heap w g cur _ _ _ hrow, hc, hcm, ?_, ?_⟩⟩
        · simp; omega
        · have e1 : (List.take (m * 1) cur.toList).length = m * 1 := by simp; omega
          show ((List.take (m * 1) cur.toList ++ [bv b]) ++ List.drop (m * 1 + 1) cur.toList).take (m * 1) = l.map bv
          rw [List.append_assoc, List.take_append_of_le_length (by omega), List.take_of_length_le (by omega), htake]
      · have hr2 := run_append_grow (P := Tryd.prog) w 46 ty 5 i0 (.int .u8 0) Tryd.underlying46 hi hz0 ⟨g, 0, none⟩ m cap (l.map bv) (by rw [hz1]; exact hown.1) (hown.cells (g := g) rfl) ⟨q, 0, none⟩ 1 1 [bv b] (by rw [hz1]; rfl) hnews (by omega) (by omega) (growslice_fits (by omega) (by rw [hz2]; omega))
        rw [hr] at hr2
        cases hr2
        exact World.ownsRow.alloc (w := w.drew) hown _
  · intro u hu
    by_cases hne : u.ownBlock = none ∨ u.ownBlock ≠ v.ownBlock
    · exact hu.kept h3 hne
    · rcases hown.2 with ⟨rfl, rfl⟩ | ⟨g, cap, cur, rfl, hg, hrow, hc, hcm, hcs, htake⟩
      · rcases hu.2 with ⟨rfl, _⟩ | ⟨g', cap', cur', rfl, _⟩
        · exact absurd (.inl rfl) hne
        · exact absurd (.inr (by simp [Value.ownBlock])) hne
      · rcases hu.2 with ⟨rfl, _⟩ | ⟨g', cap', cur', rfl, hg', hrow', hc', hcm', hcs', htake'⟩
        · exact absurd (.inl rfl) hne
        · have eg : g' = g := by
            by_cases e : g' = g
            · exact e
            · exact absurd (.inr (by simp [Value.ownBlock, e])) hne
          subst eg
          rw [hrow] at hrow'
          cases hrow'
          have ec : cap = cap' := by omega
          subst ec
          have hr2 := run_append_room (P := Tryd.prog) w 46 ty 5 i0 Tryd.underlying46 hi g' m cap cur hrow ⟨q, 0, none⟩ 1 1 [bv b] (by rw [hz1]; rfl) hnews h1 hc' (by rw [hz1]; simp; omega)
          rw [hr] at hr2
          cases hr2
          rw [hz1] at *
          refine ⟨hu.1, .inr ⟨g', cap, _, rfl, hg', setRow_heap w g' cur _ _ _ hrow, hc', hcm', ?_, ?_⟩⟩
          · simp; omega
          · have e1 : (List.take (m * 1) cur.toList ++ [bv b]).length = (m + 1) * 1 := by simp; omega
            show ((List.take (m * 1) cur.toList ++ [bv b]) ++ List.drop (m * 1 + 1) cur.toList).take ((m + 1) * 1) = (l ++ [b]).map bv
            rw [List.take_append_of_le_length (by omega), List.take_of_length_le (by omega), htake, el]

end Go.Proofs.YtlfgiggeeoegjaaDoor
