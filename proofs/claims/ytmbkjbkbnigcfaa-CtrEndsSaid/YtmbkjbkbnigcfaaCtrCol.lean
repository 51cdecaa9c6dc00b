/-
  A row of bytes that a loop over an iterator collects.
-/
import Derived.Test.YtmbkjbkbnigcfaaCtrIter
import Derived.RangeFuncBox
import Derived.RangeFuncLeaves
import Derived.Maps.AppendAt
namespace Go.Proofs.Ytmbkjbkbnigcfaa
open Go.RowKit

/-- The variable at B holds a row that owns l; the blocks of ks lie as they lay; below n₀ all is as in w. -/
structure Col (n₀ B m : Nat) (ks : List (Nat × Obj)) (w : World) (l : List UInt8) (W : World) : Prop where
  row : ∃ g cap, Boxed W B 34 (.slice (some ⟨g, 0, none⟩) l.length cap) ∧ W.ownsRow n₀ 5 1 (.slice (some ⟨g, 0, none⟩) l.length cap) l.length (l.map bv)
  keep : ∀ j o, (j, o) ∈ ks → W.heap[j]? = some o ∧ looseO o = false ∧ o.isCells = true ∧ j < m
  low : Below n₀ w W
  base : w.heap.size = n₀
  hB : n₀ ≤ B
  hm : n₀ ≤ m

section
variable {n₀ B m : Nat} {ks : List (Nat × Obj)} {w W W' : World} {l : List UInt8}

theorem own_same {W W' : World} {v : Value} {n : Nat} {xs : List Value} (h : W.ownsRow n₀ 5 1 v n xs) (hb : ∀ (g : Nat) (cur : Array Value), W.heap[g]? = some (.cells cur 5 (0, 0)) → W'.heap[g]? = some (.cells cur 5 (0, 0))) :
    W'.ownsRow n₀ 5 1 v n xs := by
  refine ⟨h.1, ?_⟩
  rcases h.2 with hn | ⟨g, cap, cur, rfl, h1, hg, rest⟩
  · exact .inl hn
  · exact .inr ⟨g, cap, cur, rfl, h1, hb g cur hg, rest⟩

theorem Col.size (h : Col n₀ B m ks w l W) : n₀ ≤ W.heap.size := by rw [← h.base]; exact h.low.size
theorem Col.inner (h : Col n₀ B m ks w l W) (k : Inner m W W') : Col n₀ B m ks w l W' := by
  obtain ⟨g0, c0, hv, hr⟩ := h.row
  exact ⟨⟨g0, c0, k.block _ _ hv (.inr rfl), own_same hr fun g cur hg => k.block _ _ hg (.inr rfl)⟩,
    fun j o hj => ⟨k.block j o (h.keep j o hj).1 (.inl (h.keep j o hj).2.2.2), (h.keep j o hj).2⟩,
    h.low.trans ((k.mono h.hm).below h.size), h.base, h.hB, h.hm⟩
theorem putObj_cells {W : World} {j k : Nat} {o o' x : Obj} (hj : W.heap[j]? = some o) (ho : o.isCells = false) (hk : W.heap[k]? = some x) (hx : x.isCells = true) : (W.putObj j o').heap[k]? = some x := by
  refine (World.putObj_heap_other fun e => ?_).trans hk
  subst e
  rw [hj] at hk
  cases hk
  rw [ho] at hx
  cases hx
theorem Col.put (h : Col n₀ B m ks w l W) {j : Nat} {o : Obj} (o' : Obj) (hm : m ≤ j) (hj : W.heap[j]? = some o) (ho : o.isCells = false) : Col n₀ B m ks w l (W.putObj j o') := by
  obtain ⟨g0, c0, hv, hr⟩ := h.row
  exact ⟨⟨g0, c0, putObj_cells hj ho hv rfl, own_same hr fun g cur hg => putObj_cells hj ho hg rfl⟩,
    fun i x hi => ⟨putObj_cells hj ho (h.keep i x hi).1 (h.keep i x hi).2.2.1, (h.keep i x hi).2⟩,
    h.low.trans ⟨rfl, rfl, rfl, by rw [World.putObj_size]; exact Nat.le_refl _, fun k hk => World.putObj_heap_other (by have := h.hm; omega)⟩, h.base, h.hB, h.hm⟩
theorem Col.drew (h : Col n₀ B m ks w l W) : Col n₀ B m ks w l W.drew := h.inner (Inner.of_below (Below.refl _ _).drew)

/-- A byte appended, and the variable set. -/
theorem Col.append0 (h : Col n₀ B m ks w l W) {w1 : World} {v v' : Value} {b : UInt8} (hv : Boxed W B 34 v) (hr : W.ownsRow n₀ 5 1 v l.length (l.map bv))
    (hown : w1.ownsRow n₀ 5 1 v' (l.length + 1) (l.map bv ++ [bv b])) (hgrow : W.grownBy w1 v.ownBlock) :
    Col n₀ B m ks w (l ++ [b]) (w1.setCell ⟨B, 0, none⟩ v') ∧ Outer W (w1.setCell ⟨B, 0, none⟩ v') ∧ Boxed w1 B 34 v := by
  have hv1 : Boxed w1 B 34 v := hv.kept hgrow (hv.not_row (by decide) hr)
  have hv2 := hv1.set v'
  have hr2 := hown.kept (grownBy_setCell' w1 B v') (.inr (hv1.not_row (by decide) hown).symm)
  have hb2 : Below n₀ W (w1.setCell ⟨B, 0, none⟩ v') := by
    refine ((Below.refl n₀ W).grown hgrow h.size fun j ej => ?_).setCell (p := ⟨B, 0, none⟩) h.hB v'
    rcases hr.2 with ⟨rfl, _⟩ | ⟨g, cap, cur, rfl, hb, _, _⟩
    · simp [Value.ownBlock] at ej
    · obtain rfl : g = j := by simpa [Value.ownBlock] using ej
      exact hb
  have hout : Outer W (w1.setCell ⟨B, 0, none⟩ v') := by
    refine ⟨hb2.os, hb2.tape, hb2.output, hb2.size, fun j o hj ho => ?_⟩
    have hlt := (Array.getElem?_eq_some_iff.1 hj).1
    rw [Below.heap_setCell _ _ _ _ (fun e => ?_), hgrow.block j hlt (fun e => ?_)]
    · exact hj
    · rcases hr.2 with ⟨rfl, _⟩ | ⟨g, cap, cur, rfl, _, hg, _⟩
      · simp [Value.ownBlock] at e
      · obtain rfl : j = g := by simpa [Value.ownBlock] using e
        rw [hg] at hj
        cases hj
        cases ho
    · have e' : j = B := e
      subst e'
      have hv' : W.heap[j]? = _ := hv
      rw [hv'] at hj
      cases hj
      cases ho
  obtain ⟨g9, c9, rfl⟩ := ownsRow_succ hown
  refine ⟨⟨⟨g9, c9, by rw [List.length_append]; exact hv2, ?_⟩, fun j o hj => ⟨hout.block j o (h.keep j o hj).1 (h.keep j o hj).2.1, (h.keep j o hj).2⟩, h.low.trans hb2, h.base, h.hB, h.hm⟩, hout, hv1⟩
  rw [List.length_append, List.map_append]
  exact hr2
theorem Col.append (h : Col n₀ B m ks w l W) {w1 : World} {tmp : Obj} {v v' : Value} {b : UInt8} (hv : Boxed W B 34 v) (hr : W.ownsRow n₀ 5 1 v l.length (l.map bv))
    (hown : w1.ownsRow n₀ 5 1 v' (l.length + 1) (l.map bv ++ [bv b])) (hgrow : (W.alloc tmp).grownBy w1 v.ownBlock) :
    Col n₀ B m ks w (l ++ [b]) (w1.setCell ⟨B, 0, none⟩ v') ∧ Outer W (w1.setCell ⟨B, 0, none⟩ v') := by
  have hb : Below W.heap.size W (W.alloc tmp) := (Below.refl _ _).alloc (Nat.le_refl _) _
  obtain ⟨h1, h2, _⟩ := (h.inner (Inner.of_below hb)).append0 (hv.alloc tmp) (hr.alloc tmp) hown hgrow
  exact ⟨h1, (Outer.of_below hb).trans h2⟩

/-- What stays while a region of a round is gone through: the variable, and a text. -/
def ColC (W : World) (B : Nat) (v : Value) (sB : Nat) (s : ByteArray) (W' : World) : Prop := Below W.heap.size W W' ∧ Boxed W' B 34 v ∧ RowAt W' sB 9 #[.string s]
theorem ColC.after {W : World} {B : Nat} {v : Value} {sB : Nat} {s : ByteArray} {A A' : World} (hb : Below A.heap.size A A') (h : ColC W B v sB s A) : ColC W B v sB s A' :=
  ⟨h.1.trans (hb.mono h.1.size), block_some hb h.2.1, h.2.2.below hb h.2.2.lt⟩
end

end Go.Proofs.Ytmbkjbkbnigcfaa
