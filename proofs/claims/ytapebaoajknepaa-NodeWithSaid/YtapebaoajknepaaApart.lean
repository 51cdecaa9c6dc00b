/-
  Worlds that are as before but for one block, and what lies above.
-/
import Derived.Test.YtapebaoajknepaaRows1
import Derived.Laws.CopyRow
namespace Go.Proofs.Ytapebaoajknepaa
open Go.RowKit

/-- But for block p, and what is new, w' is as w. -/
def Apart (p : Nat) (w w' : World) : Prop := ∀ cs, Below w.heap.size (w.setRow p cs) (w'.setRow p cs)

theorem below_both {B p : Nat} {a b : World} (h : Below B a b) (cs : Array Value) : Below B (a.setRow p cs) (b.setRow p cs) := by
  refine ⟨h.os, h.tape, h.output, by rw [setRow_size, setRow_size]; exact h.size, fun k hk => ?_⟩
  simp only [World.setRow, Array.getElem?_modify, h.block k hk]

theorem Apart.refl (p : Nat) (w : World) : Apart p w w := fun _ => Below.refl _ _
theorem Apart.size {p : Nat} {w w' : World} (h : Apart p w w') : w.heap.size ≤ w'.heap.size := by
  have := (h #[]).size
  rwa [setRow_size, setRow_size] at this
theorem Apart.trans {p : Nat} {a b c : World} (h : Apart p a b) (k : Apart p b c) : Apart p a c := fun cs => (h cs).trans ((k cs).mono h.size)
theorem Apart.of_below {p : Nat} {w w' : World} (h : Below w.heap.size w w') : Apart p w w' := fun cs => below_both h cs
theorem Apart.below {p : Nat} {w w' w'' : World} (h : Apart p w w') (k : Below w'.heap.size w' w'') : Apart p w w'' := h.trans (.of_below k)
theorem Apart.drew {p : Nat} {w w' : World} (h : Apart p w w') : Apart p w w'.drew := h.trans (.of_below (Below.refl _ _).drew)
theorem Apart.setRow {p : Nat} {w w' : World} (h : Apart p w w') (ds : Array Value) : Apart p w (w'.setRow p ds) := fun cs => by
  rw [setRow_setRow]
  exact h cs
theorem Apart.setCell {p i : Nat} {w w' : World} {t : TypeId} {ds : Array Value} (h : Apart p w w') (hr : RowAt w' p t ds) (v : Value) : Apart p w (w'.setCell ⟨p, i, none⟩ v) := by
  rw [setCell_eq_setRow w' p i ds t (0, 0) v hr]
  exact h.setRow _
theorem Apart.done {p : Nat} {w w' : World} {t : TypeId} {cs : Array Value} (h : Apart p w w') (hr : RowAt w' p t cs) : Below w.heap.size (w.setRow p cs) w' := by
  have := h cs
  rwa [setRow_self w' p cs t (0, 0) hr] at this
theorem Apart.row {p q : Nat} {w w' : World} {t : TypeId} {cs : Array Value} (h : Apart p w w') (hr : RowAt w q t cs) (hq : q ≠ p) : RowAt w' q t cs := by
  have h1 := (hr.setRowOther p #[] hq).below (h #[]) (by have := hr.lt; exact this)
  unfold RowAt at h1 ⊢
  rwa [setRow_other _ _ _ _ hq] at h1
/-- Below a number that block p is not below, nothing has turned. -/
theorem Apart.under {p B : Nat} {w w' : World} (h : Apart p w w') (hB : B ≤ p) (hw : B ≤ w.heap.size) : Below B w w' := by
  have h1 := h #[]
  refine ⟨h1.os, h1.tape, h1.output, h.size, fun k hk => ?_⟩
  have := h1.block k (by omega)
  rwa [setRow_other _ _ _ _ (by omega), setRow_other _ _ _ _ (by omega)] at this

/-- What stays while a region is gone through: a row; the rest above. -/
def RowC (w : World) (p : Nat) (t : TypeId) (cs : Array Value) (w' : World) : Prop := Below w.heap.size w w' ∧ RowAt w' p t cs
theorem RowC.after {w w1 w2 : World} {p : Nat} {t : TypeId} {cs : Array Value} (hb : Below w1.heap.size w1 w2) (h : RowC w p t cs w1) : RowC w p t cs w2 := ⟨h.1.trans (hb.mono h.1.size), h.2.below hb h.2.lt⟩

end Go.Proofs.Ytapebaoajknepaa
