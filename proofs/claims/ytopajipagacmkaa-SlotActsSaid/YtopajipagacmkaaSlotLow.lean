/-
  States of a slot: its power's number is small; what a power alone turns; rows that a call of a slot leaves as they are.
-/
import Derived.Test.YtopajipagacmkaaSlotShown
namespace Go.Proofs.Ytopajipagacmkaa
open Go.RowKit
set_option linter.unusedVariables false

/-- No more than t acts so far. -/
structure LowS (S : SS) (t : Nat) : Prop where
  lo : -(t : Int) ≤ S.p.left
  hi : S.p.left < 9223372036854775808
theorem LowS.low {S : SS} {t : Nat} (h : LowS S t) (ht : t < 1000000) : -1000000 < S.p.left := by have := h.lo; omega
theorem LowS.mono {S : SS} {t u : Nat} (h : LowS S t) (ht : t ≤ u) : LowS S u := ⟨by have := h.lo; omega, h.hi⟩
theorem LowS.turn {S : SS} {t : Nat} (h : LowS S t) (i : Nat) (x : Cel) : LowS (turnS S i x) (t + 1) := ⟨by
  have := h.lo
  show -((t + 1 : Nat) : Int) ≤ S.p.left - 1
  omega, by
  have := h.hi
  show S.p.left - 1 < _
  omega⟩
theorem LowS.write {S : SS} {t : Nat} (h : LowS S t) (z : Int) (k : Nat → Nat) (e : Nat) : LowS (writeS S z k e) (t + 1) := by
  have h1 := h.mono (Nat.le_succ t)
  unfold writeS
  split
  · exact h1
  split
  · exact h1
  split
  · exact h1
  · exact h.turn _ _
theorem LowS.erase {S : SS} {t : Nat} (h : LowS S t) (z : Int) : LowS (slEraseS S z) (t + 1) := by
  have h1 := h.mono (Nat.le_succ t)
  unfold slEraseS
  split
  · exact h1
  split
  · exact h1
  · exact h.turn _ _
theorem LowS.new : LowS (newSS noneS) 0 := ⟨by decide, by decide⟩

/-- The power alone. -/
def cutSS (S : SS) : SS := { S with p := { S.p with up := false } }
def onSS (S : SS) : SS := { S with p := { S.p with up := true, left := 0 } }
def fuseSS (S : SS) (n : Int) (k j : Nat) : SS := { S with p := { S.p with left := n, keep := k, junk := j } }
theorem LowS.cut {S : SS} {t : Nat} (h : LowS S t) : LowS (cutSS S) t := ⟨h.lo, h.hi⟩
theorem LowS.on {S : SS} {t : Nat} (h : LowS S t) : LowS (onSS S) t := ⟨by show -(t : Int) ≤ 0; omega, by show (0 : Int) < _; decide⟩
theorem LowS.fuse {S : SS} {t : Nat} (h : LowS S t) {n : Int} (h0 : 0 ≤ n) (h1 : n < 9223372036854775808) (k j : Nat) : LowS (fuseSS S n k j) t := ⟨by show -(t : Int) ≤ n; omega, h1⟩

section
variable {B : Nat} {w w' : World} {pp sp : Nat} {S : SS}
theorem Sl.keeps (h : Sl B w pp sp S) (g : Beside (footS pp sp) w w') {q : Nat} {t : TypeId} {cs : Array Value} (hr : RowAt w q t cs) (h1 : t ≠ 69) (h2 : t ≠ 74) : RowAt w' q t cs :=
  hr.beside g fun hf => by
    rcases hf with e | e
    · exact hr.apart h.pow h1 e
    · exact hr.apart h.row h2 e
end

/-- A row of the call's own, as a slice. -/
theorem own_shape {w : World} {base : Nat} {e : TypeId} {size n : Nat} {v : Value} {xs : List Value} (h : w.ownsRow base e size v n xs) : ∃ a c, v = .slice a n c := by
  rcases h.2 with ⟨rfl, rfl⟩ | ⟨g, cap, cur, rfl, _⟩
  · exact ⟨none, 0, rfl⟩
  · exact ⟨some ⟨g, 0, none⟩, cap, rfl⟩

set_option maxRecDepth 8000 in
theorem slCut_any (B pp sp : Nat) (S : SS) (w : World) (h : Hid (Sl B w pp sp S)) :
    Calls Try.prog 17 #[.pointer (some ⟨pp, 0, none⟩)] w fun e w' => e = .returned (.tuple #[]) ∧ Hid (Sl B w' pp sp (cutSS S)) ∧ Beside (footS pp sp) w w' :=
  (powCut_any pp S.p.up S.p.left S.p.keep S.p.junk w h.out.pow).mono fun e w' ⟨he, hr, ha⟩ => ⟨he, (h.out.power ha hr.out h.out.byte h.out.tall).1, (h.out.power ha hr.out h.out.byte h.out.tall).2⟩
end Go.Proofs.Ytopajipagacmkaa
