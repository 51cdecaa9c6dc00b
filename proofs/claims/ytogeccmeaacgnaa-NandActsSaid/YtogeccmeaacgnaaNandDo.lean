/-
  What is done to a chip: the states; boxes beside it.
-/
import Derived.Test.YtogeccmeaacgnaaNandTurn
import Derived.Test.YtogeccmeaacgnaaNandAsk
namespace Go.Proofs.Ytogeccmeaacgnaa
open Go.RowKit
set_option linter.unusedVariables false

theorem cell_beside {F : Nat → Prop} {w w' : World} (h : Beside F w w') {a : Addr} (hl : a.block < w.heap.size) (hF : ¬ F a.block) : w'.cell? a = w.cell? a := World.cell?_of_block (h.block _ hl hF)
/-- A variable of its own. -/
def Box (w : World) (F : Nat → Prop) (b : Nat) (v : Value) : Prop := w.cell? ⟨b, 0, none⟩ = some v ∧ b < w.heap.size ∧ ¬ F b
theorem Box.goes {L : Lay} {hv hv' : Value} {w w' : World} {b : Nat} {v : Value} (h : Box w (foot L hv) b v) (g : Goes L hv w hv' w') : Box w' (foot L hv') b v :=
  ⟨(cell_beside g.side (a := ⟨b, 0, none⟩) h.2.1 h.2.2).trans h.1, Nat.lt_of_lt_of_le h.2.1 g.side.size, fun hf => by
    rcases g.foot b hf with h1 | h1
    · exact h.2.2 h1
    · have := h.2.1; omega⟩
theorem Goes.drew {L : Lay} {hv : Value} (w : World) : Goes L hv w hv w.drew := .of_below ((Below.refl _ w).drew)

/-- The first k texts are gone. -/
def clr (k : Nat) (f : Nat → ByteArray) : Nat → ByteArray := fun j => if j < k then ⟨#[]⟩ else f j
def actS (S : St) (b : Bool) (l1 : Int) : St := { S with up := b, left := l1 }
def erS (S : St) (i k : Nat) : St := { S with page := updP S.page i (clr k (S.page i)), wear := updW S.wear i }
def prS (S : St) (i j : Nat) (t : ByteArray) : St := { S with page := updP S.page i (updS (S.page i) j t), hist := S.hist ++ [t] }
def cntE (S : St) : St := { S with erases := S.erases + 1 }
def cntP (S : St) : St := { S with progs := S.progs + 1 }
theorem wrap_one (t : Nat) (h : t ≤ 1000000) : IntKind.i64.wrap ((t : Int) + 1) = ((t + 1 : Nat) : Int) := by
  simp [IntKind.wrap, IntKind.bits, IntKind.signed]
  omega

end Go.Proofs.Ytogeccmeaacgnaa
