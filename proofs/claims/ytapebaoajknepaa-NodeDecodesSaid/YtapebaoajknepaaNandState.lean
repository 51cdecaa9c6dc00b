/-
  What a power has; what a chip has; the numbers of places.
-/
import Derived.Test.YtapebaoajknepaaBeside
namespace Go.Proofs.Ytapebaoajknepaa
open Go.RowKit
set_option linter.unusedVariables false

/-- Power, as it lies. -/
def pw (up : Bool) (left keep : Int) (junk : Nat) : Array Value := #[.bool up, .int .i64 left, .int .i64 keep, .int .u8 (junk : Nat)]

/-- What a chip has. -/
structure St where
  up : Bool
  left : Int
  keep : Nat
  junk : Nat
  rated : Int
  wear : Nat → Nat
  bad : Nat → Bool
  page : Nat → Nat → ByteArray
  hist : List ByteArray
  progs : Nat
  erases : Nat

def actS (S : St) (b : Bool) (l1 : Int) : St := { S with up := b, left := l1 }
def newS (up : Bool) (left : Int) (keep junk : Nat) (r : Int) (bd : Nat → Bool) : St := { up := up, left := left, keep := keep, junk := junk, rated := r, wear := fun _ => 0, bad := bd, page := fun _ _ => ⟨#[]⟩, hist := [], progs := 0, erases := 0 }
/-- Nothing. -/
def noneS : St := newS true 0 0 0 0 fun _ => false

/-- Whether a number is one of n places. -/
def inB (z : Int) (n : Nat) : Bool := decide (0 ≤ z) && decide (z < (n : Int))
theorem inB_iff (z : Int) (n : Nat) : inB z n = true ↔ 0 ≤ z ∧ z < n := by unfold inB; simp
theorem inB_nat (i n : Nat) (h : i < n) : inB (i : Int) n = true := (inB_iff _ _).2 ⟨by omega, by omega⟩
theorem inB_get {z : Int} {n : Nat} (h : inB z n = true) : ∃ i : Nat, z = i ∧ i < n := ⟨z.toNat, by have := (inB_iff _ _).1 h; omega, by have := (inB_iff _ _).1 h; omega⟩

/-- What an operation makes. -/
theorem wpList_new {P : Program} {ops : Array Oper} {rest : List Oper} {o : Oper} {a : Act} {w w' : World} {Q : Exit → Act → World → Prop} {v : Value} (hgd : o.guard = none) (hr : (execOp a.eval o).run P w = .ok (.value v) w')
    (h : wpList P ops Q rest (a.put o.dst v) w') : wpList P ops Q (o :: rest) a w :=
  wpList_plain hgd fun _ hK => by
    unfold Oper.wp
    simp only [hr, Oper.upon]
    exact hK _ _ h

end Go.Proofs.Ytapebaoajknepaa
