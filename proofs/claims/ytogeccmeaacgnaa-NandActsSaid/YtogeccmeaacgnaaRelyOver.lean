/-
  A region that draws its order and ends in operations that wait for all the rest, where what is told of the values is kept by its operations, whatever that is.
-/
import Derived.Test.YtogeccmeaacgnaaRelyTail
namespace Go.Proofs.Ytogeccmeaacgnaa
open Go.RowKit
set_option linter.unusedVariables false

section
variable {P : Program} {a0 : Act}
theorem wp_region_head {id : Nat} {Q : Exit → Act → World → Prop} {w : World} {l : List Oper} (n : Nat) (C : World → Prop) (rs : List Pred) (Φ : List Pred → Prop) (hm : P.follows .mixedOrders = true) (hB : relyTailB l.toArray n = true) (hC : C w.drew) (hst : Φ rs)
    (h : ∀ R, Φ R → wpRely P l.toArray C R (fun a w => wpList P l.toArray Q (l.drop n) a w) (l.take n) rs [] a0) : (Code.region id l.toArray true).wp P Q a0 w := by
  refine wp_region_any hm ?_
  have inv0 : HeadInv .any l.toArray n (Array.replicate l.toArray.size false) :=
    ⟨by simp, fun j oj _ hl => (by rw [getD_replicate_false] at hl; cases hl), fun t _ ht => getD_in (by simpa using ht) (getD_replicate_false _ _)⟩
  have hn : n < l.toArray.size := by
    unfold relyTailB at hB
    simp only [Bool.and_eq_true, decide_eq_true_eq] at hB
    exact hB.1.1.1.2
  have hcount : ((Array.replicate l.toArray.size false).toList.take n).count false = n := by
    have : n < l.length := by simpa using hn
    simp
    omega
  have hno : ∀ k, k < l.toArray.size → (Array.replicate l.toArray.size false).getD k true = false := fun k hk => by
    rw [Array.getD_eq_getD_getElem?, Array.getElem?_replicate, if_pos hk]
    rfl
  have := wpAny_rely_tail (P := P) (ops := l.toArray) (C := C) (R := rs) (a0 := a0) (Q := Q) hB (by simpa using h rs hst) n (Array.replicate l.toArray.size false) (fun _ => undef) w.drew inv0 hcount hC
    (fun i hi hk => by rw [hno i (by omega)] at hk; cases hk)
  have he : actOf l.toArray a0 (Array.replicate l.toArray.size false) (fun _ => undef) l.toArray.size = a0 := by
    have := actOf_rest (ops := l.toArray) (a0 := a0) (vals := fun _ => undef) (n := 0) (m := l.toArray.size) (fun i _ hi => hno i hi) l.toArray.size (by omega)
    rw [Nat.zero_add] at this
    exact this
  rw [he, show n + (l.toArray.size - n) = l.toArray.size by omega] at this
  exact this
end

end Go.Proofs.Ytogeccmeaacgnaa
