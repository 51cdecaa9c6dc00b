/-
  A number in eight bytes.
-/
import Derived.Test.YtedmdojmgccclaaDoorNum
namespace Go.Proofs.YtedmdojmgccclaaDoor
open Go.RowKit

theorem numS_8 (n : Nat) (hn : n < 18446744073709551616) : numS (n : Int) 8 = bs (numB 8 n) ∧ numE (n : Int) 8 = 0 := by
  have h : (1 : Int) ≤ 8 ∧ (8 : Int) ≤ 8 ∧ fitsB (n : Int) 8 = true := ⟨by decide, by decide, fits_8 _ (by omega)⟩
  unfold numS numE
  rw [if_pos h, if_pos h]
  exact ⟨rfl, rfl⟩

end Go.Proofs.YtedmdojmgccclaaDoor
