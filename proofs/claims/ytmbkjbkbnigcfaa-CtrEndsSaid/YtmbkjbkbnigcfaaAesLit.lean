/-
  AES reckoned: each round's state as a list of literals.
-/
import Derived.Test.YtmbkjbkbnigcfaaKeys
import Derived.Test.YtmbkjbkbnigcfaaAesState
namespace Go.Proofs.Ytmbkjbkbnigcfaa
open Go.RowKit

def lf (l : List Nat) : Nat → Nat := fun j => l.getD j 0

theorem same_lit {f g : Nat → Nat} (h : sameK f g = true) : Same16 f g := (sameK_iff f g).1 h
theorem rk_lit {key : Nat → Nat} {i : Nat} {a b : List Nat} (h : Same16 (rkN key i) (lf a)) (e : sameK (rkNext (lf a) (xtsN 1 i)) (lf b) = true) : Same16 (rkN key (i + 1)) (lf b) :=
  Same16.trans (fun j hj => rkCol_congr h (xtsN 1 i) (j / 4) (j % 4) (by omega) (by omega)) (same_lit e)
theorem st_lit {key b : Nat → Nat} {i : Nat} {s k t : List Nat} (h : Same16 (lockTo key b i) (lf s)) (hk : Same16 (rkN key (i + 1)) (lf k)) (e : sameK (roundS (lf s) (lf k) (decide (i + 1 = 10))) (lf t) = true) : Same16 (lockTo key b (i + 1)) (lf t) :=
  (roundS_congr h _ _).trans (Same16.trans (fun j hj => by unfold roundS aAdd; rw [hk j hj]) (same_lit e))

end Go.Proofs.Ytmbkjbkbnigcfaa
