/-
  Rows of bools, read and written; numbers that may be below zero; a mind in memory.
-/
import Derived.Test.YtjhalbifljnfjaaAdvMath
import Derived.Test.YtjhalbifljnfjaaMakeBools
import Derived.Test.YtjhalbifljnfjaaTermApp
import Derived.Test.YtjhalbifljnfjaaTermMay
namespace Go.Proofs.Ytjhalbifljnfjaa
open Go.RowKit
set_option linter.unusedVariables false

def intV (f : Nat → Int) : Nat → Value := fun j => .int .i64 (f j)
abbrev SeesB (w : World) (a : Option Addr) (n : Nat) (X : Nat → Bool) : Prop := SeesV w a n (boolV X)
abbrev SeesZ (w : World) (a : Option Addr) (n : Nat) (f : Nat → Int) : Prop := SeesV w a n (intV f)

theorem sz_bool : (Try.prog.info? 4).map (·.size) = some 1 := by kernel_rfl
theorem sz_mind : (Try.prog.info? 52).map (·.size) = some 3 := by kernel_rfl
theorem el_bools : Try.prog.elem 28 = 4 := by kernel_rfl

theorem at_bools {w0 : World} {ad : Option Addr} {n c i : Nat} {X : Nat → Bool} (h : SeesB w0 ad n X) (hi : i < n) {o : Oper} {a : Act} {x y : Operand} (ho : o.op = .indexAddr 28 x y) (hx : a.eval x = .slice ad n c) {z : Int} (hy : a.eval y = .int .i64 z) (hz : z = (i : Int)) (w : World) :
    (execOp a.eval o).run Try.prog w = .ok (.value (.pointer (some (elV ad i)))) w := by
  have := run_index_v Try.underlying28 el_bools sz_bool (k := 1) (n := n) (by rw [Nat.mul_one]; exact h) (by decide) hi ho hx hy hz w
  rwa [Nat.mul_one] at this
theorem at_intsV {w0 : World} {ad : Option Addr} {n c i : Nat} {F : Nat → Value} (h : SeesV w0 ad n F) (hi : i < n) {o : Oper} {a : Act} {x y : Operand} (ho : o.op = .indexAddr 23 x y) (hx : a.eval x = .slice ad n c) {z : Int} (hy : a.eval y = .int .i64 z) (hz : z = (i : Int)) (w : World) :
    (execOp a.eval o).run Try.prog w = .ok (.value (.pointer (some (elV ad i)))) w := by
  have := run_index_v Try.underlying23 el_ints sz_int (k := 1) (n := n) (by rw [Nat.mul_one]; exact h) (by decide) hi ho hx hy hz w
  rwa [Nat.mul_one] at this
theorem get_bool {w : World} {ad : Option Addr} {m : Nat} {b : Bool} (hc : w.cell? (elV ad m) = some (.bool b)) {o : Oper} {a : Act} {x : Operand} (ho : o.op = .load 4 x) (hx : a.eval x = .pointer (some (elV ad m))) :
    (execOp a.eval o).run Try.prog w = .ok (.value (.bool b)) w := run_load_one hc Try.underlying4 rfl ho hx
/-- One cell of a block, loaded. -/
theorem get_cell {P : Program} {w : World} {g j : Nat} {t T : TypeId} {cs : Array Value} {v : Value} {d : TypeDesc} (hr : RowAt w g t cs) (hc : cs[j]? = some v) (hd : (match d with | .struct _ | .array _ _ => false | _ => true) = true) (hu : P.underlying T = some d)
    {o : Oper} {a : Act} {x : Operand} (ho : o.op = .load T x) (hx : a.eval x = .pointer (some ⟨g, j, none⟩)) : (execOp a.eval o).run P w = .ok (.value v) w := by
  have hcell : w.cell? ⟨g, j, none⟩ = some v := by rw [cell_of_row w g j cs t (0, 0) hr, hc]
  have hagg : (isAgg T).run P w = .ok false w := by
    unfold isAgg
    rw [Sem.run_bind, run_underlying hu w]
    cases d <;> simp_all
  unfold execOp
  simp [ho, hx, Instr.loadAt, Instr.sureAddr, loadVar, Sem.run_bind, hagg, hcell]

/-- A row of bools that may be written, in block p. -/
def BRow (w : World) (p m : Nat) (X : Nat → Bool) : Prop := ∃ cs : Array Value, RowAt w p 4 cs ∧ ∀ j, j < m → cs[j]? = some (.bool (X j))
theorem BRow.lt {w : World} {p m : Nat} {X : Nat → Bool} (h : BRow w p m X) : p < w.heap.size := by
  obtain ⟨cs, hr, _⟩ := h
  exact hr.lt
theorem BRow.sees {w : World} {p m : Nat} {X : Nat → Bool} (h : BRow w p m X) : SeesB w (some ⟨p, 0, none⟩) m X := fun j hj => by
  obtain ⟨cs, hr, hc⟩ := h
  refine ⟨_, rfl, hr.lt, ?_⟩
  rw [addr_add, Nat.zero_add, cell_of_row w p j cs _ (0, 0) hr, hc j hj]
  rfl
theorem BRow.below {B p m : Nat} {X : Nat → Bool} {w w' : World} (h : BRow w p m X) (hb : Below B w w') (hp : p < B) : BRow w' p m X := by
  obtain ⟨cs, hr, hc⟩ := h
  exact ⟨cs, hr.below hb hp, hc⟩
theorem BRow.after {p m : Nat} {X : Nat → Bool} {w w' : World} (h : BRow w p m X) (hb : Below w.heap.size w w') : BRow w' p m X := h.below hb h.lt
theorem BRow.congr {p m : Nat} {X Y : Nat → Bool} {w : World} (h : BRow w p m X) (e : ∀ j, j < m → X j = Y j) : BRow w p m Y := by
  obtain ⟨cs, hr, hc⟩ := h
  exact ⟨cs, hr, fun j hj => by rw [hc j hj, e j hj]⟩
theorem BRow.apart {p q m : Nat} {X : Nat → Bool} {w w' : World} (h : BRow w q m X) (ha : Apart p w w') (hq : q ≠ p) : BRow w' q m X := by
  obtain ⟨cs, hr, hc⟩ := h
  exact ⟨cs, ha.row hr hq, hc⟩
theorem BRow.set {p m d : Nat} {X : Nat → Bool} {w : World} (h : BRow w p m X) (hd : d < m) : ∃ cs : Array Value, RowAt w p 4 cs ∧ d < cs.size ∧ BRow (w.setRow p (cs.toList.take d ++ [Value.bool true] ++ cs.toList.drop (d + 1)).toArray) p m (setT X d) := by
  obtain ⟨cs, hr, hc⟩ := h
  have hd' : d < cs.size := (Array.getElem?_eq_some_iff.1 (hc d hd)).1
  refine ⟨cs, hr, hd', _, hr.setRow _, fun j hj => ?_⟩
  have hj' : j < cs.size := (Array.getElem?_eq_some_iff.1 (hc j hj)).1
  have e := hc j hj
  rw [List.getElem?_toArray]
  by_cases e1 : j = d
  · subst e1
    rw [setT_same, List.append_assoc, List.getElem?_append_right (by simp; omega), List.length_take, Array.length_toList, show j - min j cs.size = 0 by omega]
    rfl
  · rw [setT_other X e1, ← e, List.append_assoc]
    by_cases h1 : j < d
    · rw [List.getElem?_append_left (by simp; omega), List.getElem?_take_of_lt h1, Array.getElem?_toList]
    · rw [List.getElem?_append_right (by simp; omega), List.length_take, Array.length_toList, show min d cs.size = d by omega, List.getElem?_append_right (by simp; omega), List.length_singleton, List.getElem?_drop, show d + 1 + (j - d - 1) = j by omega, Array.getElem?_toList]

theorem elV_at (g i : Nat) : elV (some ⟨g, 0, none⟩) i = ⟨g, i, none⟩ := by
  show (⟨g, 0, none⟩ : Addr).add i = _
  rw [addr_add, Nat.zero_add]

/-- true stored at a place of such a row. -/
theorem wpList_store_bool {ops : Array Oper} {rest : List Oper} {o : Oper} {a : Act} {w : World} {Q : Exit → Act → World → Prop} (hgd : o.guard = none) (x y : Operand) (ho : o.op = .store 4 x y) {p d m : Nat} {X : Nat → Bool}
    (hr : BRow w p m X) (hd : d < m) (hx : a.eval x = .pointer (some (elV (some ⟨p, 0, none⟩) d))) (hy : a.eval y = .bool true)
    (h : ∀ w', Hid (BRow w' p m (setT X d)) → Hid (Apart p w w') → wpList Try.prog ops Q rest (a.put o.dst undef) w') : wpList Try.prog ops Q (o :: rest) a w := by
  obtain ⟨cs, hR, hlt, hB⟩ := hr.set hd
  rw [elV_at] at hx
  have := run_storeCells_at Try.prog p d 4 [.bool true] 0 cs w hR (by simp; omega) (fun v hv => by simp at hv; subst hv; rfl)
  simp only [Nat.add_zero, List.length_singleton] at this
  have hst : (storeVar 4 ⟨p, d, none⟩ (.bool true)).run Try.prog w = .ok () (w.setRow p (cs.toList.take d ++ [Value.bool true] ++ cs.toList.drop (d + 1)).toArray) := by
    cases hq : Try.prog.info? 4 with
    | none => have := sz_bool; simp [hq] at this
    | some i =>
      have hs : i.size = 1 := by have := sz_bool; simpa [hq] using this
      simp [storeVar, sizeOf, typeInfo, hq, Value.cells, hs]
      simpa using this
  exact wpList_plain hgd fun _ hK => by
    unfold Oper.wp execOp
    simp only [ho, hx, hy, Instr.storeAt, Instr.sureAddr, Sem.run_bind, Sem.run_pure, Result.andThen_ok, hst]
    exact hK _ _ (h _ hB ((Apart.refl p w).setRow _))

/-- A slice that does not lie in block p. -/
def Off (a : Option Addr) (p : Nat) : Prop := ∀ ad, a = some ad → ad.block ≠ p
theorem SeesV.apart {w w' : World} {a : Option Addr} {n p : Nat} {F : Nat → Value} (h : SeesV w a n F) (ha : Apart p w w') (ho : Off a p) : SeesV w' a n F :=
  h.kept fun ad e hl => by
    have h1 := (ha #[]).block ad.block hl
    rw [setRow_other _ _ _ _ (ho ad e), setRow_other _ _ _ _ (ho ad e)] at h1
    exact ⟨Nat.lt_of_lt_of_le hl ha.size, h1⟩

/-- A mind: the terms each once (m of them), where the terms of n places are, and what is known in block p. -/
def mindV (aT : Option Addr) (m cT : Nat) (aA : Option Addr) (n cA p cK : Nat) : Value := .agg #[.slice aT m cT, .slice aA n cA, .slice (some ⟨p, 0, none⟩) m cK]
abbrev mindC (aT : Option Addr) (m cT : Nat) (aA : Option Addr) (n cA p cK : Nat) : Array Value := #[.slice aT m cT, .slice aA n cA, .slice (some ⟨p, 0, none⟩) m cK]

end Go.Proofs.Ytjhalbifljnfjaa
