/-
  What several layers share over keys: rows of 16 bytes, held against each other.
-/
import Derived.Test.YtapebaoajknepaaRows1
namespace Go.Proofs.Ytapebaoajknepaa
open Go.RowKit

theorem z8_16 : rowOf 16 (w8 zeroN) = #[.int .u8 0, .int .u8 0, .int .u8 0, .int .u8 0, .int .u8 0, .int .u8 0, .int .u8 0, .int .u8 0, .int .u8 0, .int .u8 0, .int .u8 0, .int .u8 0, .int .u8 0, .int .u8 0, .int .u8 0, .int .u8 0] := rfl
theorem info_key (f : Nat → Value) : (Try.prog.info? 23).map (·.size) = some (rowOf 16 f).size := by rw [rowOf_size]; kernel_rfl
theorem sz8 : (Try.prog.info? 5).map (·.size) = some 1 := by kernel_rfl

theorem elem8 : ∃ i, Try.prog.info? 5 = some i := by
  obtain ⟨i0, hi, _⟩ := info_parts Try.info5
  exact ⟨i0, hi⟩

theorem eq_key (f g : Nat → Nat) (w : World) : (Op.equalIn 10000 23 (.agg (rowOf 16 (w8 f))) (.agg (rowOf 16 (w8 g)))).run Try.prog w = .ok ((List.range 16).all fun i => ((f i : Nat) : Int) == ((g i : Nat) : Int)) w := by
  obtain ⟨i, hi⟩ := elem8
  rw [run_equalIn_array w 9999 _ _ Try.underlying23 hi]
  refine eqItems_two w 9998 Try.underlying5 (by kernel_rfl) _ _ _ (fun j => ((f j : Nat) : Int)) (fun j => ((g j : Nat) : Int)) _ (fun i hi => ?_)
  have hc : Try.prog.cellsOf 5 = 1 := by kernel_rfl
  have hi2 : i < 16 := by simpa using hi
  rw [hc, Nat.mul_one, rowOf_get _ _ _ hi2, rowOf_get _ _ _ hi2]
  exact ⟨rfl, rfl⟩

theorem eq_key_same (f : Nat → Nat) (w : World) : (Op.equalIn 10000 23 (.agg (rowOf 16 (w8 f))) (.agg (rowOf 16 (w8 f)))).run Try.prog w = .ok true w := by
  rw [eq_key]
  simp

/-- Two keys are the same at their 16 places. -/
def sameK (f g : Nat → Nat) : Bool := (List.range 16).all fun i => f i == g i

theorem sameK_iff (f g : Nat → Nat) : sameK f g = true ↔ ∀ j, j < 16 → f j = g j := by
  unfold sameK
  simp
theorem sameK_rfl (f : Nat → Nat) : sameK f f = true := (sameK_iff f f).2 fun _ _ => rfl
theorem sameK_of {f g : Nat → Nat} (h : ∀ j, j < 16 → f j = g j) : sameK f g = true := (sameK_iff f g).2 h

theorem eq_key_two (f g : Nat → Nat) (w : World) : (Op.equalIn 10000 23 (.agg (rowOf 16 (w8 f))) (.agg (rowOf 16 (w8 g)))).run Try.prog w = .ok (sameK f g) w := by
  rw [eq_key]
  have : (fun i => ((f i : Nat) : Int) == ((g i : Nat) : Int)) = fun i => f i == g i := by
    funext i
    rw [Bool.eq_iff_iff, beq_iff_eq, beq_iff_eq]
    omega
  rw [this]
  rfl

/-- A key held against a key. -/
theorem run_eql_key (f : Nat → Nat) {o : Oper} {a : Act} {x y : Operand} {t : TypeId} (ho : o.op = .binOp .eql 23 x y t) (hx : a.eval x = .agg (rowOf 16 (w8 f))) (hy : a.eval y = .agg (rowOf 16 (w8 f))) (w : World) :
    (execOp a.eval o).run Try.prog w = .ok (.value (.bool true)) w := by
  have e := eq_key_same f w
  unfold execOp
  simp only [ho, hx, hy]
  simp [go_sem, e]
theorem run_eql_key2 (f g : Nat → Nat) (b : Bool) (hb : sameK f g = b) {o : Oper} {a : Act} {x y : Operand} {t : TypeId} (ho : o.op = .binOp .eql 23 x y t) (hx : a.eval x = .agg (rowOf 16 (w8 f))) (hy : a.eval y = .agg (rowOf 16 (w8 g))) (w : World) :
    (execOp a.eval o).run Try.prog w = .ok (.value (.bool b)) w := by
  subst hb
  have e := eq_key_two f g w
  unfold execOp
  simp only [ho, hx, hy]
  simp [go_sem, e]
theorem run_neq_key2 (f g : Nat → Nat) (b : Bool) (hb : (!sameK f g) = b) {o : Oper} {a : Act} {x y : Operand} {t : TypeId} (ho : o.op = .binOp .neq 23 x y t) (hx : a.eval x = .agg (rowOf 16 (w8 f))) (hy : a.eval y = .agg (rowOf 16 (w8 g))) (w : World) :
    (execOp a.eval o).run Try.prog w = .ok (.value (.bool b)) w := by
  subst hb
  have e := eq_key_two f g w
  unfold execOp
  simp only [ho, hx, hy]
  simp [go_sem, e]

end Go.Proofs.Ytapebaoajknepaa
