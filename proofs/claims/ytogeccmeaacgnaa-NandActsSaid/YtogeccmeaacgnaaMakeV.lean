/-
  Rows of zero values, made.
-/
import Derived.Test.YtogeccmeaacgnaaSeesV
import Derived.Laws.MakeOwn
namespace Go.Proofs.Ytogeccmeaacgnaa
open Go.RowKit
set_option linter.unusedVariables false

theorem made_row {z : Array Value} {n : Nat} {F : Nat → Value} (h : ∀ j, j < n → z[j % z.size]! = F j) : madeCells z n = rowOf n F := by
  unfold madeCells rowOf
  apply Array.ext'
  rw [Array.toList_map, Array.toList_range]
  exact List.map_congr_left fun j hj => h j (by simpa using hj)

section
variable {P : Program} {S T : TypeId} {z : Value} {k bytes : Nat} {F : Nat → Value} {m : Nat}
theorem run_make_row (hu : P.underlying S = some (.slice T)) (hi : (P.info? T).map (fun i => (i.zero, i.size, i.bytes)) = some (some z, k, bytes)) (hF : ∀ j, j < m * k → z.cells[j % z.cells.size]! = F j) (hm : m ≤ 1000000) (hk : k ≤ 10) (hby : bytes ≤ 1000)
    {o : Oper} {a : Act} {l c : Operand} (ho : o.op = .makeSlice S l c) (hl : a.eval l = .int .i64 (m : Int)) (hc : a.eval c = .int .i64 (m : Int)) (w : World) :
    (execOp a.eval o).run P w = .ok (.value (.slice (some ⟨w.heap.size, 0, none⟩) m m)) (w.alloc (.cells (rowOf (m * k) F) T)) := by
  obtain ⟨i0, hi, hz0, hz1, hz2⟩ := info_parts hi
  have h1 := run_makeSlice (P := P) w S T i0 z hu hi hz0 .i64 .i64 (m : Int) (m : Int) (by omega) (by omega) (by
    rw [hz1, Int.toNat_natCast]
    have := Nat.mul_le_mul hm hk
    omega) (by
    rw [hz2]
    have : ((bytes * m : Nat) : Int) ≤ ((1000 * 1000000 : Nat) : Int) := by exact_mod_cast Nat.mul_le_mul hby hm
    rw [← Int.natCast_mul]
    omega) (by omega)
  rw [hz1] at h1
  simp only [Int.toNat_natCast] at h1
  rw [made_row hF] at h1
  unfold execOp
  simp only [ho, hl, hc, Sem.run_bind, Sem.run_pure, h1, Result.andThen_ok]
theorem wpList_make_row {ops : Array Oper} {rest : List Oper} {o : Oper} {a : Act} {w : World} {Q : Exit → Act → World → Prop} (hu : P.underlying S = some (.slice T)) (hi : (P.info? T).map (fun i => (i.zero, i.size, i.bytes)) = some (some z, k, bytes)) (hF : ∀ j, j < m * k → z.cells[j % z.cells.size]! = F j) (hm : m ≤ 1000000) (hk : k ≤ 10) (hby : bytes ≤ 1000)
    (hgd : o.guard = none) {l c : Operand} (ho : o.op = .makeSlice S l c) (hl : a.eval l = .int .i64 (m : Int)) (hc : a.eval c = .int .i64 (m : Int))
    (h : wpList P ops Q rest (a.put o.dst (.slice (some ⟨w.heap.size, 0, none⟩) m m)) (w.alloc (.cells (rowOf (m * k) F) T))) : wpList P ops Q (o :: rest) a w :=
  wpList_plain hgd fun _ hK => by
    unfold Oper.wp
    simp only [run_make_row hu hi hF hm hk hby ho hl hc, Oper.upon]
    exact hK _ _ h
end

end Go.Proofs.Ytogeccmeaacgnaa
