/-
  The document's slot, a value of forty cells; contracts: its wrong, change, Write, Erase.
-/
import Derived.Test.YtopajipagacmkaaSlotRead
import Derived.Test.YtopajipagacmkaaNandRefPow
namespace Go.Proofs.Ytopajipagacmkaa
open Go.RowKit
set_option linter.unusedVariables false

/-- The document's slot. -/
def rsF (S : SS) : Nat → Value := fun j => if j < 4 then pwF S.p j else celF (S.c ((j - 4) / 18)) ((j - 4) % 18)
theorem rsF_one (S : SS) (j : Nat) : (rsF S j).oneCell' = true := by
  unfold rsF
  split
  · exact pwF_one _ _
  · exact celF_one _ _
theorem rsF_all (S : SS) : (rowOf 40 (rsF S)).all (·.oneCell') = true := rowOf_oneC (rsF_one S)
theorem rsF_at (S : SS) (i j : Nat) (hj : j < 18) : rsF S (4 + i * 18 + j) = celF (S.c i) j := by
  unfold rsF
  rw [if_neg (by omega), show (4 + i * 18 + j - 4) / 18 = i by omega, show (4 + i * 18 + j - 4) % 18 = j by omega]
theorem rs_pow (S : SS) (p : St) : rowOf 40 (laidV (rsF S) (pwF p) 0 4) = rowOf 40 (rsF { S with p := p }) := rowOf_congr fun j hj => by
  unfold laidV rsF
  by_cases h : j < 4
  · rw [if_pos (by omega), if_pos h, Nat.sub_zero]
  · rw [if_neg (by omega), if_neg h, if_neg h]
theorem rs_cell (S : SS) (i : Nat) (x : Cel) : rowOf 40 (laidV (rsF S) (celF x) (4 + i * 18) 18) = rowOf 40 (rsF { S with c := updC S.c i x }) := rowOf_congr fun j hj => by
  unfold laidV rsF
  by_cases h : 4 + i * 18 ≤ j ∧ j < 4 + i * 18 + 18
  · rw [if_pos h, if_neg (by omega), show (j - 4) / 18 = i by omega]
    show _ = celF (updC S.c i x i) _
    rw [updC_here]
    congr 1
    omega
  · rw [if_neg h]
    by_cases h0 : j < 4
    · rw [if_pos h0, if_pos h0]
    · rw [if_neg h0, if_neg h0]
      show _ = celF (updC S.c i x ((j - 4) / 18)) _
      rw [updC_other _ _ _ _ (by omega)]
theorem rs_pw (S : SS) : ∀ j, j < 4 → (rowOf 40 (rsF S))[0 + j]? = some (pwF S.p j) := fun j hj => by
  rw [Nat.zero_add, rowOf_get _ _ _ (by omega)]
  unfold rsF
  rw [if_pos hj]
theorem rs_key (S : SS) {i : Nat} (hi : i < 2) : ∀ j, j < 16 → (rowOf 40 (rsF S))[4 + i * 18 + 1 + j]? = some (w8 (S.c i).k j) := fun j hj => by
  rw [rowOf_get _ _ _ (by omega), Nat.add_assoc, rsF_at _ _ _ (by omega), celF_key _ _ hj]

def noneSS : SS := ⟨noneS, fun _ => blankC⟩
theorem infoRef (f : Nat → Value) : (Try.prog.info? 37).map (·.size) = some (rowOf 40 f).size := by rw [rowOf_size]; kernel_rfl
theorem infoRef40 : (Try.prog.info? 37).map (·.size) = some 40 := by kernel_rfl
theorem infoRCell : (Try.prog.info? 34).map (·.size) = some 18 := by kernel_rfl
theorem infoRCell' (f : Nat → Value) : (Try.prog.info? 34).map (·.size) = some (rowOf 18 f).size := by rw [rowOf_size]; exact infoRCell
theorem run_allocRef {o : Oper} {a : Act} (ho : o.op = .alloc 37) (w : World) : (execOp a.eval o).run Try.prog w = .ok (.value (.pointer (some ⟨w.heap.size, 0, none⟩))) (w.alloc (.cells (rowOf 40 (rsF noneSS)) 37)) := by
  unfold execOp
  rw [ho]
  kernel_rfl

section
variable {w : World} {q i : Nat} {S : SS} {t : TypeId}
theorem rsOff (h : RowAt w q t (rowOf 40 (rsF S))) : w.cell? ⟨q, 0, none⟩ = some (.bool (!S.p.up)) := h.cell 0 (by decide)
theorem rsKeep (h : RowAt w q t (rowOf 40 (rsF S))) : w.cell? ⟨q, 2, none⟩ = some (.int .i64 (S.p.keep : Nat)) := h.cell 2 (by decide)
theorem rsIs (h : RowAt w q t (rowOf 40 (rsF S))) (hi : i < 2) : w.cell? ⟨q, 4 + i * 18, none⟩ = some (.bool (S.c i).h) := by
  rw [h.cell (4 + i * 18) (by omega)]
  have := rsF_at S i 0 (by decide)
  rw [Nat.add_zero] at this
  rw [this]
  rfl
theorem rsEp (h : RowAt w q t (rowOf 40 (rsF S))) (hi : i < 2) : w.cell? ⟨q, 4 + i * 18 + 17, none⟩ = some (.int .u64 ((S.c i).e : Nat)) := by
  rw [h.cell (4 + i * 18 + 17) (by omega), rsF_at _ _ _ (by decide)]
  rfl
end

/-- What wrong answers. -/
def wrongE (S : SS) (z : Int) : Nat := if S.p.up = false then 4 else if inB z 2 = false then 1 else 0

theorem ne_lit {z x : Int} (h : z ≠ x) : (z != x) = true := by rw [bne_iff_ne]; exact h
set_option maxRecDepth 8000 in
theorem refWrong_any (S : SS) (z : Int) (w : World) :
    Calls Try.prog 30 #[.agg (rowOf 40 (rsF S)), .int .i64 z] w fun e w' => e = .returned (.int .i64 (wrongE S z : Nat)) ∧ Below w.heap.size w w' := by
  have b0 : Below w.heap.size w (w.alloc (.cells (rowOf 40 (rsF S)) 37)) := (Below.refl _ _).alloc (Nat.le_refl _) _
  have r0 := Lib.hid (RowAt.new w 37 (rowOf 40 (rsF S)))
  have c0 := rsOff r0.out
  by_cases hu : S.p.up = false
  · have e1 : Hid (wrongE S z = 4) := if_pos hu
    rw [hu, Bool.not_false] at c0
    clear hu
    go_enter Try.func30, Try.ntmps30
    go_wp2
    go_ret
    exact ⟨by rw [e1.out]; rfl, b0⟩
  have hu' : S.p.up = true := by simpa using hu
  rw [hu', Bool.not_true] at c0
  by_cases hin : inB z 2 = false
  · have e1 : Hid (wrongE S z = 1) := by unfold Hid wrongE; rw [if_neg hu, if_pos hin]
    have hz : ¬ (0 ≤ z ∧ z < ((2 : Nat) : Int)) := fun h => by
      have := (inB_iff z 2).2 h
      rw [hin] at this
      cases this
    have z0 : (z != 0) = true := ne_lit (by omega)
    have z1 : (z != 1) = true := ne_lit (by omega)
    clear hu hu' hin hz
    go_enter Try.func30, Try.ntmps30
    go_wp2
    go_ret
    exact ⟨by rw [e1.out]; rfl, b0⟩
  · have e1 : Hid (wrongE S z = 0) := by unfold Hid wrongE; rw [if_neg hu, if_neg hin]
    have hz := (inB_iff z 2).1 (by simpa using hin)
    clear hu hu' hin
    by_cases h0 : z = 0
    · subst h0
      clear hz
      go_enter Try.func30, Try.ntmps30
      go_wp2
      go_ret
      exact ⟨by rw [e1.out]; rfl, b0⟩
    · have h1 : z = 1 := by omega
      subst h1
      clear hz h0
      go_enter Try.func30, Try.ntmps30
      go_wp2
      go_ret
      exact ⟨by rw [e1.out]; rfl, b0⟩

/-- How a call of the document's ends. -/
def RsEnd (S' : SS) (E : Nat) (w : World) (e : Ending) (w' : World) : Prop := e = .returned (.tuple #[.agg (rowOf 40 (rsF S')), .int .i64 (E : Nat)]) ∧ Below w.heap.size w w'

end Go.Proofs.Ytopajipagacmkaa
