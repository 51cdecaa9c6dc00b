/-
  The law SlotActs: both slots side by side; an act, as it lies.
-/
import Derived.Test.YtopajipagacmkaaSlotPow
import Derived.Test.YtopajipagacmkaaSlotOpen
import Derived.Test.YtopajipagacmkaaSlotRefRead
import Derived.Test.YtopajipagacmkaaSlotRefHolds
import Derived.Test.YtopajipagacmkaaKeysV
import Derived.Test.YtopajipagacmkaaSameYes
namespace Go.Proofs.Ytopajipagacmkaa
open Go.RowKit
set_option linter.unusedVariables false

/-- A slot and the document's slot, side by side. -/
structure Bs (B : Nat) (w : World) (pp sp rp : Nat) (S : SS) : Prop where
  sl : Sl B w pp sp S
  row : RowAt w rp 37 (rowOf 40 (rsF S))
  base : B ≤ rp
theorem Bs.after {B : Nat} {w w' : World} {pp sp rp : Nat} {S : SS} (h : Bs B w pp sp rp S) (hb : Below w.heap.size w w') : Bs B w' pp sp rp S := ⟨h.sl.after hb, h.row.below hb h.row.lt, h.base⟩
/-- A row of another type turned. -/
theorem Sl.side {B : Nat} {w w' : World} {pp sp q : Nat} {S : SS} (h : Sl B w pp sp S) (g : Beside (fun k => k = q) w w') (h1 : pp ≠ q) (h2 : sp ≠ q) : Sl B w' pp sp S := ⟨h.pow.beside g h1, h.row.beside g h2, h.low, h.ok, h.byte, h.tall⟩
theorem Bs.lay {B : Nat} {w : World} {pp sp rp : Nat} {S : SS} {cs : Array Value} (h : Sl B w pp sp S) (hr : RowAt w rp 37 cs) (hB : B ≤ rp) : Bs B (w.setRow rp (rowOf 40 (rsF S))) pp sp rp S :=
  ⟨h.side ((Beside.refl (fun k => k = rp) w).setRow (.inl rfl) _) (h.pow.apart hr (by decide)) (h.row.apart hr (by decide)), hr.setRow _, hB⟩
theorem Sl.cellSide {B : Nat} {w : World} {pp sp rp : Nat} {S : SS} {cs : Array Value} (h : Sl B w pp sp S) (hr : RowAt w rp 37 cs) (j : Nat) (v : Value) : Sl B (w.setCell ⟨rp, j, none⟩ v) pp sp S :=
  h.side ((Beside.refl (fun k => k = rp) w).setCell (.inl rfl) v) (h.pow.apart hr (by decide)) (h.row.apart hr (by decide))

theorem rs_set {S S' : SS} {i : Nat} {v : Value} (hi : i < 4) (hp : ∀ j, j < 4 → (if j = i then v else pwF S.p j) = pwF S'.p j) (hc : S.c = S'.c) : (rowOf 40 (rsF S)).setIfInBounds i v = rowOf 40 (rsF S') := by
  rw [rowOf_set]
  refine rowOf_congr fun j hj => ?_
  unfold rsF
  by_cases h : j < 4
  · rw [if_pos h, if_pos h]
    exact hp j h
  · rw [if_neg (by omega), if_neg h, if_neg h, hc]
theorem rs_cut (S : SS) : (rowOf 40 (rsF S)).setIfInBounds 0 (.bool true) = rowOf 40 (rsF (cutSS S)) := rs_set (by decide) (fun j hj => match j, hj with
  | 0, _ => rfl
  | 1, _ => rfl
  | 2, _ => rfl
  | 3, _ => rfl) rfl
def upSS (S : SS) : SS := { S with p := { S.p with up := true } }
theorem rs_up (S : SS) : (rowOf 40 (rsF S)).setIfInBounds 0 (.bool false) = rowOf 40 (rsF (upSS S)) := rs_set (by decide) (fun j hj => match j, hj with
  | 0, _ => rfl
  | 1, _ => rfl
  | 2, _ => rfl
  | 3, _ => rfl) rfl
theorem rs_on (S : SS) : (rowOf 40 (rsF (upSS S))).setIfInBounds 1 (.int .i64 0) = rowOf 40 (rsF (onSS S)) := rs_set (by decide) (fun j hj => match j, hj with
  | 0, _ => rfl
  | 1, _ => rfl
  | 2, _ => rfl
  | 3, _ => rfl) rfl

/-- Act i. -/
def actR (X : SActs) (i : Nat) : Nat → Value := fun j => actW X (i * 21 + j)
def zeroA : SActs := ⟨fun _ _ => 0, fun _ _ => 0, fun _ => 0⟩
theorem actW_one (X : SActs) (j : Nat) : (actW X j).oneCell' = true := by
  unfold actW
  split
  · rfl
  split <;> rfl
theorem actR_all (X : SActs) (i : Nat) : (rowOf 21 (actR X i)).all (·.oneCell') = true := rowOf_oneC fun j => actW_one X _
theorem actR_z (X : SActs) (i j : Nat) (hj : j < 4) : actR X i j = .int .i64 (X.z i j) := by
  unfold actR actW
  rw [show (i * 21 + j) % 21 = j by omega, show (i * 21 + j) / 21 = i by omega, if_pos hj]
theorem actR_k (X : SActs) (i j : Nat) (hj : j < 16) : actR X i (4 + j) = w8 (X.k i) j := by
  unfold actR actW w8
  rw [show (i * 21 + (4 + j)) % 21 = 4 + j by omega, show (i * 21 + (4 + j)) / 21 = i by omega, if_neg (by omega), if_pos (by omega), show 4 + j - 4 = j by omega]
theorem actR_e (X : SActs) (i : Nat) : actR X i 20 = .int .u64 (X.e i : Nat) := by
  unfold actR actW
  rw [show (i * 21 + 20) % 21 = 20 by omega, show (i * 21 + 20) / 21 = i by omega, if_neg (by omega), if_neg (by omega)]
theorem act_key (X : SActs) (i : Nat) : ∀ j, j < 16 → (rowOf 21 (actR X i))[4 + j]? = some (w8 (X.k i) j) := fun j hj => by
  rw [rowOf_get _ _ _ (by omega), actR_k _ _ _ hj]
section
variable {w : World} {q i : Nat} {X : SActs} {t : TypeId}
theorem actZ (h : RowAt w q t (rowOf 21 (actR X i))) (j : Nat) (hj : j < 4) : w.cell? ⟨q, j, none⟩ = some (.int .i64 (X.z i j)) := by
  rw [h.cell j (by omega), actR_z _ _ _ hj]
theorem actE (h : RowAt w q t (rowOf 21 (actR X i))) : w.cell? ⟨q, 20, none⟩ = some (.int .u64 (X.e i : Nat)) := by
  rw [h.cell 20 (by omega), actR_e]
end

theorem infoAct (f : Nat → Value) : (Try.prog.info? 39).map (·.size) = some (rowOf 21 f).size := by rw [rowOf_size]; kernel_rfl
theorem infoAct21 : (Try.prog.info? 39).map (·.size) = some 21 := by kernel_rfl
theorem el_act : Try.prog.elem 22 = 39 := by kernel_rfl
theorem run_allocAct {o : Oper} {a : Act} (ho : o.op = .alloc 39) (w : World) : (execOp a.eval o).run Try.prog w = .ok (.value (.pointer (some ⟨w.heap.size, 0, none⟩))) (w.alloc (.cells (rowOf 21 (actR zeroA 0)) 39)) := by
  unfold execOp
  rw [ho]
  kernel_rfl
theorem at_act11 {w0 : World} {al : Option Addr} {N c q : Nat} {F : Nat → Value} (h : SeesV w0 al (N * 21) F) (hq : q < N) {o : Oper} {a : Act} {x y : Operand} (ho : o.op = .indexAddr 22 x y) (hx : a.eval x = .slice al N c) {z : Int} (hy : a.eval y = .int .i64 z) (hz : z = (q : Int)) (w : World) :
    (execOp a.eval o).run Try.prog w = .ok (.value (.pointer (some (elV al (q * 21))))) w := run_index_v Try.underlying22 el_act infoAct21 h (by decide) hq ho hx hy hz w
theorem load_act11 {w : World} {al : Option Addr} {N q : Nat} {X : SActs} (h : SeesV w al (N * 21) (actW X)) (hq : q < N) {o : Oper} {a : Act} {x : Operand} (ho : o.op = .load 39 x) (hx : a.eval x = .pointer (some (elV al (q * 21)))) :
    (execOp a.eval o).run Try.prog w = .ok (.value (.agg (rowOf 21 (actR X q)))) w := by
  obtain ⟨ad, rfl, _⟩ := h.some (show 0 < N * 21 by omega)
  unfold execOp
  simp only [ho, hx, Instr.loadAt, Instr.sureAddr, Sem.run_bind, Sem.run_pure, Result.andThen_ok]
  rw [run_loadVar_cells w _ _ _ 21 (actR X q) (fun j hj => ?_) Try.underlying39 rfl infoAct21]
  · rfl
  · show w.cell? ((ad.add (q * 21)).add j) = _
    rw [Deep.add_add]
    obtain ⟨ad2, e2, _, hc⟩ := h (q * 21 + j) (by omega)
    cases e2
    exact hc

/-- Up held against Off. -/
theorem run_up_off (b : Bool) {o : Oper} {a : Act} {x y : Operand} {t : TypeId} (ho : o.op = .binOp .eql 4 x y t) (hx : a.eval x = .bool b) (hy : a.eval y = .bool (!b)) (w : World) : (execOp a.eval o).run Try.prog w = .ok (.value (.bool false)) w := by
  cases b
  · unfold execOp
    simp only [ho, hx, hy]
    simp [go_sem]
  · unfold execOp
    simp only [ho, hx, hy]
    simp [go_sem]
/-- What Read answers, with letters for its parts. -/
theorem readVS_form (S : SS) (z : Int) : ∃ (k : Nat → Nat) (n e : Nat), readVS S z = #[.agg (rowOf 16 (w8 k)), .int .u64 (n : Nat), .int .i64 (e : Nat)] := ⟨_, _, _, rfl⟩

/-- The class of worlds of a region that asks both. -/
def AskC (B : Nat) (w0 : World) (pp sp rp : Nat) (S : SS) (w : World) : Prop := Bs B w pp sp rp S ∧ Below w0.heap.size w0 w
theorem AskC.after {B : Nat} {w0 : World} {pp sp rp : Nat} {S : SS} {w w' : World} (hb : Below w.heap.size w w') (h : AskC B w0 pp sp rp S w) : AskC B w0 pp sp rp S w' := ⟨h.1.after hb, h.2.trans (hb.mono h.2.size)⟩

end Go.Proofs.Ytopajipagacmkaa
