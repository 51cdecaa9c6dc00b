/-
  A slot in memory, and its power.
-/
import Derived.Test.YtopajipagacmkaaNandState
import Derived.Test.YtopajipagacmkaaDrawKeys
namespace Go.Proofs.Ytopajipagacmkaa
open Go.RowKit
set_option linter.unusedVariables false

/-- A cell: whether it has a key, the key, the epoch. -/
structure Cel where
  h : Bool
  k : Nat → Nat
  e : Nat
def blankC : Cel := ⟨false, zeroN, 0⟩
def celF (c : Cel) : Nat → Value := fun j => if j = 0 then .bool c.h else if j < 17 then .int .u8 (c.k (j - 1) : Nat) else .int .u64 (c.e : Nat)
/-- One that has no key has nothing. -/
def OkC (c : Cel) : Prop := c.h = true ∨ c = blankC
theorem OkC.blank : OkC blankC := .inr rfl
theorem OkC.key (k : Nat → Nat) (e : Nat) : OkC ⟨true, k, e⟩ := .inl rfl
theorem OkC.no {c : Cel} (h : OkC c) (hc : c.h = false) : c = blankC := by
  rcases h with h1 | h1
  · rw [hc] at h1; cases h1
  · exact h1
/-- Another cell i. -/
def updC (c : Nat → Cel) (i : Nat) (x : Cel) : Nat → Cel := fun a => if a = i then x else c a
theorem updC_here (c : Nat → Cel) (i : Nat) (x : Cel) : updC c i x i = x := if_pos rfl
theorem updC_other (c : Nat → Cel) (i j : Nat) (x : Cel) (h : j ≠ i) : updC c i x j = c j := if_neg h
theorem updC_ok {c : Nat → Cel} (h : ∀ i, OkC (c i)) {x : Cel} (hx : OkC x) (i : Nat) : ∀ j, OkC (updC c i x j) := fun j => by
  unfold updC
  split
  · exact hx
  · exact h j

theorem celF_one (c : Cel) (j : Nat) : (celF c j).oneCell' = true := by
  unfold celF
  split
  · rfl
  split <;> rfl
theorem rowOf_oneC {n : Nat} {F : Nat → Value} (h : ∀ j, (F j).oneCell' = true) : (rowOf n F).all (·.oneCell') = true := by
  rw [Array.all_eq_true]
  intro i hi
  rw [rowOf_size] at hi
  have : (rowOf n F)[i]? = some (F i) := rowOf_get n F i hi
  rw [Array.getElem?_eq_getElem (by rw [rowOf_size]; exact hi)] at this
  rw [Option.some.inj this]
  exact h i
theorem celF_all (c : Cel) : (rowOf 18 (celF c)).all (·.oneCell') = true := rowOf_oneC (celF_one c)

/-- A slot, as it lies. -/
def slF (p : Nat) (c : Nat → Cel) : Nat → Value := fun j => if j = 0 then .pointer (some ⟨p, 0, none⟩) else celF (c ((j - 1) / 18)) ((j - 1) % 18)
theorem slF_one (p : Nat) (c : Nat → Cel) (j : Nat) : (slF p c j).oneCell' = true := by
  unfold slF
  split
  · rfl
  · exact celF_one _ _
theorem slF_at (p : Nat) (c : Nat → Cel) (i j : Nat) (hj : j < 18) : slF p c (1 + i * 18 + j) = celF (c i) j := by
  unfold slF
  rw [if_neg (by omega), show (1 + i * 18 + j - 1) / 18 = i by omega, show (1 + i * 18 + j - 1) % 18 = j by omega]
theorem slF_set (p : Nat) (c : Nat → Cel) (i : Nat) (x : Cel) : rowOf 37 (laidV (slF p c) (celF x) (1 + i * 18) 18) = rowOf 37 (slF p (updC c i x)) := rowOf_congr fun j hj => by
  unfold laidV
  by_cases h : 1 + i * 18 ≤ j ∧ j < 1 + i * 18 + 18
  · rw [if_pos h]
    unfold slF
    rw [if_neg (by omega), show (j - 1) / 18 = i by omega, updC_here]
    congr 1
    omega
  · rw [if_neg h]
    unfold slF
    by_cases h0 : j = 0
    · rw [if_pos h0, if_pos h0]
    · rw [if_neg h0, if_neg h0, updC_other _ _ _ _ (by omega)]

/-- What a slot has, and its power. -/
structure SS where
  p : St
  c : Nat → Cel

/-- The blocks of a slot. -/
def footS (pp sp : Nat) : Nat → Prop := fun k => k = pp ∨ k = sp
structure Sl (B : Nat) (w : World) (pp sp : Nat) (S : SS) : Prop where
  pow : RowAt w pp 69 (pw S.p.up S.p.left S.p.keep S.p.junk)
  row : RowAt w sp 74 (rowOf 37 (slF pp S.c))
  low : B ≤ pp ∧ B ≤ sp
  ok : ∀ i, OkC (S.c i)
  byte : S.p.junk < 256
  tall : (S.p.keep : Int) < 9223372036854775808

section
variable {B : Nat} {w w' : World} {pp sp : Nat} {S : SS}
theorem Sl.after (h : Sl B w pp sp S) (hb : Below w.heap.size w w') : Sl B w' pp sp S := ⟨h.pow.below hb h.pow.lt, h.row.below hb h.row.lt, h.low, h.ok, h.byte, h.tall⟩
theorem Sl.apart (h : Sl B w pp sp S) : pp ≠ sp := h.pow.apart h.row (by decide)
theorem Sl.under (h : Sl B w pp sp S) (g : Beside (footS pp sp) w w') (hB : B ≤ w.heap.size) : Below B w w' := g.under (fun k hk => by
  rcases hk with rfl | rfl
  · exact h.low.1
  · exact h.low.2) hB
/-- Another power. -/
theorem Sl.power (h : Sl B w pp sp S) (ha : Apart pp w w') {up : Bool} {left : Int} {keep junk : Nat} (hr : RowAt w' pp 69 (pw up left keep junk)) (hj : junk < 256) (hk : (keep : Int) < 9223372036854775808) :
    Sl B w' pp sp { S with p := { S.p with up := up, left := left, keep := keep, junk := junk } } ∧ Beside (footS pp sp) w w' := by
  have hs : Beside (fun k => k = pp) w w' := .of_apart ha rfl
  exact ⟨⟨hr, h.row.beside hs (fun e => h.apart e.symm), h.low, h.ok, hj, hk⟩, hs.mono fun k e => .inl e⟩
/-- Another cell. -/
theorem Sl.cell (h : Sl B w pp sp S) (i : Nat) {x : Cel} (hx : OkC x) : Sl B (w.setRow sp (rowOf 37 (slF pp (updC S.c i x)))) pp sp { S with c := updC S.c i x } ∧ Beside (footS pp sp) w (w.setRow sp (rowOf 37 (slF pp (updC S.c i x)))) := by
  have hs : Beside (fun k => k = sp) w (w.setRow sp (rowOf 37 (slF pp (updC S.c i x)))) := (Beside.refl (fun k => k = sp) w).setRow (.inl rfl) _
  exact ⟨⟨h.pow.beside hs h.apart, h.row.setRow _, h.low, updC_ok h.ok hx i, h.byte, h.tall⟩, hs.mono fun k e => .inr e⟩

theorem Sl.c0 (h : Sl B w pp sp S) : w.cell? ⟨sp, 0, none⟩ = some (.pointer (some ⟨pp, 0, none⟩)) := by rw [h.row.cell 0 (by decide)]; rfl
theorem Sl.get (h : Sl B w pp sp S) {i : Nat} (hi : i < 2) : ∀ j, j < 18 → (rowOf 37 (slF pp S.c))[1 + i * 18 + j]? = some (celF (S.c i) j) := fun j hj => by
  rw [rowOf_get _ _ _ (by omega), slF_at _ _ _ _ hj]
end

theorem infoCell : (Try.prog.info? 71).map (·.size) = some 18 := by kernel_rfl
theorem infoCell' (f : Nat → Value) : (Try.prog.info? 71).map (·.size) = some (rowOf 18 f).size := by rw [rowOf_size]; exact infoCell
theorem infoSlot (f : Nat → Value) : (Try.prog.info? 74).map (·.size) = some (rowOf 37 f).size := by rw [rowOf_size]; kernel_rfl

/-- A cell held against a blank one. -/
theorem eq_blank_yes (w : World) : (Op.equalIn 10000 71 (.agg (rowOf 18 (celF blankC))) (.agg (rowOf 18 (celF blankC)))).run Try.prog w = .ok true w := by kernel_rfl
theorem eq_blank_no (k : Nat → Nat) (e : Nat) (w : World) : (Op.equalIn 10000 71 (.agg (rowOf 18 (celF ⟨true, k, e⟩))) (.agg (rowOf 18 (celF blankC)))).run Try.prog w = .ok false w := by kernel_rfl
theorem eq_blank {c : Cel} (h : OkC c) (w : World) : (Op.equalIn 10000 71 (.agg (rowOf 18 (celF c))) (.agg (rowOf 18 (celF blankC)))).run Try.prog w = .ok (!c.h) w := by
  rcases h with h1 | h1
  · obtain ⟨b, k, e⟩ := c
    cases h1
    exact eq_blank_no k e w
  · rw [h1]
    exact eq_blank_yes w
theorem run_eq_blank {c : Cel} (h : OkC c) {o : Oper} {a : Act} {x y : Operand} {t : TypeId} (ho : o.op = .binOp .eql 71 x y t) (hx : a.eval x = .agg (rowOf 18 (celF c))) (hy : a.eval y = .agg (rowOf 18 (celF blankC))) (w : World) :
    (execOp a.eval o).run Try.prog w = .ok (.value (.bool (!c.h))) w := by
  have e : (Op.equal 71 (.agg (rowOf 18 (celF c))) (.agg (rowOf 18 (celF blankC)))).run Try.prog w = .ok (!c.h) w := eq_blank h w
  have e2 : (binOp .eql 71 (.agg (rowOf 18 (celF c))) (.agg (rowOf 18 (celF blankC)))).run Try.prog w = .ok (.bool (!c.h)) w := by simp [binOp, e]
  have e3 : (eqGuard .eql 71 x y (.agg (rowOf 18 (celF c))) (.agg (rowOf 18 (celF blankC)))).run Try.prog w = .ok () w := by
    unfold eqGuard
    kernel_rfl
  unfold execOp
  simp only [ho, hx, hy, Sem.run_bind, e2, e3, Result.andThen_ok, Sem.run_pure]

end Go.Proofs.Ytopajipagacmkaa
