/-
  What a copy out of a text, or out of a row, lays into a row.
-/
import Derived.Test.YtcglbbkphgdnmaaDoorRows1
import Derived.Test.YtcglbbkphgdnmaaDoorShaMath
import Derived.Laws.CopyRow
namespace Go.Proofs.YtcglbbkphgdnmaaDoor
open Go.RowKit

/-- The bytes of a text. -/
def byteL (l : List UInt8) : Nat → Nat := fun j => (l.getD j 0).toNat

/-- g's first n places laid over f's, from place o on. -/
def laid (f g : Nat → Nat) (o n : Nat) : Nat → Nat := fun j => if o ≤ j ∧ j < o + n then g (j - o) else f j

theorem laid_row (L : Nat) (f g : Nat → Nat) (o n : Nat) (h : o + n ≤ L) (cs : List Value) (hcs : cs = (List.range n).map (w8 g)) :
    ((rowOf L (w8 f)).toList.take o ++ cs ++ (rowOf L (w8 f)).toList.drop (o + n)).toArray = rowOf L (w8 (laid f g o n)) := by
  subst hcs
  unfold rowOf
  congr 1
  apply List.ext_getElem
  · simp
    omega
  · intro j h1 h2
    have hj : j < L := by simpa using h2
    rw [List.getElem_map, List.getElem_range]
    have e0 : ¬ (o ≤ j ∧ j < o + n) → w8 (laid f g o n) j = w8 f j := fun h => by unfold w8 laid; rw [if_neg h]
    have e1 : (o ≤ j ∧ j < o + n) → w8 (laid f g o n) j = w8 g (j - o) := fun h => by unfold w8 laid; rw [if_pos h]
    by_cases c1 : j < o
    · rw [e0 (by omega), List.getElem_append_left (by simp; omega), List.getElem_append_left (by simp; omega)]
      simp
    · by_cases c2 : j < o + n
      · rw [e1 (by omega), List.getElem_append_left (by simp; omega), List.getElem_append_right (by simp; omega)]
        simp
        rw [show min o L = o by omega]
      · rw [e0 (by omega), List.getElem_append_right (by simp; omega)]
        simp
        congr 1
        omega

/-- copy(dst, s), s a text, dst from place o of a row on: the first bytes that fit go over. -/
theorem run_copy_text {P : Program} (w : World) (dT sT ty elem : TypeId) (p o dLen dCap : Nat) (s : ByteArray) (f : Nat → Nat) (L : Nat) (t : TypeId)
    (hu : P.underlying dT = some (.slice elem)) (hs : (P.info? elem).map (·.size) = some 1) (hg : RowAt w p t (rowOf L (w8 f))) (n : Nat) (hn : n = min s.size dLen) (hfit : o + n ≤ L) :
    (Builtin.copy_ #[dT, sT] ty #[.slice (some ⟨p, o, none⟩) dLen dCap, .string s]).run P w = .ok (goInt n) (w.setRow p (rowOf L (w8 (laid f (byteL s.data.toList) o n)))) := by
  have hsz : s.data.toList.length = s.size := by simp
  have hcs : List.take n (List.map (fun b : UInt8 => Value.int IntKind.u8 (b.toNat : Int)) s.data.toList) = (List.range n).map (w8 (byteL s.data.toList)) := by
    apply List.ext_getElem
    · simp; omega
    · intro j h1 h2
      have hj : j < n := by simpa using h2
      simp [w8, byteL]
      rw [Array.getElem?_eq_getElem (by show j < s.data.size; have : s.data.size = s.size := rfl; omega)]
      rfl
  have hlen : ((List.range n).map (w8 (byteL s.data.toList))).length = n := by simp
  have hst := run_storeCells_at P p o t ((List.range n).map (w8 (byteL s.data.toList))) 0 (rowOf L (w8 f)) w hg (by rw [hlen, rowOf_size]; simpa using hfit) (w8_one _ _)
  rw [hlen] at hst
  simp only [Nat.add_zero] at hst
  rw [laid_row L f (byteL s.data.toList) o n hfit _ rfl] at hst
  cases hq : P.info? elem with
  | none => simp [hq] at hs
  | some i =>
    have hmin : Nat.min s.size dLen = n := hn.symm
    simp [Builtin.copy_, run_underlying hu, Builtin.lenOf, Builtin.firstCells, sizeOf, typeInfo, hq, hmin]
    rw [hcs, hst]
    simp [Result.andThen]

theorem wp_copy_known {P : Program} (w : World) {o : Oper} {a : Act} {K : Act → World → Prop} {Q : Exit → Act → World → Prop} (d s : Operand) (t t' : TypeId)
    (ho : o.op = .call { callee := .builtin .copy, args := #[d, s], argTypes := #[t, t'] }) (v u : Value) (hd : a.eval d = v) (hs : a.eval s = u) {v' : Value} {w' : World}
    (hr : (Builtin.copy_ #[t, t'] o.type #[v, u]).run P w = .ok v' w') (h : K (a.put o.dst v') w') : o.wp P a w K Q := by
  unfold Oper.wp execOp
  simp only [ho, resolve, invoke, builtin, Sem.run_bind, Sem.run_pure, Result.andThen_ok, List.map_toArray, List.map_cons, List.map_nil, hd, hs, hr]
  exact h

theorem wpList_copy_known {P : Program} (w : World) {ops : Array Oper} {rest : List Oper} {o : Oper} {a : Act} {Q : Exit → Act → World → Prop} (hgd : o.guard = none) (d s : Operand) (t t' : TypeId)
    (ho : o.op = .call { callee := .builtin .copy, args := #[d, s], argTypes := #[t, t'] }) (v u : Value) (hd : a.eval d = v) (hs : a.eval s = u) {v' : Value} {w' : World}
    (hr : (Builtin.copy_ #[t, t'] o.type #[v, u]).run P w = .ok v' w') (h : wpList P ops Q rest (a.put o.dst v') w') : wpList P ops Q (o :: rest) a w :=
  wpList_plain hgd fun _ hK => wp_copy_known w d s t t' ho v u hd hs hr (hK _ _ h)

theorem laid_all (f g : Nat → Nat) (L : Nat) : rowOf L (w8 (laid f g 0 L)) = rowOf L (w8 g) :=
  rowOf_congr fun j hj => by unfold w8 laid; rw [if_pos (by omega), Nat.sub_zero]

/-- copy(dst, src), both rows: the first bytes that fit go over. -/
theorem run_copy_bytes {P : Program} (w : World) (dT sT ty elem : TypeId) (p q dLen dCap sLen sCap : Nat) (f g : Nat → Nat) (L M : Nat) (t t' : TypeId)
    (hu : P.underlying dT = some (.slice elem)) (hs : (P.info? elem).map (·.size) = some 1) (hg : RowAt w p t (rowOf L (w8 f))) (hq : RowAt w q t' (rowOf M (w8 g))) (n : Nat) (hn : n = min sLen dLen) (hfit : n ≤ L) (hM : n ≤ M) :
    (Builtin.copy_ #[dT, sT] ty #[.slice (some ⟨p, 0, none⟩) dLen dCap, .slice (some ⟨q, 0, none⟩) sLen sCap]).run P w = .ok (goInt n) (w.setRow p (rowOf L (w8 (laid f g 0 n)))) := by
  have hlen : ((List.range n).map (w8 g)).length = n := by simp
  have h := run_copy_row (P := P) w dT sT ty elem p 0 dLen dCap ⟨q, 0, none⟩ sLen sCap (rowOf L (w8 f)) t ((List.range n).map (w8 g)) hu hs hg (by rw [hlen]; exact hn) (fun j v hj => by
    have hjn : j < n := by
      have := (List.getElem?_eq_some_iff.1 hj).1
      simpa using this
    rw [List.getElem?_map, List.getElem?_range hjn] at hj
    have hv : w8 g j = v := by simpa using hj
    have ha : (⟨q, 0, none⟩ : Addr).add j = ⟨q, j, none⟩ := by unfold Addr.add; split <;> simp_all
    rw [ha, hq.cell j (by omega), hv]) (by rw [hlen, rowOf_size]; omega) (w8_one _ _)
  rw [hlen, laid_row L f g 0 n (by omega) _ rfl] at h
  exact h

end Go.Proofs.YtcglbbkphgdnmaaDoor
