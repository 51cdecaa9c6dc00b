/-
  Contracts: Step, Short. What a copy out of a text, or out of a row, lays into a row.
-/
import Derived.Test.YtedmdojmgccclaaDoorShaStep
import Derived.Test.YtedmdojmgccclaaDoorShaRefStep
import Derived.Test.YtedmdojmgccclaaDoorShaFill
import Derived.Laws.CopyRow
namespace Go.Proofs.YtedmdojmgccclaaDoor
open Go.RowKit

/-- g's first n places laid over f's, from place o on. -/
def laid (f g : Nat → Nat) (o n : Nat) : Nat → Nat := fun j => if o ≤ j ∧ j < o + n then g (j - o) else f j

theorem laid_row (L : Nat) (f g : Nat → Nat) (o n : Nat) (h : o + n ≤ L) (cs : List Value) (hcs : cs = (List.range n).map (w8 g)) :
    ((rowOf L (w8 f)).toList.take o ++ cs ++ (rowOf L (w8 f)).toList.drop (o + n)).toArray = rowOf L (w8 (laid f g o n)) := by
  subst hcs
  unfold rowOf
  congr 1
  apply List.ext_getElem
  · simp
    omega
  · intro j h1 h2
    have hj : j < L := by simpa using h2
    rw [List.getElem_map, List.getElem_range]
    have e0 : ¬ (o ≤ j ∧ j < o + n) → w8 (laid f g o n) j = w8 f j := fun h => by unfold w8 laid; rw [if_neg h]
    have e1 : (o ≤ j ∧ j < o + n) → w8 (laid f g o n) j = w8 g (j - o) := fun h => by unfold w8 laid; rw [if_pos h]
    by_cases c1 : j < o
    · rw [e0 (by omega), List.getElem_append_left (by simp; omega), List.getElem_append_left (by simp; omega)]
      simp
    · by_cases c2 : j < o + n
      · rw [e1 (by omega), List.getElem_append_left (by simp; omega), List.getElem_append_right (by simp; omega)]
        simp
        rw [show min o L = o by omega]
      · rw [e0 (by omega), List.getElem_append_right (by simp; omega)]
        simp
        congr 1
        omega

/-- copy(dst, s), s a text, dst from place o of a row on: the first bytes that fit go over. -/
theorem run_copy_text {P : Program} (w : World) (dT sT ty elem : TypeId) (p o dLen dCap : Nat) (s : ByteArray) (f : Nat → Nat) (L : Nat) (t : TypeId)
    (hu : P.underlying dT = some (.slice elem)) (hs : (P.info? elem).map (·.size) = some 1) (hg : RowAt w p t (rowOf L (w8 f))) (n : Nat) (hn : n = min s.size dLen) (hfit : o + n ≤ L) :
    (Builtin.copy_ #[dT, sT] ty #[.slice (some ⟨p, o, none⟩) dLen dCap, .string s]).run P w = .ok (goInt n) (w.setRow p (rowOf L (w8 (laid f (byteL s.data.toList) o n)))) := by
  have hsz : s.data.toList.length = s.size := by simp
  have hcs : List.take n (List.map (fun b : UInt8 => Value.int IntKind.u8 (b.toNat : Int)) s.data.toList) = (List.range n).map (w8 (byteL s.data.toList)) := by
    apply List.ext_getElem
    · simp; omega
    · intro j h1 h2
      have hj : j < n := by simpa using h2
      simp [w8, byteL]
      rw [Array.getElem?_eq_getElem (by show j < s.data.size; have : s.data.size = s.size := rfl; omega)]
      rfl
  have hlen : ((List.range n).map (w8 (byteL s.data.toList))).length = n := by simp
  have hst := run_storeCells_at P p o t ((List.range n).map (w8 (byteL s.data.toList))) 0 (rowOf L (w8 f)) w hg (by rw [hlen, rowOf_size]; simpa using hfit) (w8_one _ _)
  rw [hlen] at hst
  simp only [Nat.add_zero] at hst
  rw [laid_row L f (byteL s.data.toList) o n hfit _ rfl] at hst
  cases hq : P.info? elem with
  | none => simp [hq] at hs
  | some i =>
    have hmin : Nat.min s.size dLen = n := hn.symm
    simp [Builtin.copy_, run_underlying hu, Builtin.lenOf, Builtin.firstCells, sizeOf, typeInfo, hq, hmin]
    rw [hcs, hst]
    simp [Result.andThen]

theorem wp_copy_known {P : Program} (w : World) {o : Oper} {a : Act} {K : Act → World → Prop} {Q : Exit → Act → World → Prop} (d s : Operand) (t t' : TypeId)
    (ho : o.op = .call { callee := .builtin .copy, args := #[d, s], argTypes := #[t, t'] }) (v u : Value) (hd : a.eval d = v) (hs : a.eval s = u) {v' : Value} {w' : World}
    (hr : (Builtin.copy_ #[t, t'] o.type #[v, u]).run P w = .ok v' w') (h : K (a.put o.dst v') w') : o.wp P a w K Q := by
  unfold Oper.wp execOp
  simp only [ho, resolve, invoke, builtin, Sem.run_bind, Sem.run_pure, Result.andThen_ok, List.map_toArray, List.map_cons, List.map_nil, hd, hs, hr]
  exact h

theorem wpList_copy_known {P : Program} (w : World) {ops : Array Oper} {rest : List Oper} {o : Oper} {a : Act} {Q : Exit → Act → World → Prop} (hgd : o.guard = none) (d s : Operand) (t t' : TypeId)
    (ho : o.op = .call { callee := .builtin .copy, args := #[d, s], argTypes := #[t, t'] }) (v u : Value) (hd : a.eval d = v) (hs : a.eval s = u) {v' : Value} {w' : World}
    (hr : (Builtin.copy_ #[t, t'] o.type #[v, u]).run P w = .ok v' w') (h : wpList P ops Q rest (a.put o.dst v') w') : wpList P ops Q (o :: rest) a w :=
  wpList_plain hgd fun _ hK => wp_copy_known w d s t t' ho v u hd hs hr (hK _ _ h)

theorem laid_all (f g : Nat → Nat) (L : Nat) : rowOf L (w8 (laid f g 0 L)) = rowOf L (w8 g) :=
  rowOf_congr fun j hj => by unfold w8 laid; rw [if_pos (by omega), Nat.sub_zero]

/-- copy(dst, src), both rows: the first bytes that fit go over. -/
theorem run_copy_bytes {P : Program} (w : World) (dT sT ty elem : TypeId) (p q dLen dCap sLen sCap : Nat) (f g : Nat → Nat) (L M : Nat) (t t' : TypeId)
    (hu : P.underlying dT = some (.slice elem)) (hs : (P.info? elem).map (·.size) = some 1) (hg : RowAt w p t (rowOf L (w8 f))) (hq : RowAt w q t' (rowOf M (w8 g))) (n : Nat) (hn : n = min sLen dLen) (hfit : n ≤ L) (hM : n ≤ M) :
    (Builtin.copy_ #[dT, sT] ty #[.slice (some ⟨p, 0, none⟩) dLen dCap, .slice (some ⟨q, 0, none⟩) sLen sCap]).run P w = .ok (goInt n) (w.setRow p (rowOf L (w8 (laid f g 0 n)))) := by
  have hlen : ((List.range n).map (w8 g)).length = n := by simp
  have h := run_copy_row (P := P) w dT sT ty elem p 0 dLen dCap ⟨q, 0, none⟩ sLen sCap (rowOf L (w8 f)) t ((List.range n).map (w8 g)) hu hs hg (by rw [hlen]; exact hn) (fun j v hj => by
    have hjn : j < n := by
      have := (List.getElem?_eq_some_iff.1 hj).1
      simpa using this
    rw [List.getElem?_map, List.getElem?_range hjn] at hj
    have hv : w8 g j = v := by simpa using hj
    have ha : (⟨q, 0, none⟩ : Addr).add j = ⟨q, j, none⟩ := by unfold Addr.add; split <;> simp_all
    rw [ha, hq.cell j (by omega), hv]) (by rw [hlen, rowOf_size]; omega) (w8_one _ _)
  rw [hlen, laid_row L f g 0 n (by omega) _ rfl] at h
  exact h

set_option maxHeartbeats 400000 in
set_option maxRecDepth 8000 in
theorem short_any (g : Nat → Nat) (w : World) :
    Calls Tryd.prog 24 #[.agg (rowOf 32 (w8 g))] w fun e w' => e = .returned (.agg (rowOf 16 (w8 g))) ∧ Below w.heap.size w w' := by
  have sl1 := run_slice_all (P := Tryd.prog) Tryd.underlying27 sz8 (w.heap.size + 1 + 1)
  have sl2 := run_slice_all (P := Tryd.prog) Tryd.underlying59 sz8 w.heap.size
  go_enter Tryd.func24, Tryd.ntmps24
  go_wp2
  rw [← z8_16]
  refine wp_region_still_tail 2 (by kernel_rfl) (by kernel_rfl) ?_
  change wpStill _ _ (World.drew _) (fun a' => wpList _ _ _ _ a' (World.drew _)) _ _
  have r0 : Hid (RowAt (World.drew (((w.alloc (.cells (rowOf 32 (w8 g)) 59)).alloc (.cells (rowOf 16 (w8 zeroN)) 27)).alloc (.cells (rowOf 16 (w8 zeroN)) 27))) w.heap.size 59 (rowOf 32 (w8 g))) := ((RowAt.new _ _ _).alloc _).alloc _
  have r1 : Hid (RowAt (World.drew (((w.alloc (.cells (rowOf 32 (w8 g)) 59)).alloc (.cells (rowOf 16 (w8 zeroN)) 27)).alloc (.cells (rowOf 16 (w8 zeroN)) 27))) (w.heap.size + 1) 27 (rowOf 16 (w8 zeroN))) := row_new1 w _ _ _ _
  have r2 : Hid (RowAt (World.drew (((w.alloc (.cells (rowOf 32 (w8 g)) 59)).alloc (.cells (rowOf 16 (w8 zeroN)) 27)).alloc (.cells (rowOf 16 (w8 zeroN)) 27))) (w.heap.size + 1 + 1) 27 (rowOf 16 (w8 zeroN))) := row_new2 w _ _ _ _
  have b0 : Below w.heap.size w (World.drew (((w.alloc (.cells (rowOf 32 (w8 g)) 59)).alloc (.cells (rowOf 16 (w8 zeroN)) 27)).alloc (.cells (rowOf 16 (w8 zeroN)) 27))) := ((((Below.refl _ _).alloc (Nat.le_refl _) _).alloc (by simp) _).alloc (by simp; omega) _).drew
  generalize World.drew _ = w1 at *
  have cp := Lib.hid (run_copy_bytes (P := Tryd.prog) w1 54 54 3 5 (w.heap.size + 1 + 1) w.heap.size 16 16 32 32 zeroN g 16 32 27 59 Tryd.underlying54 sz8 r2.out r0.out 16 rfl (by decide) (by decide))
  rw [laid_all] at cp
  simp only [List.take_succ_cons, List.take_zero, List.drop_succ_cons, List.drop_zero]
  refine wpStill_of_quiet _ _ ?_
  repeat (first | go_big_quiet_skip | (go_big_quiet_want; go_big_quiet_op; go_big_quiet_on))
  refine wpQuiet_nil ?_
  clear sl1 sl2
  have hr2 := Lib.hid (r2.out.setRow (rowOf 16 (w8 g)))
  have hr1 := Lib.hid (r1.out.setRowOther (w.heap.size + 1 + 1) (rowOf 16 (w8 g)) (by omega))
  have b2 := below_setRow' b0 (show w.heap.size ≤ w.heap.size + 1 + 1 by omega) (rowOf 16 (w8 g))
  refine wpList_copy_known _ rfl _ _ 54 54 rfl _ _ rfl rfl cp.out ?_
  generalize World.setRow _ _ _ = w2 at *
  clear cp b0 r0 r1 r2
  go_wp2_with (first | (refine wpList_load_row rfl 27 _ rfl (w.heap.size + 1 + 1) rfl 27 _ (0, 0) _ hr2.out Tryd.underlying27 rfl (info_key _) ?_) | (refine wpList_store_row rfl 27 _ _ rfl (w.heap.size + 1) (rowOf 16 (w8 g)) rfl rfl 27 _ hr1.out (info_key _) (by rw [rowOf_size, rowOf_size]) (rowOf_cells8 _ _) ?_))
  refine bodyPost_ret (v := .agg (rowOf 16 (w8 g))) ?_ rfl ⟨rfl, below_setRow' b2 (by omega) _⟩
  exact results_cell_row Tryd.results24 _ _ (w.heap.size + 1) 27 (rowOf 16 (w8 g)) (0, 0) _ rfl (hr1.out.setRow _) Tryd.underlying27 rfl (info_key _)

end Go.Proofs.YtedmdojmgccclaaDoor
