/-
  Contract: pageText.
-/
import Derived.Test.YtogeccmeaacgnaaNandWorld
import Derived.Test.YtogeccmeaacgnaaWant
namespace Go.Proofs.Ytogeccmeaacgnaa
open Go.RowKit
set_option linter.unusedVariables false

/-- The bytes of a page. -/
def pageN (s : ByteArray) (keep junk : Nat) : Nat → Nat := fun j => if j < keep then byteL s.data.toList j else junk
/-- The page. -/
def pageT (s : ByteArray) (keep junk : Nat) : ByteArray := bs (listB 256 (pageN s keep junk))
theorem pageT_size (s : ByteArray) (keep junk : Nat) : (pageT s keep junk).size = 256 := by unfold pageT; rw [bs_size, listB_length]

theorem byteL_small (l : List UInt8) (j : Nat) : byteL l j < 256 := (l.getD j 0).toNat_lt
theorem byteL_end (l : List UInt8) (j : Nat) (h : l.length ≤ j) : byteL l j = 0 := by
  unfold byteL
  rw [List.getD_eq_getElem?_getD, List.getElem?_eq_none h]
  rfl
theorem pageN_byte {s : ByteArray} {keep junk : Nat} (h : junk < 256) : Bytes (pageN s keep junk) := fun j => by
  unfold pageN
  split
  · exact byteL_small _ _
  · exact h

theorem sz8' : (Try.prog.info? 5).map (·.size) = some 1 := by kernel_rfl
theorem info256 (f : Nat → Value) : (Try.prog.info? 100).map (·.size) = some (rowOf 256 f).size := by rw [rowOf_size]; kernel_rfl

theorem run_alloc256 {o : Oper} {a : Act} (ho : o.op = .alloc 100) (w : World) : (execOp a.eval o).run Try.prog w = .ok (.value (.pointer (some ⟨w.heap.size, 0, none⟩))) (w.alloc (.cells (rowOf 256 (w8 zeroN)) 100)) := by
  unfold execOp
  rw [ho]
  kernel_rfl

theorem wpList_new {P : Program} {ops : Array Oper} {rest : List Oper} {o : Oper} {a : Act} {w w' : World} {Q : Exit → Act → World → Prop} {v : Value} (hgd : o.guard = none) (hr : (execOp a.eval o).run P w = .ok (.value v) w')
    (h : wpList P ops Q rest (a.put o.dst v) w') : wpList P ops Q (o :: rest) a w :=
  wpList_plain hgd fun _ hK => by
    unfold Oper.wp
    simp only [hr, Oper.upon]
    exact hK _ _ h

/-- The part behind place k that is junk by now. -/
def fillN (s : ByteArray) (k i junk : Nat) : Nat → Nat := fun j => if k ≤ j ∧ j < i then junk else byteL s.data.toList j

set_option maxHeartbeats 1000000 in
set_option maxRecDepth 8000 in
theorem pageText_any (s : ByteArray) (hs : s.size ≤ 256) (keep junk : Nat) (hk : (keep : Int) < 9223372036854775808) (hj : junk < 256) (w : World) :
    Calls Try.prog 39 #[.string s, .int .i64 (keep : Nat), .int .u8 (junk : Nat)] w fun e w' => e = .returned (.string (pageT s keep junk)) ∧ Below w.heap.size w w' := by
  have b0 : Below w.heap.size w (w.alloc (.cells (rowOf 256 (w8 zeroN)) 100)) := (Below.refl _ _).alloc (Nat.le_refl _) _
  have r0 := Lib.hid (RowAt.new w 100 (rowOf 256 (w8 zeroN)))
  have sl := run_slice_all (P := Try.prog) Try.underlying100 sz8' w.heap.size
  have cp := Lib.hid (run_copy_text (P := Try.prog) (w.alloc (.cells (rowOf 256 (w8 zeroN)) 100)) 65 9 3 5 w.heap.size 0 256 256 s zeroN 256 100 Try.underlying65 sz8' r0.out s.size (by omega) (by omega))
  have e0 : rowOf 256 (w8 (laid zeroN (byteL s.data.toList) 0 s.size)) = rowOf 256 (w8 (fillN s keep keep junk)) := rowOf_congr fun j _ => by
    unfold w8 laid fillN
    rw [if_neg (show ¬ (keep ≤ j ∧ j < keep) by omega)]
    by_cases c : 0 ≤ j ∧ j < 0 + s.size
    · rw [if_pos c, Nat.sub_zero]
    · rw [if_neg c, byteL_end _ _ (by have : s.data.toList.length = s.size := by simp
                                      omega)]
      rfl
  rw [e0] at cp
  have r1 := Lib.hid (r0.out.setRow (rowOf 256 (w8 (fillN s keep keep junk))))
  have b1 : Below w.heap.size w ((w.alloc (.cells (rowOf 256 (w8 zeroN)) 100)).setRow w.heap.size (rowOf 256 (w8 (fillN s keep keep junk)))) := below_setRow' b0 (Nat.le_refl _) _
  clear e0 r0 b0
  go_enter Try.func39, Try.ntmps39
  go_wp2_with (first | (refine wpList_new rfl (run_alloc256 rfl _) ?_) | (refine wpList_copy_known _ rfl _ _ _ _ rfl _ _ rfl rfl cp.out ?_))
  clear cp sl
  generalize (w.alloc (.cells (rowOf 256 (w8 zeroN)) 100)).setRow w.heap.size (rowOf 256 (w8 (fillN s keep keep junk))) = w1 at *
  go_loopw [8] (fun v wr => ∃ i : Nat, v = .int .i64 i ∧ keep ≤ i ∧ (i = keep ∨ i ≤ 256) ∧ Hid (RowAt wr w.heap.size 100 (rowOf 256 (w8 (fillN s keep i junk)))) ∧ Below w.heap.size w wr)
    (fun v _ => 256 - (intOf v).toNat)
  case atStart => exact ⟨keep, rfl, Nat.le_refl _, .inl rfl, r1, b1⟩
  case round =>
    clear r1 b1
    obtain ⟨i, rfl, hki, hi, hr, hbl⟩ := hrel
    have hi' := Lib.hid hi
    have hki' := Lib.hid hki
    have hk' := Lib.hid hk
    clear hi hk
    by_cases hlt : i < 256
    · have c0 := hr.out.cell i hlt
      generalize w8 (fillN s keep i junk) i = u at c0
      have f0 := hr.out.free i
      have e3 : Hid ((rowOf 256 (w8 (fillN s keep i junk))).setIfInBounds i (.int .u8 ((junk : Nat) : Int)) = rowOf 256 (w8 (fillN s keep (i + 1) junk))) := by
        unfold Hid
        rw [rowOf_upd8]
        refine rowOf_congr fun j hj2 => ?_
        unfold w8 upd fillN
        congr 2
        by_cases c : j = i
        · subst c
          rw [if_pos rfl, if_pos (by omega)]
        · rw [if_neg c]
          by_cases d : keep ≤ j ∧ j < i
          · rw [if_pos d, if_pos (by omega)]
          · rw [if_neg d, if_neg (by omega)]
      have lt : decide ((i : Int) < 256) = true := decide_eq_true (by omega)
      clear hs hki hj
      go_wp2
      go_roundw
      case rel =>
        refine ⟨i + 1, by go_num, by have := hki'.out; omega, .inr (by omega), ?_, hbl.setCell (Nat.le_refl _) _⟩
        exact (hr.out.set i _).congr e3.out
      case measure => simp [intOf]; omega
    · have hr2 : Hid (RowAt wr w.heap.size 100 (rowOf 256 (w8 (pageN s keep junk)))) := hr.out.congr (rowOf_congr fun k hk => by
        unfold w8 fillN pageN
        by_cases c : k < keep
        · rw [if_neg (by omega), if_pos c]
        · rw [if_pos (by omega), if_neg c])
      have sl := run_slice_all (P := Try.prog) Try.underlying100 sz8' w.heap.size
      have cv : (convert 65 9 (.slice (some ⟨w.heap.size, 0, none⟩) 256 256)).run Try.prog wr = .ok (.string (pageT s keep junk)) wr := block_string (pageN_byte hj) Try.underlying65 Try.underlying5 Try.underlying9 hr2.out
      have lt : decide ((i : Int) < 256) = false := decide_eq_false (by omega)
      clear hr hs hki hj hlt
      go_wp2
      go_ret
      exact ⟨rfl, hbl⟩

end Go.Proofs.Ytogeccmeaacgnaa
