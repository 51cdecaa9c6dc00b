/-
  Keys as they are mixed: blockKeyOf, mixed, the document's mixed; the document's Short.
-/
import Derived.Test.YtedmdojmgccclaaDoorShaOne
import Derived.Test.YtedmdojmgccclaaDoorListB
import Derived.Laws.BitsAllLaws
namespace Go.Proofs.YtedmdojmgccclaaDoor
open Go.RowKit

theorem byteL_listB (n : Nat) (f : Nat → Nat) (hf : Bytes f) (j : Nat) : byteL (listB n f) j = if j < n then f j else 0 := by
  unfold byteL listB
  by_cases h : j < n
  · rw [if_pos h]
    simp [List.getD_eq_getElem?_getD, h]
    exact hf j
  · rw [if_neg h, List.getD_eq_getElem?_getD, List.getElem?_eq_none (by simp; omega)]
    rfl

theorem byteL_none (l : List UInt8) (j : Nat) (h : l.length ≤ j) : byteL l j = 0 := by
  unfold byteL
  rw [List.getD_eq_getElem?_getD, List.getElem?_eq_none h]
  rfl

/-- The 64 bytes of a key. -/
def blockN (key : List UInt8) : Nat → Nat := if key.length ≤ 64 then byteL key else fun j => if j < 32 then sumN key j else 0

theorem sumN_bytes (T : List UInt8) : Bytes (sumN T) := fun j => hashN_bytes _ j

theorem blockN_bytes (key : List UInt8) : Bytes (blockN key) := by
  intro j
  unfold blockN
  split
  · exact byteL_bytes key j
  · show (if j < 32 then sumN key j else 0) < 256
    split
    · exact sumN_bytes key j
    · decide

/-- Mixed by a byte. -/
def xorN (f : Nat → Nat) (c : Nat) : Nat → Nat := fun j => f j ^^^ c

theorem xorN_bytes {f : Nat → Nat} {c : Nat} (hf : Bytes f) (hc : c < 256) : Bytes (xorN f c) := fun j => xor_byte (hf j) hc

def mixL (f : Nat → Nat) (c : Nat) : List UInt8 := listB 64 (xorN f c)

/-- The bytes of a tag. -/
def macN (key T : List UInt8) : Nat → Nat := sumN (mixL (blockN key) 92 ++ listB 32 (sumN (mixL (blockN key) 54 ++ T)))

theorem macN_bytes (key T : List UInt8) : Bytes (macN key T) := sumN_bytes _

theorem info_block (f : Nat → Value) : (Tryd.prog.info? 69).map (·.size) = some (rowOf 64 f).size := by rw [rowOf_size]; kernel_rfl

set_option maxHeartbeats 400000 in
set_option maxRecDepth 8000 in
theorem mixed_any (f : Nat → Nat) (hf : Hid (Bytes f)) (c : Nat) (hc : c < 256) (w : World) :
    Calls Tryd.prog 34 #[.agg (rowOf 64 (w8 f)), .int .u8 (c : Int)] w fun e w' => e = .returned (.string (bs (mixL f c))) ∧ Below w.heap.size w w' := by
  have r0 : Hid (RowAt (w.alloc (.cells (rowOf 64 (w8 f)) 69)) w.heap.size 69 (rowOf 64 (w8 (part (xorN f c) f 0)))) := by rw [part_zero]; exact RowAt.new _ _ _
  have b0 : Below w.heap.size w (w.alloc (.cells (rowOf 64 (w8 f)) 69)) := (Below.refl _ _).alloc (Nat.le_refl _) _
  go_enter Tryd.func34, Tryd.ntmps34
  go_wp2
  generalize w.alloc (.cells (rowOf 64 (w8 f)) 69) = w0 at *
  go_loopw [6] (fun i wr => ∃ j : Nat, j ≤ 64 ∧ i = .int .i64 j ∧ Hid (RowAt wr w.heap.size 69 (rowOf 64 (w8 (part (xorN f c) f j)))) ∧ Below w.heap.size w wr)
    (fun i _ => 64 - (intOf i).toNat)
  case atStart => exact ⟨0, by omega, rfl, r0, b0⟩
  case round =>
    clear r0 b0
    obtain ⟨j, hj, rfl, hr, hbl⟩ := hrel
    by_cases hlt : j < 64
    · have c0 := hr.out.cell j hlt
      have f0 := hr.out.free j
      unfold w8 at c0
      rw [part_above _ _ _ _ (Nat.le_refl j)] at c0
      have hy := hf.out j
      have E1 := Lib.hid (u8_xor_nat (f j) c hy hc)
      have e3 : Hid ((rowOf 64 (w8 (part (xorN f c) f j))).setIfInBounds j (.int .u8 ((f j ^^^ c : Nat) : Int)) = rowOf 64 (w8 (part (xorN f c) f (j + 1)))) := by
        unfold Hid; rw [rowOf_upd8, ← part_upd]; rfl
      go_wp2
      go_roundw
      case rel =>
        refine ⟨j + 1, by omega, by go_num, ?_, hbl.setCell (Nat.le_refl _) _⟩
        rw [E1.out]
        exact (hr.out.set j _).congr e3.out
      case measure => simp [intOf]; omega
    · have : j = 64 := by omega
      subst this
      have hr2 : Hid (RowAt wr w.heap.size 69 (rowOf 64 (w8 (xorN f c)))) := hr.out.congr (rowOf_congr fun k hk => by unfold w8; rw [part_below _ _ _ _ hk])
      have sl := run_slice_all (P := Tryd.prog) Tryd.underlying69 sz8 w.heap.size
      have cv : (convert 54 9 (.slice (some ⟨w.heap.size, 0, none⟩) 64 64)).run Tryd.prog wr = .ok (.string (bs (mixL f c))) wr := block_string (xorN_bytes hf.out hc) Tryd.underlying54 Tryd.underlying5 Tryd.underlying9 hr2.out
      clear hr
      go_wp2
      go_ret
      exact ⟨rfl, hbl⟩

theorem z8_64k : rowOf 64 (w8 zeroN) = rowOf 64 (w8 zeroN) := rfl

theorem laid_text (key : List UInt8) (n : Nat) (hn : n = min key.length 64) (h : key.length ≤ 64) : rowOf 64 (w8 (laid zeroN (byteL key) 0 n)) = rowOf 64 (w8 (blockN key)) :=
  rowOf_congr fun j _ => by
    unfold w8 laid blockN
    rw [if_pos h]
    by_cases hj : j < n
    · rw [if_pos (by omega), Nat.sub_zero]
    · rw [if_neg (by omega), byteL_none key j (by omega)]
      rfl
theorem laid_sum (key : List UInt8) (h : ¬ key.length ≤ 64) : rowOf 64 (w8 (laid zeroN (sumN key) 0 32)) = rowOf 64 (w8 (blockN key)) :=
  rowOf_congr fun j _ => by
    unfold w8 laid blockN
    rw [if_neg h]
    by_cases hj : j < 32
    · rw [if_pos (by omega), Nat.sub_zero]
      show _ = Value.int .u8 ((if j < 32 then sumN key j else 0 : Nat) : Int)
      rw [if_pos hj]
    · rw [if_neg (by omega)]
      show _ = Value.int .u8 ((if j < 32 then sumN key j else 0 : Nat) : Int)
      rw [if_neg hj]
      rfl

set_option maxHeartbeats 400000 in
set_option maxRecDepth 8000 in
theorem blockKeyOf_short (key : ByteArray) (hk : key.size ≤ 64) (w : World) :
    Calls Tryd.prog 33 #[.string key] w fun e w' => e = .returned (.agg (rowOf 64 (w8 (blockN key.data.toList)))) ∧ Below w.heap.size w w' := by
  have hL : key.data.toList.length = key.size := by simp
  have d : decide ((key.size : Int) ≤ 64) = true := decide_eq_true (by omega)
  have sl := run_slice_all (P := Tryd.prog) Tryd.underlying69 sz8 (w.heap.size + 1)
  have cp := Lib.hid (run_copy_text (P := Tryd.prog) ((w.alloc (.cells (rowOf 64 (w8 zeroN)) 69)).alloc (.cells (rowOf 64 (w8 zeroN)) 69)) 54 9 3 5 (w.heap.size + 1) 0 64 64 key zeroN 64 69 Tryd.underlying54 sz8 (row_second w _ _ _) (min key.size 64) rfl (by omega))
  rw [laid_text key.data.toList (min key.size 64) (by rw [hL]) (by omega)] at cp
  have tr := Lib.hid (two_rows w (rowOf 64 (w8 zeroN)) (rowOf 64 (w8 zeroN)) (rowOf 64 (w8 (blockN key.data.toList))) 69 69)
  generalize blockN key.data.toList = B at *
  rw [z8_64] at cp tr
  go_enter Tryd.func33, Tryd.ntmps33
  go_wp2_with (first | (refine wpList_copy_known _ rfl _ _ 54 9 rfl _ _ rfl rfl cp.out ?_; clear cp sl; generalize World.setRow _ _ _ = w1 at *; obtain ⟨r0, r1, b0⟩ := tr.out; clear tr; rw [← z8_64] at r0; replace r0 := Lib.hid r0; replace r1 := Lib.hid r1) | (refine wpList_load_row rfl 69 _ rfl (w.heap.size + 1) rfl 69 _ (0, 0) _ r1.out Tryd.underlying69 rfl (info_block _) ?_) | (refine wpList_store_row rfl 69 _ _ rfl w.heap.size (rowOf 64 (w8 B)) rfl rfl 69 _ r0.out (info_block _) (by rw [rowOf_size, rowOf_size]) (rowOf_cells8 _ _) ?_))
  refine bodyPost_ret (v := .agg (rowOf 64 (w8 B))) ?_ rfl ⟨rfl, below_setRow' b0 (Nat.le_refl _) _⟩
  exact results_cell_row Tryd.results33 _ _ w.heap.size 69 (rowOf 64 (w8 B)) (0, 0) _ rfl (r0.out.setRow _) Tryd.underlying69 rfl (info_block _)

end Go.Proofs.YtedmdojmgccclaaDoor
