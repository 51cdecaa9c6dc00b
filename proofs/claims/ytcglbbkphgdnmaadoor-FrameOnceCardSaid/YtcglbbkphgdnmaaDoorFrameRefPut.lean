/-
  Contract: the document's Put.
-/
import Derived.Test.YtcglbbkphgdnmaaDoorFramePut
import Derived.Test.YtcglbbkphgdnmaaDoorShaRefSum
import Derived.Test.YtcglbbkphgdnmaaDoorBlockHead
namespace Go.Proofs.YtcglbbkphgdnmaaDoor
open Go.RowKit
set_option linter.unusedVariables false

/-- A number in k bytes. -/
theorem refNumber_nat (n k : Nat) (h1 : 1 ≤ k) (h2 : k ≤ 8) (hn : n < 256 ^ k) (w : World) :
    Calls Tryd.prog 15 #[.int .u64 (n : Int), .int .i64 (k : Int)] w fun e w' => e = .returned (.tuple #[.string (bs (numB k n)), .int .i64 0]) ∧ Below w.heap.size w w' := by
  have hN : n < 18446744073709551616 := Nat.lt_of_lt_of_le hn (Nat.le_trans (Nat.pow_le_pow_right (by decide) h2) (by decide))
  have h := refNumber_any (n : Int) (k : Int) (by omega) (by unfold Hid; omega) w
  unfold numS numE at h
  have hc : (1 ≤ (k : Int) ∧ (k : Int) ≤ 8 ∧ fitsB (n : Int) (k : Int) = true) := ⟨by omega, by omega, by rw [refFits, Nat.div_eq_of_lt hn]; rfl⟩
  rw [if_pos hc, if_pos hc] at h
  simpa using h

set_option maxHeartbeats 400000 in
set_option maxRecDepth 8000 in
theorem refPut_yes (k n : Nat) (h0 : k ≠ 0) (hk : k < 256) (hn : Hid (n < 18446744073709551616)) (t : ByteArray) (ht : t.size ≤ 229) (w : World) :
    Calls Tryd.prog 8 #[.agg #[.int .u8 (k : Int), .int .u64 (n : Int), .string t]] w fun e w' => e = .returned (.tuple #[.string (bs (pageL k n t.data.toList)), .int .i64 0]) ∧ Below w.heap.size w w' := by
  have N8 : Hid (∀ w, Calls Tryd.prog 15 #[.int .u64 (n : Int), .int .i64 8] w fun e w' => e = .returned (.tuple #[.string (bs (numB 8 n)), .int .i64 0]) ∧ Below w.heap.size w w') := fun w => refNumber_nat n 8 (by decide) (by decide) hn.out w
  have N2 : Hid (∀ w, Calls Tryd.prog 15 #[.int .u64 (t.size : Int), .int .i64 2] w fun e w' => e = .returned (.tuple #[.string (bs (numB 2 t.size)), .int .i64 0]) ∧ Below w.heap.size w w') := fun w => refNumber_nat t.size 2 (by decide) (by decide) (by have := ht; show t.size < 65536; omega) w
  have r1 := Lib.hid (RowAt.new w 30 #[.int .u8 (k : Int), .int .u64 (n : Int), .string t])
  have b1 : Below w.heap.size w (w.alloc (.cells #[.int .u8 (k : Int), .int .u64 (n : Int), .string t] 30)) := (Below.refl _ _).alloc (Nat.le_refl _) _
  have d0 : ((k : Int) == 0) = false := by simpa using h0
  have d1 : decide ((229 : Int) < (t.size : Int)) = false := by simp; omega
  have E := Lib.hid (ahead_bs k n t)
  have za : (bs (aheadL k n t.data.toList)).size = 240 := by rw [bs_size, aheadL_length (by rw [ba_sizeL]; exact ht)]
  have EP : Hid (bs (aheadL k n t.data.toList) ++ bs (sumL (bs (aheadL k n t.data.toList)).data.toList) = bs (pageL k n t.data.toList)) := by
    unfold Hid
    rw [bs_add]
    rfl
  go_enter Tryd.func8, Tryd.ntmps8
  go_wp2_with fail
  generalize hp : w.heap.size = p at r1 b1 ⊢
  generalize w.alloc (.cells #[.int .u8 (k : Int), .int .u64 (n : Int), .string t] 30) = w0 at *
  have HP := Lib.hid hp
  clear hp
  refine (N8.out _).mono ?_
  rintro e w2 ⟨rfl, hb⟩
  replace r1 : Hid (RowAt w2 p 30 #[.int .u8 (k : Int), .int .u64 (n : Int), .string t]) := r1.out.below hb r1.out.lt
  replace b1 : Below p w w2 := b1.trans (hb.mono (by rw [← HP.out]; exact b1.size))
  clear hb
  have c2 := r1.out.one 2 rfl
  go_wp2_with fail
  refine (N2.out _).mono ?_
  rintro e w3 ⟨rfl, hb⟩
  replace r1 : Hid (RowAt w3 p 30 #[.int .u8 (k : Int), .int .u64 (n : Int), .string t]) := r1.out.below hb r1.out.lt
  replace b1 : Below p w w3 := b1.trans (hb.mono (by rw [← HP.out]; exact b1.size))
  clear hb c2 N8 N2
  have c0 := r1.out.one 0 rfl
  have c2 := (r1.out.alloc (.cells #[.int .u8 (k : Int)] 5)).one 2 rfl
  have b4 : Below p w (w3.alloc (.cells #[.int .u8 (k : Int)] 5)) := b1.alloc (by rw [← HP.out]; exact b1.size) _
  have cv : (convert 42 9 (.slice (some ⟨w3.heap.size, 0, none⟩) 1 1)).run Tryd.prog (w3.alloc (.cells #[.int .u8 (k : Int)] 5)) = .ok (.string (bs (numB 1 k))) _ :=
    block_string (P := Tryd.prog) (f := fun _ => k) (n := 1) (cap := 1) (fun _ => hk) Tryd.underlying42 Tryd.underlying5 Tryd.underlying9 (RowAt.new w3 5 #[.int .u8 (k : Int)])
  have x1 : (bs (numB 1 k)).size = 1 := by rw [bs_size, numB_length]
  have x8 : (bs (numB 8 n)).size = 8 := by rw [bs_size, numB_length]
  have x2 : (bs (numB 2 t.size)).size = 2 := by rw [bs_size, numB_length]
  have xz : ∀ j, (bs (List.replicate j (0 : UInt8))).size = j := fun j => by rw [bs_size, List.length_replicate]
  generalize bs (numB 1 k) = X1 at *
  generalize bs (numB 8 n) = X8 at *
  generalize bs (numB 2 t.size) = X2 at *
  have zl : (X1 ++ X8 ++ X2 ++ t).size = 11 + t.size := by rw [ByteArray.size_append, ByteArray.size_append, ByteArray.size_append]; omega
  have ZL := Lib.hid zl
  clear zl
  go_wp2
  generalize X1 ++ X8 ++ X2 ++ t = Y at *
  clear cv c0 c2 r1
  generalize w3.alloc (.cells #[.int .u8 (k : Int)] 5) = w4 at *
  go_loop [8] (fun v => ∃ j : Nat, j ≤ 229 - t.size ∧ v = .string (Y ++ bs (List.replicate j 0))) (fun v => 240 - Lib.strSize v)
  case atStart => exact ⟨0, Nat.zero_le _, by rw [show bs (List.replicate 0 (0 : UInt8)) = ByteArray.empty from rfl, ByteArray.append_empty]⟩
  case round =>
    obtain ⟨j, hj, rfl⟩ := hrel
    have hsz : (Y ++ bs (List.replicate j 0)).size = 11 + t.size + j := by rw [ByteArray.size_append, ZL.out, xz j]
    by_cases hlt : j < 229 - t.size
    · have e1 : Hid (Y ++ bs (List.replicate (j + 1) 0) = (Y ++ bs (List.replicate j 0)) ++ ⟨#[0]⟩) := by
        unfold Hid
        rw [ByteArray.append_assoc, show (⟨#[0]⟩ : ByteArray) = bs [0] from rfl, bs_add, List.replicate_succ']
      have hd : decide (((Y ++ bs (List.replicate j 0)).size : Int) < 240) = true := decide_eq_true (by omega)
      generalize Y ++ bs (List.replicate j 0) = y at *
      go_wp2
      refine ⟨⟨j + 1, by omega, by rw [e1.out]⟩, ?_⟩
      rw [Lib.strSize_string, Lib.strSize_string, ByteArray.size_append, show (⟨#[0]⟩ : ByteArray).size = 1 from rfl]
      omega
    · have hj2 : j = 229 - t.size := by omega
      subst hj2
      rw [E.out] at *
      have S := Lib.hid (refSum_any (bs (aheadL k n t.data.toList)) (by omega) w4)
      have hY := Lib.hid (sumN_bytes (bs (aheadL k n t.data.toList)).data.toList)
      have zb : (bs (sumL (bs (aheadL k n t.data.toList)).data.toList)).size = 16 := by rw [bs_size, sumL_length]
      have EL : Hid (sumL (bs (aheadL k n t.data.toList)).data.toList = listB 16 (sumN (bs (aheadL k n t.data.toList)).data.toList)) := rfl
      generalize sumN (bs (aheadL k n t.data.toList)).data.toList = y at *
      generalize sumL (bs (aheadL k n t.data.toList)).data.toList = B at *
      generalize bs (aheadL k n t.data.toList) = A at *
      have hd : decide ((A.size : Int) < 240) = false := decide_eq_false (by omega)
      clear E
      go_wp2_with fail
      refine S.out.mono ?_
      rintro e w5 ⟨rfl, hb⟩
      have b5 : Below p w w5 := b4.trans (hb.mono (by have := b4.size; have := HP.out; omega))
      clear hb S
      go_wp2_with (refine wpList_store_row rfl 44 _ _ rfl w5.heap.size (rowOf 32 (w8 y)) rfl rfl 44 _ (RowAt.new _ _ _) (info_hash _) (by rw [rowOf_size]; rfl) (rowOf_cells8 _ _) ?_; rw [World.setRow_alloc_new]; have r1 := RowAt.new w5 44 (rowOf 32 (w8 y)); have b6 := b5.alloc (by have := b5.size; have := HP.out; omega) (.cells (rowOf 32 (w8 y)) 44); generalize w5.alloc _ = w6 at *; have sl := run_slice_h (P := Tryd.prog) Tryd.underlying44 sz8 w5.heap.size 16 16 rfl (by decide) (by decide) w6; have cv := block_head (P := Tryd.prog) (src := 42) (dst := 9) (m := 16) (cap := 32) hY.out (by decide) Tryd.underlying42 Tryd.underlying5 Tryd.underlying9 r1; clear r1; rw [← EL.out] at cv)
      go_ret2
      exact ⟨by rw [EP.out]; rfl, by rw [HP.out]; exact b6⟩

set_option maxHeartbeats 400000 in
set_option maxRecDepth 8000 in
theorem refPut_any (k n : Nat) (hk : k < 256) (hn : Hid (n < 18446744073709551616)) (t : ByteArray) (ht : t.size ≤ 1000000) (w : World) :
    Calls Tryd.prog 8 #[.agg #[.int .u8 (k : Int), .int .u64 (n : Int), .string t]] w fun e w' => e = .returned (.tuple #[.string (putS k n t), .int .i64 (putE k t : Int)]) ∧ Below w.heap.size w w' := by
  unfold putS putE
  by_cases h0 : k = 0
  · rw [if_pos h0, if_pos h0]
    have d0 : ((k : Int) == 0) = true := by simpa using h0
    have b1 : Below w.heap.size w (w.alloc (.cells #[.int .u8 (k : Int), .int .u64 (n : Int), .string t] 30)) := (Below.refl _ _).alloc (Nat.le_refl _) _
    clear h0
    go_enter Tryd.func8, Tryd.ntmps8
    go_wp2
    go_ret2
    exact ⟨rfl, b1⟩
  · rw [if_neg h0, if_neg h0]
    by_cases h1 : 229 < t.size
    · rw [if_pos h1, if_pos h1]
      have d0 : ((k : Int) == 0) = false := by simpa using h0
      have d1 : decide ((229 : Int) < (t.size : Int)) = true := by simp; omega
      have b1 : Below w.heap.size w (w.alloc (.cells #[.int .u8 (k : Int), .int .u64 (n : Int), .string t] 30)) := (Below.refl _ _).alloc (Nat.le_refl _) _
      clear h0
      go_enter Tryd.func8, Tryd.ntmps8
      go_wp2
      go_ret2
      exact ⟨rfl, b1⟩
    · rw [if_neg h1, if_neg h1]
      exact refPut_yes k n h0 hk hn t (by omega) w

end Go.Proofs.YtcglbbkphgdnmaaDoor
