/-
  Contract: Put.
-/
import Derived.Test.YtcglbbkphgdnmaaDoorFrameSum
import Derived.Test.YtcglbbkphgdnmaaDoorFrameShelf
import Derived.Test.YtcglbbkphgdnmaaDoorNum
import Derived.Test.YtcglbbkphgdnmaaDoorGetCell
import Derived.Test.YtcglbbkphgdnmaaDoorApart
namespace Go.Proofs.YtcglbbkphgdnmaaDoor
open Go.RowKit
set_option linter.unusedVariables false

/-- A number in k bytes. -/
theorem number_nat (n k : Nat) (h1 : 1 ≤ k) (h2 : k ≤ 8) (hn : n < 256 ^ k) (w : World) :
    Calls Tryd.prog 12 #[.int .u64 (n : Int), .int .i64 (k : Int)] w fun e w' => e = .returned (.tuple #[.string (bs (numB k n)), .int .i64 0]) ∧ Below w.heap.size w w' := by
  have hN : n < 18446744073709551616 := Nat.lt_of_lt_of_le hn (Nat.le_trans (Nat.pow_le_pow_right (by decide) h2) (by decide))
  have h := number_yes (n : Int) (k : Int) (by omega) (by unfold Hid; omega) (by omega) (by omega) (by rw [refFits, Nat.div_eq_of_lt hn]; rfl) w
  simpa using h

theorem ba_sizeL (s : ByteArray) : s.data.toList.length = s.size := by simp

theorem bs_add (a b : List UInt8) : bs a ++ bs b = bs (a ++ b) := by
  apply ByteArray.ext
  show (bs a ++ bs b).data = (a ++ b).toArray
  rw [ByteArray.data_append]
  simp [bs]

/-- What Put lays one behind the other. -/
theorem ahead_bs (k n : Nat) (t : ByteArray) : bs (numB 1 k) ++ bs (numB 8 n) ++ bs (numB 2 t.size) ++ t ++ bs (List.replicate (229 - t.size) 0) = bs (aheadL k n t.data.toList) := by
  have hl : t.data.toList.length = t.size := by simp
  unfold aheadL
  rw [hl]
  have : t = bs t.data.toList := (bs_data t).symm
  rw [bs_add, bs_add]
  generalize t.size = z
  obtain ⟨L, hL⟩ : ∃ L, t.data.toList = L := ⟨_, rfl⟩
  rw [hL] at this ⊢
  rw [this, bs_add, bs_add]
  simp only [List.append_assoc]

set_option maxHeartbeats 400000 in
set_option maxRecDepth 8000 in
theorem put_yes (k n : Nat) (h0 : k ≠ 0) (hk : k < 256) (hn : Hid (n < 18446744073709551616)) (t : ByteArray) (ht : t.size ≤ 229) (w : World) (hkr : Hid (KRow w)) :
    Calls Tryd.prog 7 #[.agg #[.int .u8 (k : Int), .int .u64 (n : Int), .string t]] w fun e w' => e = .returned (.tuple #[.string (bs (pageL k n t.data.toList)), .int .i64 0]) ∧ Below w.heap.size w w' := by
  have N1 : Hid (∀ w, Calls Tryd.prog 12 #[.int .u64 (k : Int), .int .i64 1] w fun e w' => e = .returned (.tuple #[.string (bs (numB 1 k)), .int .i64 0]) ∧ Below w.heap.size w w') := fun w => number_nat k 1 (by decide) (by decide) hk w
  have N8 : Hid (∀ w, Calls Tryd.prog 12 #[.int .u64 (n : Int), .int .i64 8] w fun e w' => e = .returned (.tuple #[.string (bs (numB 8 n)), .int .i64 0]) ∧ Below w.heap.size w w') := fun w => number_nat n 8 (by decide) (by decide) hn.out w
  have N2 : Hid (∀ w, Calls Tryd.prog 12 #[.int .u64 (t.size : Int), .int .i64 2] w fun e w' => e = .returned (.tuple #[.string (bs (numB 2 t.size)), .int .i64 0]) ∧ Below w.heap.size w w') := fun w => number_nat t.size 2 (by decide) (by decide) (by have := ht; show t.size < 65536; omega) w
  have R : Hid (∀ w, Calls Tryd.prog 13 #[.string ⟨#[0]⟩, .int .i64 ((229 - t.size : Nat) : Int)] w fun e w' => e = .returned (.string (bs (List.replicate (229 - t.size) 0))) ∧ Below w.heap.size w w') := fun w => by
    have h := repeat_any ⟨#[0]⟩ (229 - t.size) w (by omega) (by show 1 * _ ≤ _; omega)
    rw [show (⟨#[0]⟩ : ByteArray).data.toList = [0] from rfl, repeatL_byte] at h
    exact h
  have r1 := Lib.hid (RowAt.new w 24 #[.int .u8 (k : Int), .int .u64 (n : Int), .string t])
  have b1 : Below w.heap.size w (w.alloc (.cells #[.int .u8 (k : Int), .int .u64 (n : Int), .string t] 24)) := (Below.refl _ _).alloc (Nat.le_refl _) _
  have d0 : ((k : Int) == 0) = false := by simpa using h0
  have d1 : decide ((229 : Int) < (t.size : Int)) = false := by simp; omega
  have E := Lib.hid (ahead_bs k n t)
  have za : (bs (aheadL k n t.data.toList)).size = 240 := by rw [bs_size, aheadL_length (by rw [ba_sizeL]; exact ht)]
  have EP : Hid (bs (aheadL k n t.data.toList) ++ bs (sumL (bs (aheadL k n t.data.toList)).data.toList) = bs (pageL k n t.data.toList)) := by
    unfold Hid
    rw [bs_add]
    rfl
  go_enter Tryd.func7, Tryd.ntmps7
  go_wp2_with fail
  have b2 : Below w.heap.size w (w.alloc (.cells #[.int .u8 (k : Int), .int .u64 (n : Int), .string t] 24)) := b1
  generalize hp : w.heap.size = p at r1 b1 ⊢
  generalize w.alloc (.cells #[.int .u8 (k : Int), .int .u64 (n : Int), .string t] 24) = w0 at *
  have HP := Lib.hid hp
  clear hp b2
  refine (N1.out _).mono ?_
  rintro e w1 ⟨rfl, hb⟩
  replace r1 : Hid (RowAt w1 p 24 #[.int .u8 (k : Int), .int .u64 (n : Int), .string t]) := r1.out.below hb r1.out.lt
  replace b1 : Below p w w1 := b1.trans (hb.mono (by rw [← HP.out]; exact b1.size))
  clear hb
  have c1 := r1.out.one 1 rfl
  go_wp2_with fail
  refine (N8.out _).mono ?_
  rintro e w2 ⟨rfl, hb⟩
  replace r1 : Hid (RowAt w2 p 24 #[.int .u8 (k : Int), .int .u64 (n : Int), .string t]) := r1.out.below hb r1.out.lt
  replace b1 : Below p w w2 := b1.trans (hb.mono (by rw [← HP.out]; exact b1.size))
  clear hb c1
  have c2 := r1.out.one 2 rfl
  go_wp2_with fail
  refine (N2.out _).mono ?_
  rintro e w3 ⟨rfl, hb⟩
  replace r1 : Hid (RowAt w3 p 24 #[.int .u8 (k : Int), .int .u64 (n : Int), .string t]) := r1.out.below hb r1.out.lt
  replace b1 : Below p w w3 := b1.trans (hb.mono (by rw [← HP.out]; exact b1.size))
  clear hb c2 N1 N8 N2
  have hs3 : p ≤ w3.heap.size := by rw [← HP.out]; exact b1.size
  have k3 : Hid (KRow w3) := hkr.out.below b1 (by rw [← HP.out]; exact hkr.out.1) b1.size
  have HC : Hid (RowC w3 p 24 #[.int .u8 (k : Int), .int .u64 (n : Int), .string t] w3.drew) := ⟨(Below.refl _ _).drew, r1.out⟩
  have x1 : (bs (numB 1 k)).size = 1 := by rw [bs_size, numB_length]
  have x8 : (bs (numB 8 n)).size = 8 := by rw [bs_size, numB_length]
  have x2 : (bs (numB 2 t.size)).size = 2 := by rw [bs_size, numB_length]
  have xz : (bs (List.replicate (229 - t.size) 0)).size = 229 - t.size := by rw [bs_size, List.length_replicate]
  have WZ : Hid (IntKind.i64.wrap (229 - (t.size : Int)) = ((229 - t.size : Nat) : Int)) := by unfold Hid; rw [IntWalk.i64_in _ (by omega)]; omega
  generalize bs (numB 1 k) = X1 at *
  generalize bs (numB 8 n) = X8 at *
  generalize bs (numB 2 t.size) = X2 at *
  generalize bs (List.replicate (229 - t.size) 0) = Z at *
  have K : Hid (∀ w', RowC w3 p 24 #[.int .u8 (k : Int), .int .u64 (n : Int), .string t] w' → Calls Tryd.prog 13 #[.string ⟨#[0]⟩, .int .i64 ((229 - t.size : Nat) : Int)] w' fun e w'' => e = .returned (.string Z) ∧ RowC w3 p 24 #[.int .u8 (k : Int), .int .u64 (n : Int), .string t] w'') := fun w' h => (R.out w').mono fun e w'' ⟨h1, h2⟩ => ⟨h1, RowC.after h2 h⟩
  clear R r1
  go_wp2_with fail
  refine wp_region_class (RowC w3 p 24 #[.int .u8 (k : Int), .int .u64 (n : Int), .string t]) (by kernel_rfl) (by kernel_rfl) HC.out ?_
  go_big_quiet_want; go_big_quiet_op; go_big_quiet_on
  go_big_quiet_want; go_big_quiet_op; go_big_quiet_on
  refine wpQuiet_val (by rfl) (.string (X1 ++ X8)) (fun w' _ => by (go_simp; try first | omega | exact WZ.out)) ?_
  simp only [Act.put, List.setIfInBounds_toArray, List.set_cons_succ, List.set_cons_zero]
  go_big_quiet_want; go_big_quiet_op; go_big_quiet_on
  refine wpQuiet_val (by rfl) (.string (X1 ++ X8 ++ X2)) (fun w' _ => by (go_simp; try first | omega | exact WZ.out)) ?_
  simp only [Act.put, List.setIfInBounds_toArray, List.set_cons_succ, List.set_cons_zero]
  refine wpQuiet_val (by rfl) (.pointer (some ⟨p, 2, none⟩)) (fun w' _ => by (go_simp; try first | omega | exact WZ.out)) ?_
  simp only [Act.put, List.setIfInBounds_toArray, List.set_cons_succ, List.set_cons_zero]
  refine wpQuiet_val (by rfl) (.string t) (fun w' hC => get_cell hC.2 rfl rfl Tryd.underlying9 rfl rfl) ?_
  simp only [Act.put, List.setIfInBounds_toArray, List.set_cons_succ, List.set_cons_zero]
  refine wpQuiet_val (by rfl) (.string (X1 ++ X8 ++ X2 ++ t)) (fun w' _ => by (go_simp; try first | omega | exact WZ.out)) ?_
  simp only [Act.put, List.setIfInBounds_toArray, List.set_cons_succ, List.set_cons_zero]
  refine wpQuiet_val (by rfl) (.pointer (some ⟨p, 2, none⟩)) (fun w' _ => by (go_simp; try first | omega | exact WZ.out)) ?_
  simp only [Act.put, List.setIfInBounds_toArray, List.set_cons_succ, List.set_cons_zero]
  refine wpQuiet_val (by rfl) (.string t) (fun w' hC => get_cell hC.2 rfl rfl Tryd.underlying9 rfl rfl) ?_
  simp only [Act.put, List.setIfInBounds_toArray, List.set_cons_succ, List.set_cons_zero]
  refine wpQuiet_val (by rfl) (.int .i64 (t.size : Int)) (fun w' _ => by (go_simp; try first | omega | exact WZ.out)) ?_
  simp only [Act.put, List.setIfInBounds_toArray, List.set_cons_succ, List.set_cons_zero]
  refine wpQuiet_val (by rfl) (.int .i64 ((229 - t.size : Nat) : Int)) (fun w' _ => by (go_simp; try first | omega | exact WZ.out)) ?_
  simp only [Act.put, List.setIfInBounds_toArray, List.set_cons_succ, List.set_cons_zero]
  (go_big_quiet_want; go_big_quiet_op; apply Exists.intro; refine ⟨K.out, ?_⟩; go_big_quiet_on)
  refine wpQuiet_val (by rfl) (.string (X1 ++ X8 ++ X2 ++ t ++ Z)) (fun w' _ => by (go_simp; try first | omega | exact WZ.out)) ?_
  simp only [Act.put, List.setIfInBounds_toArray, List.set_cons_succ, List.set_cons_zero]
  go_big_quiet_want; go_big_quiet_op; go_big_quiet_on
  refine wpQuiet_nil ?_
  intro w4 hC
  have b4 : Below p w w4 := b1.trans (hC.1.mono hs3)
  have k4 : Hid (KRow w4) := k3.out.below hC.1 k3.out.1 hC.1.size
  clear hC HC K k3 b1
  rw [E.out]
  have S := Lib.hid (sumOf_any (bs (aheadL k n t.data.toList)) (by omega) w4 k4)
  have zb : (bs (sumL (bs (aheadL k n t.data.toList)).data.toList)).size = 16 := by rw [bs_size, sumL_length]
  generalize bs (aheadL k n t.data.toList) = A at *
  generalize bs (sumL A.data.toList) = B at *
  go_wp2_with fail
  refine S.out.mono ?_
  rintro e w5 ⟨rfl, hb⟩
  replace b4 : Below p w w5 := b4.trans (hb.mono (by have := b4.size; have := HP.out; omega))
  clear hb S k4
  go_wp2
  go_ret2
  exact ⟨by rw [EP.out]; rfl, by rw [HP.out]; exact b4⟩

/-- Put's answers. -/
def putS (k n : Nat) (t : ByteArray) : ByteArray := if k = 0 then bs [] else if 229 < t.size then bs [] else bs (pageL k n t.data.toList)
def putE (k : Nat) (t : ByteArray) : Nat := if k = 0 then 1 else if 229 < t.size then 11 else 0

set_option maxHeartbeats 400000 in
set_option maxRecDepth 8000 in
theorem put_any (k n : Nat) (hk : k < 256) (hn : Hid (n < 18446744073709551616)) (t : ByteArray) (ht : t.size ≤ 1000000) (w : World) (hkr : Hid (KRow w)) :
    Calls Tryd.prog 7 #[.agg #[.int .u8 (k : Int), .int .u64 (n : Int), .string t]] w fun e w' => e = .returned (.tuple #[.string (putS k n t), .int .i64 (putE k t : Int)]) ∧ Below w.heap.size w w' := by
  unfold putS putE
  by_cases h0 : k = 0
  · rw [if_pos h0, if_pos h0]
    have d0 : ((k : Int) == 0) = true := by simpa using h0
    have b1 : Below w.heap.size w (w.alloc (.cells #[.int .u8 (k : Int), .int .u64 (n : Int), .string t] 24)) := (Below.refl _ _).alloc (Nat.le_refl _) _
    clear h0
    go_enter Tryd.func7, Tryd.ntmps7
    go_wp2
    go_ret2
    exact ⟨rfl, b1⟩
  · rw [if_neg h0, if_neg h0]
    by_cases h1 : 229 < t.size
    · rw [if_pos h1, if_pos h1]
      have d0 : ((k : Int) == 0) = false := by simpa using h0
      have d1 : decide ((229 : Int) < (t.size : Int)) = true := by simp; omega
      have b1 : Below w.heap.size w (w.alloc (.cells #[.int .u8 (k : Int), .int .u64 (n : Int), .string t] 24)) := (Below.refl _ _).alloc (Nat.le_refl _) _
      clear h0
      go_enter Tryd.func7, Tryd.ntmps7
      go_wp2
      go_ret2
      exact ⟨rfl, b1⟩
    · rw [if_neg h1, if_neg h1]
      exact put_yes k n h0 hk hn t (by omega) w hkr

end Go.Proofs.YtcglbbkphgdnmaaDoor
