/-
  Contracts: Box, the document's Box.
-/
import Derived.Test.YtmbkjbkbnigcfaaAesByte
import Derived.Great.BuildSlice
namespace Go.Proofs.Ytmbkjbkbnigcfaa
open Go.RowKit

theorem plain8 : Try.prog.plainKey 5 = true := by kernel_rfl

set_option maxHeartbeats 400000 in
set_option maxRecDepth 8000 in
theorem box_any (x : Nat) (h : x < 256) (w : World) :
    Calls Try.prog 31 #[.int .u8 (x : Int)] w fun e w' => e = .returned (.int .u8 (boxN x : Nat)) ∧ w' = w := by
  have ix : (Instr.index 47 (.agg (rowOf 256 (w8 boxN))) (.int .u8 (x : Int))).run Try.prog w = .ok (.int .u8 ((boxN x : Nat) : Int)) w := run_index_row w 47 5 256 (w8 boxN) .u8 x Try.underlying47 sz8 plain8 h
  go_enter Try.func31, Try.ntmps31
  go_wp2_with (refine wpList_buildTo rfl 47 _ rfl _ rfl (rowOf 256 (w8 boxN)) (by kernel_rfl) ?_)
  go_ret
  exact ⟨rfl, rfl⟩

theorem bitN_lt (x i : Nat) : bitN x i < 2 := Nat.mod_lt _ (by decide)

theorem xor2 {a b : Nat} (ha : a < 2) (hb : b < 2) : a ^^^ b < 2 := Nat.xor_lt_two_pow (n := 1) ha hb

/-- One bit of the box. -/
def affBit (y j : Nat) : Nat := bitN y j ^^^ bitN y (j + 4) ^^^ bitN y (j + 5) ^^^ bitN y (j + 6) ^^^ bitN y (j + 7) ^^^ bitN 99 j

theorem affBit_lt (y j : Nat) : affBit y j < 2 := xor2 (xor2 (xor2 (xor2 (xor2 (bitN_lt _ _) (bitN_lt _ _)) (bitN_lt _ _)) (bitN_lt _ _)) (bitN_lt _ _)) (bitN_lt _ _)
theorem affTo_next (y k : Nat) : affTo y (k + 1) = affTo y k * 2 + affBit y (7 - k) := rfl
theorem affTo_lt (y : Nat) : ∀ k, affTo y k < 2 ^ k
  | 0 => by simp [affTo]
  | k + 1 => by
    have h1 := affTo_lt y k
    have h2 := affBit_lt y (7 - k)
    rw [affTo_next, Nat.pow_succ]
    omega

theorem bit_at (x i : Nat) (I : Int) (hI : I = (i : Int)) (hx : x < 256) (hi : i < 1000) (w : World) :
    Calls Try.prog 36 #[.int .u8 (x : Int), .int .i64 I] w fun e w' => e = .returned (.int .u8 (bitN x i : Nat)) ∧ w' = w := by
  subst hI
  exact bit_any x i hx hi w

theorem bits2 (a b : Nat) (ha : a < 2) (hb : b < 2) : bits .xor .u8 (a : Int) (b : Int) = ((a ^^^ b : Nat) : Int) := u8_xor_nat a b (by omega) (by omega)

set_option maxHeartbeats 1000000 in
set_option maxRecDepth 8000 in
theorem refBox_any (x : Nat) (h : x < 256) (w : World) :
    Calls Try.prog 27 #[.int .u8 (x : Int)] w fun e w' => e = .returned (.int .u8 (boxN x : Nat)) ∧ w' = w := by
  go_enter Try.func27, Try.ntmps27
  go_wp2
  go_loopw [3, 4] (fun y i wr => ∃ k q : Nat, 1 ≤ k ∧ k ≤ 256 ∧ i = .int .i64 k ∧ y = .int .u8 q ∧ q < 256 ∧ Hid (q = invTo x k) ∧ wr = w)
    (fun _ i _ => 256 - (intOf i).toNat)
  case atStart => exact ⟨1, 0, by omega, by omega, rfl, rfl, by omega, rfl, rfl⟩
  case round =>
    obtain ⟨k, q, hk1, hk, rfl, rfl, hq, hr, rfl⟩ := hrel
    by_cases hlt : k < 256
    · have T1 := Lib.hid (refTimes_any x k h hlt wr)
      have n1 : Hid (invTo x (k + 1) = if k ≠ 0 ∧ timesN x k = 1 then k else q) := by unfold Hid; rw [hr.out]; rfl
      go_wp2_with fail
      refine T1.out.mono ?_
      rintro e w' ⟨rfl, rfl⟩
      clear T1
      by_cases h1 : timesN x k = 1
      · have d1 : ((timesN x k : Int) == 1) = true := by simp; omega
        rw [if_pos ⟨by omega, h1⟩] at n1
        go_wp2
        go_roundw
        case rel => exact ⟨k + 1, k, by omega, by omega, by go_num, by first | rfl | go_num, by omega, n1.out.symm, by first | rfl | trivial⟩
        case measure => simp [intOf]; omega
      · have d1 : ((timesN x k : Int) == 1) = false := by simp; omega
        rw [if_neg (fun hh => h1 hh.2)] at n1
        go_wp2
        go_roundw
        case rel => exact ⟨k + 1, q, by omega, by omega, by go_num, rfl, hq, n1.out.symm, by first | rfl | trivial⟩
        case measure => simp [intOf]; omega
    · have : k = 256 := by omega
      subst this
      have hinv : Hid (q = invT x) := by unfold Hid; rw [hr.out, invTo_all h]
      clear hr
      go_wp2
      go_loopw [5, 6] (fun y i wr' => ∃ (k r : Nat) (I : Int), k ≤ 8 ∧ i = .int .i64 I ∧ y = .int .u8 r ∧ Hid (I = 7 - (k : Int)) ∧ Hid (r = affTo q k) ∧ wr' = wr)
        (fun _ i _ => (intOf i + 1).toNat)
      case atStart => exact ⟨0, 0, 7, by omega, rfl, rfl, rfl, rfl, rfl⟩
      case round =>
        obtain ⟨k, r, I, hk, rfl, rfl, hI, hr, rfl⟩ := hrel
        by_cases hlt : k < 8
        · obtain ⟨j, hj⟩ : ∃ j, j = 7 - k := ⟨_, rfl⟩
          obtain rfl : I = (j : Int) := by rw [hI.out]; omega
          have j7 : j ≤ 7 := by omega
          have rl : r < 128 := by
            rw [hr.out]
            have := affTo_lt q k
            have h2 : 2 ^ k ≤ 2 ^ 7 := Nat.pow_le_pow_right (by decide) (by omega)
            omega
          have n1 : Hid (affTo q (k + 1) = r * 2 + affBit q j) := by unfold Hid; rw [affTo_next, ← hr.out, hj]
          have ek : Hid ((j : Int) - 1 = 7 - ((k + 1 : Nat) : Int)) := by unfold Hid; omega
          have d0 : decide ((0 : Int) ≤ (j : Int)) = true := decide_eq_true (by omega)
          clear hj
          have B0 := Lib.hid (fun W I hI => bit_at q j I hI hq (by omega) W)
          have B1 := Lib.hid (fun W I hI => bit_at q (j + 4) I hI hq (by omega) W)
          have B2 := Lib.hid (fun W I hI => bit_at q (j + 5) I hI hq (by omega) W)
          have B3 := Lib.hid (fun W I hI => bit_at q (j + 6) I hI hq (by omega) W)
          have B4 := Lib.hid (fun W I hI => bit_at q (j + 7) I hI hq (by omega) W)
          have B5 := Lib.hid (fun W I hI => bit_at 99 j I hI (by decide) (by omega) W)
          have ea : Hid (affBit q j = bitN q j ^^^ bitN q (j + 4) ^^^ bitN q (j + 5) ^^^ bitN q (j + 6) ^^^ bitN q (j + 7) ^^^ bitN 99 j) := rfl
          have ha := affBit_lt q j
          have L0 : bitN q j < 2 := bitN_lt _ _
          generalize bitN q j = b0 at *
          have L1 : bitN q (j + 4) < 2 := bitN_lt _ _
          generalize bitN q (j + 4) = b1 at *
          have L2 : bitN q (j + 5) < 2 := bitN_lt _ _
          generalize bitN q (j + 5) = b2 at *
          have L3 : bitN q (j + 6) < 2 := bitN_lt _ _
          generalize bitN q (j + 6) = b3 at *
          have L4 : bitN q (j + 7) < 2 := bitN_lt _ _
          generalize bitN q (j + 7) = b4 at *
          have L5 : bitN 99 j < 2 := bitN_lt _ _
          generalize bitN 99 j = b5 at *
          have X1 := bits2 b0 b1 L0 L1
          have M1 := xor2 L0 L1
          generalize b0 ^^^ b1 = c1 at *
          have X2 := bits2 c1 b2 M1 L2
          have M2 := xor2 M1 L2
          generalize c1 ^^^ b2 = c2 at *
          have X3 := bits2 c2 b3 M2 L3
          have M3 := xor2 M2 L3
          generalize c2 ^^^ b3 = c3 at *
          have X4 := bits2 c3 b4 M3 L4
          have M4 := xor2 M3 L4
          generalize c3 ^^^ b4 = c4 at *
          have X5 := bits2 c4 b5 M4 L5
          have M5 := xor2 M4 L5
          generalize c4 ^^^ b5 = c5 at *
          rw [ea.out] at n1 ha
          clear ea ha
          go_wp2_with fail
          refine (B0.out _ _ (by omega)).mono ?_
          rintro e w' ⟨rfl, rfl⟩
          go_wp2_with fail
          refine (B1.out _ _ (by omega)).mono ?_
          rintro e w' ⟨rfl, rfl⟩
          go_wp2_with fail
          refine (B2.out _ _ (by omega)).mono ?_
          rintro e w' ⟨rfl, rfl⟩
          go_wp2_with fail
          refine (B3.out _ _ (by omega)).mono ?_
          rintro e w' ⟨rfl, rfl⟩
          go_wp2_with fail
          refine (B4.out _ _ (by omega)).mono ?_
          rintro e w' ⟨rfl, rfl⟩
          go_wp2_with fail
          refine (B5.out _ _ (by omega)).mono ?_
          rintro e w' ⟨rfl, rfl⟩
          go_wp2
          go_roundw
          case rel =>
            repeat apply Exists.intro
            exact ⟨⟨k + 1, r * 2 + c5, _, by omega, rfl, by go_num, ek, n1.out.symm, by first | rfl | trivial⟩, rfl⟩
          case measure => first | (simp [intOf]; done) | (simp [intOf]; omega)
        · have : k = 8 := by omega
          subst this
          obtain rfl : I = -1 := by rw [hI.out]; rfl
          go_wp2
          go_ret
          refine ⟨?_, rfl⟩
          rw [← box_aff h, invTo_all h, ← hinv.out, ← hr.out]
          rfl

end Go.Proofs.Ytmbkjbkbnigcfaa
