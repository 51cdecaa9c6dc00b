/-
  Contracts: timesX, Times, the document's Times, bit.
-/
import Derived.Test.YtmbkjbkbnigcfaaKeys
import Derived.Test.YtmbkjbkbnigcfaaAesState
import Derived.Laws.BitsAllLaws
namespace Go.Proofs.Ytmbkjbkbnigcfaa
open Go.RowKit

theorem xt_all : all1 (fun a => (a * 2 % 256) ^^^ (a / 128 * 27) == xtN a) = true := by kernel_rfl
theorem xt_form {a : Nat} (h : a < 256) : (a * 2 % 256) ^^^ (a / 128 * 27) = xtN a := by simpa using of_all1 xt_all h

theorem xt_bits (a : Nat) (h : a < 256) : bits .xor .u8 ((a : Int) * 2 % 256) ((a : Int) / 128 * 27) = ((xtN a : Nat) : Int) := by
  have e := u8_xor_nat (a * 2 % 256) (a / 128 * 27) (by omega) (by omega)
  rw [xt_form h] at e
  rw [← e]
  simp

set_option maxHeartbeats 400000 in
theorem timesX_any (a : Nat) (h : a < 256) (w : World) :
    Calls Try.prog 40 #[.int .u8 (a : Int)] w fun e w' => e = .returned (.int .u8 (xtN a : Nat)) ∧ w' = w := by
  have e1 := Lib.hid (xt_bits a h)
  go_enter Try.func40, Try.ntmps40
  go_wp2
  go_ret
  refine ⟨?_, rfl⟩
  rw [← e1.out]
  rfl

theorem timesTo_end (a b k : Nat) (h : b / 2 ^ k = 0) : ∀ m, timesTo a b (k + m) = timesTo a b k
  | 0 => rfl
  | m + 1 => by
    have h0 : b / 2 ^ (k + m) = 0 := by rw [Nat.pow_add, ← Nat.div_div_eq_div_mul, h, Nat.zero_div]
    show (if b / 2 ^ (k + m) % 2 = 1 then _ else _) = _
    rw [h0, if_neg (by decide)]
    exact timesTo_end a b k h m

theorem times_end (a b k : Nat) (hb : b < 256) (h : b / 2 ^ k = 0) : timesTo a b k = timesN a b := by
  unfold timesN
  by_cases hk : k ≤ 8
  · have := timesTo_end a b k h (8 - k)
    rw [show k + (8 - k) = 8 by omega] at this
    exact this.symm
  · have := timesTo_end a b 8 (by omega) (k - 8)
    rw [show 8 + (k - 8) = k by omega] at this
    exact this

theorem and_one (y : Nat) (h : y < 256) : bits .and .u8 (y : Int) 1 = ((y % 2 : Nat) : Int) := by
  have := u8_and_nat y 1 h (by decide)
  rw [Nat.and_one_is_mod] at this
  exact this

theorem div_next (b k : Nat) : b / 2 ^ k / 2 = b / 2 ^ (k + 1) := by rw [Nat.pow_succ, Nat.div_div_eq_div_mul]

set_option maxHeartbeats 400000 in
theorem times_any (a b : Nat) (ha : a < 256) (hb : b < 256) (w : World) :
    Calls Try.prog 41 #[.int .u8 (a : Int), .int .u8 (b : Int)] w fun e w' => e = .returned (.int .u8 (timesN a b : Nat)) ∧ w' = w := by
  go_enter Try.func41, Try.ntmps41
  go_wp2
  go_loopw [0, 1, 5] (fun x y z wr => ∃ k p q r : Nat, x = .int .u8 p ∧ y = .int .u8 q ∧ z = .int .u8 r ∧ p < 256 ∧ q < 256 ∧ r < 256 ∧ Hid (p = xtsN a k) ∧ Hid (q = b / 2 ^ k) ∧ Hid (r = timesTo a b k) ∧ wr = w)
    (fun _ y _ _ => (intOf y).toNat)
  case atStart => exact ⟨0, a, b, 0, rfl, rfl, rfl, ha, hb, by omega, rfl, by simp [Hid], rfl, rfl⟩
  case round =>
    obtain ⟨k, p, q, r, rfl, rfl, rfl, hp, hq, hr, hx, hy, hz, rfl⟩ := hrel
    by_cases h0 : q = 0
    · subst h0
      go_wp2
      go_ret
      refine ⟨?_, rfl⟩
      rw [← times_end a b k hb hy.out.symm, ← hz.out]
      rfl
    have d0 : ((q : Int) == 0) = false := by simp; omega
    have e1 := and_one q hq
    by_cases h1 : q % 2 = 1
    · rw [h1] at e1
      have e2 := Lib.hid (u8_xor_nat r p hr hp)
      go_wp2_with fail
      refine (timesX_any p hp _).mono ?_
      rintro e w' ⟨rfl, rfl⟩
      go_wp2
      go_roundw
      case rel =>
        refine ⟨k + 1, xtN p, q / 2, r ^^^ p, rfl, by first | rfl | go_num, by rw [e2.out], xt_lt hp, by omega, xor8 hr hp, ?_, ?_, ?_, by first | rfl | trivial⟩
        · unfold Hid; rw [hx.out]; rfl
        · unfold Hid; rw [hy.out, div_next]
        · unfold Hid
          show _ = if b / 2 ^ k % 2 = 1 then timesTo a b k ^^^ xtsN a k else timesTo a b k
          rw [← hy.out, if_pos h1, hz.out, hx.out]
      case measure => simp [intOf]; omega
    · have h2 : q % 2 = 0 := by omega
      rw [h2] at e1
      go_wp2_with fail
      refine (timesX_any p hp _).mono ?_
      rintro e w' ⟨rfl, rfl⟩
      go_wp2
      go_roundw
      case rel =>
        refine ⟨k + 1, xtN p, q / 2, r, rfl, by first | rfl | go_num, rfl, xt_lt hp, by omega, hr, ?_, ?_, ?_, by first | rfl | trivial⟩
        · unfold Hid; rw [hx.out]; rfl
        · unfold Hid; rw [hy.out, div_next]
        · unfold Hid
          show _ = if b / 2 ^ k % 2 = 1 then timesTo a b k ^^^ xtsN a k else timesTo a b k
          rw [← hy.out, if_neg h1, hz.out]
      case measure => simp [intOf]; omega

theorem xt_high (p : Nat) (h : 128 ≤ p) : bits .xor .u8 ((p : Int) * 2 % 256) 27 = ((xtN p : Nat) : Int) := by
  have e := u8_xor_nat (p * 2 % 256) 27 (by omega) (by decide)
  unfold xtN
  rw [if_pos h, Nat.mul_comm 2 p, ← e]
  simp
theorem xt_low (p : Nat) (h : ¬ 128 ≤ p) : xtN p = p * 2 := by
  unfold xtN
  rw [if_neg h]
  omega

theorem timesTo_next (a b k p q r : Nat) (hx : p = xtsN a k) (hy : q = b / 2 ^ k) (hz : r = timesTo a b k) : timesTo a b (k + 1) = if q % 2 = 1 then r ^^^ p else r := by
  subst hx hy hz
  rfl

set_option maxHeartbeats 1000000 in
theorem refTimes_any (a b : Nat) (ha : a < 256) (hb : b < 256) (w : World) :
    Calls Try.prog 22 #[.int .u8 (a : Int), .int .u8 (b : Int)] w fun e w' => e = .returned (.int .u8 (timesN a b : Nat)) ∧ w' = w := by
  go_enter Try.func22, Try.ntmps22
  go_wp2
  go_loopw [0, 1, 5, 6] (fun x y z i wr => ∃ k p q r : Nat, k ≤ 8 ∧ i = .int .i64 k ∧ x = .int .u8 p ∧ y = .int .u8 q ∧ z = .int .u8 r ∧ p < 256 ∧ q < 256 ∧ r < 256 ∧ Hid (p = xtsN a k) ∧ Hid (q = b / 2 ^ k) ∧ Hid (r = timesTo a b k) ∧ wr = w)
    (fun _ _ _ i _ => 8 - (intOf i).toNat)
  case atStart => exact ⟨0, a, b, 0, by omega, rfl, rfl, rfl, rfl, ha, hb, by omega, rfl, by simp [Hid], rfl, rfl⟩
  case round =>
    obtain ⟨k, p, q, r, hk, rfl, rfl, rfl, rfl, hp, hq, hr, hx, hy, hz, rfl⟩ := hrel
    by_cases h8 : k < 8
    · have n1 : Hid (xtN p = xtsN a (k + 1)) := by unfold Hid; rw [hx.out]; rfl
      have n2 : Hid (q / 2 = b / 2 ^ (k + 1)) := by unfold Hid; rw [hy.out, div_next]
      have n3 := Lib.hid (timesTo_next a b k p q r hx.out hy.out hz.out)
      have l1 := xt_lt hp
      have E2 := Lib.hid (u8_xor_nat r p hr hp)
      by_cases h1 : q % 2 = 1
      · have d1 : ((q : Int) % 2 == 1) = true := by simp; omega
        rw [if_pos h1] at n3
        by_cases h2 : 128 ≤ p
        · have d2 : decide ((128 : Int) ≤ (p : Int)) = true := decide_eq_true (by omega)
          have E1 := Lib.hid (xt_high p h2)
          go_wp2
          go_roundw
          case rel => exact ⟨k + 1, xtN p, q / 2, r ^^^ p, by omega, by go_num, by rw [← E1.out], by first | rfl | go_num, by rw [← E2.out], l1, by omega, xor8 hr hp, n1, n2, n3.out.symm, by first | rfl | trivial⟩
          case measure => simp [intOf]; omega
        · have d2 : decide ((128 : Int) ≤ (p : Int)) = false := decide_eq_false (by omega)
          have E1 := Lib.hid (xt_low p h2)
          go_wp2
          go_roundw
          case rel => exact ⟨k + 1, xtN p, q / 2, r ^^^ p, by omega, by go_num, by rw [E1.out]; go_num, by first | rfl | go_num, by rw [← E2.out], l1, by omega, xor8 hr hp, n1, n2, n3.out.symm, by first | rfl | trivial⟩
          case measure => simp [intOf]; omega
      · have d1 : ((q : Int) % 2 == 1) = false := by simp; omega
        rw [if_neg h1] at n3
        by_cases h2 : 128 ≤ p
        · have d2 : decide ((128 : Int) ≤ (p : Int)) = true := decide_eq_true (by omega)
          have E1 := Lib.hid (xt_high p h2)
          go_wp2
          go_roundw
          case rel => exact ⟨k + 1, xtN p, q / 2, r, by omega, by go_num, by rw [← E1.out], by first | rfl | go_num, rfl, l1, by omega, hr, n1, n2, n3.out.symm, by first | rfl | trivial⟩
          case measure => simp [intOf]; omega
        · have d2 : decide ((128 : Int) ≤ (p : Int)) = false := decide_eq_false (by omega)
          have E1 := Lib.hid (xt_low p h2)
          go_wp2
          go_roundw
          case rel => exact ⟨k + 1, xtN p, q / 2, r, by omega, by go_num, by rw [E1.out]; go_num, by first | rfl | go_num, rfl, l1, by omega, hr, n1, n2, n3.out.symm, by first | rfl | trivial⟩
          case measure => simp [intOf]; omega
    · have : k = 8 := by omega
      subst this
      go_wp2
      go_ret
      refine ⟨?_, rfl⟩
      have := hz.out
      unfold timesN
      rw [← this]
      rfl

set_option maxHeartbeats 400000 in
theorem bit_any (x i : Nat) (hx : x < 256) (hi : i < 1000) (w : World) :
    Calls Try.prog 36 #[.int .u8 (x : Int), .int .i64 (i : Int)] w fun e w' => e = .returned (.int .u8 (bitN x i : Nat)) ∧ w' = w := by
  obtain ⟨n, hn⟩ : ∃ n, n = i % 8 := ⟨_, rfl⟩
  have e1 : (i : Int) % 8 = (n : Int) := by omega
  have n8 : n < 8 := by omega
  have e2 : Hid (bitN x i = x / 2 ^ n % 2) := by unfold Hid bitN; rw [hn]
  clear hn
  go_enter Try.func36, Try.ntmps36
  go_wp2
  go_loopw [0, 5] (fun y j wr => ∃ k p : Nat, k ≤ n ∧ j = .int .i64 k ∧ y = .int .u8 p ∧ p < 256 ∧ Hid (p = x / 2 ^ k) ∧ wr = w)
    (fun _ j _ => n - (intOf j).toNat)
  case atStart => exact ⟨0, x, by omega, rfl, rfl, hx, by simp [Hid], rfl⟩
  case round =>
    obtain ⟨k, p, hk, rfl, rfl, hp, hr, rfl⟩ := hrel
    by_cases hlt : k < n
    · have n2 : Hid (p / 2 = x / 2 ^ (k + 1)) := by unfold Hid; rw [hr.out, div_next]
      go_wp2
      go_roundw
      case rel => exact ⟨k + 1, p / 2, by omega, by go_num, by first | rfl | go_num, by omega, n2, by first | rfl | trivial⟩
      case measure => simp [intOf]; omega
    · have : k = n := by omega
      subst this
      go_wp2
      go_ret
      refine ⟨?_, rfl⟩
      rw [e2.out, ← hr.out]
      rfl

end Go.Proofs.Ytmbkjbkbnigcfaa
