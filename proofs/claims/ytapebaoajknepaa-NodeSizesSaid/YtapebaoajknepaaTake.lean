/-
  Contracts of the document's TakeNumber.
-/
import Derived.Test.YtapebaoajknepaaTakeNum
import Derived.Lib.Strings
namespace Go.Proofs.Ytapebaoajknepaa
open Go.RowKit

theorem refStep (s : ByteArray) (j k a : Nat) (h1 : 1 ≤ j) (hj : j ≤ k) (hk : k ≤ 8) (hks : k ≤ s.size) (hjs : j - 1 < s.size) (ha : Hid (a = numV ((s.data.toList.take k).drop j))) :
    ∃ a', Value.int .u64 (IntKind.u64.wrap (IntKind.u64.wrap ((a : Int) * 256) + IntKind.u64.wrap ((s[j - 1]'hjs).toNat : Int))) = .int .u64 ((a' : Nat) : Int) ∧ Hid (a' = numV ((s.data.toList.take k).drop (j - 1))) := by
  have hl : ((s.data.toList.take k).drop j).length ≤ 7 := by rw [List.length_drop, List.length_take]; omega
  have hlt : a < 256 ^ 7 := by
    rw [ha.out]
    exact Nat.lt_of_lt_of_le (numV_lt _) (Nat.pow_le_pow_right (by decide) hl)
  have h7 : (256 : Nat) ^ 7 = 72057594037927936 := by decide
  have hb : (s[j - 1]'hjs).toNat < 256 := UInt8.toNat_lt _
  refine ⟨(s[j - 1]'hjs).toNat + 256 * a, ?_, ?_⟩
  · rw [IntWalk.u64_in ((a : Int) * 256) (by omega), IntWalk.u64_in ((s[j - 1]'hjs).toNat : Int) (by omega), IntWalk.u64_in _ (by omega)]
    congr 1
    omega
  · unfold Hid
    have hlen : j - 1 < (s.data.toList.take k).length := by rw [List.length_take, ba_size]; omega
    rw [List.drop_eq_getElem_cons hlen, numV, List.getElem_take, show j - 1 + 1 = j from by omega, ← ha.out]
    rfl

set_option maxHeartbeats 400000 in
theorem refTakeNumber_yes (s : ByteArray) (k : Nat) (h1 : 1 ≤ k) (h2 : k ≤ 8) (hks : k ≤ s.size) (hm : s.size ≤ 9223372036854775807) (w : World) :
    Calls Try.prog 38 #[.string s, .int .i64 (k : Int)] w fun e w' => e = .returned (.tuple #[.int .u64 (numV (s.data.toList.take k) : Int), .string (bs (s.data.toList.drop k)), .int .i64 0]) ∧ Below w.heap.size w w' := by
  have d1 : decide ((k : Int) < 1) = false := by simp; omega
  have d2 : decide ((8 : Int) < (k : Int)) = false := by simp; omega
  have d3 : decide (s.size < k) = false := by simp; omega
  have k0 : (0 : Int) ≤ (k : Int) := by omega
  have k1 : (k : Int) ≤ (s.size : Int) := by omega
  go_enter Try.func38, Try.ntmps38
  go_wp2
  go_loop [7, 8] (fun t i => ∃ j a : Nat, j ≤ k ∧ i = .int .i64 ((j : Int) - 1) ∧ t = .int .u64 (a : Int) ∧ Hid (a = numV ((s.data.toList.take k).drop j)))
    (fun _ i => (intOf i + 1).toNat)
  case atStart => exact ⟨k, 0, by omega, rfl, rfl, by unfold Hid; rw [List.drop_of_length_le (by simp; omega)]; rfl⟩
  case round =>
    obtain ⟨j, a, hj, rfl, rfl, ha⟩ := hrel
    by_cases hlt : 1 ≤ j
    · have e0 : (0 : Int) ≤ (j : Int) - 1 := by omega
      have e1 : ((j : Int) - 1).toNat < s.size := by omega
      obtain ⟨a', hst, ha'⟩ := refStep s j k a hlt hj h2 hks (by omega) ha
      have HST := Lib.hid hst; clear hst
      go_wp2
      go_round
      case rel => exact ⟨j - 1, a', by omega, by go_num, HST.out, ha'⟩
      case measure => simp [intOf]; omega
    · have : j = 0 := by omega
      subst this
      have E : Hid (s.extract k s.size = bs (s.data.toList.drop k)) := by
        unfold Hid; apply ba_ext; rw [ba_drop]; rfl
      have HA : Hid (a = numV (s.data.toList.take k)) := ha
      go_wp2
      go_quiet (fail)
      go_wp2
      go_ret3
      refine ⟨?_, below_drewN (Below.refl _ _) _⟩
      rw [← E.out, ← HA.out]
      rfl

set_option maxHeartbeats 400000 in
theorem refTakeNumber_short (s : ByteArray) (k : Nat) (h1 : 1 ≤ k) (h2 : k ≤ 8) (hks : s.size < k) (w : World) :
    Calls Try.prog 38 #[.string s, .int .i64 (k : Int)] w fun e w' => e = .returned (.tuple #[.int .u64 0, .string (bs []), .int .i64 10]) ∧ Below w.heap.size w w' := by
  have d1 : decide ((k : Int) < 1) = false := by simp; omega
  have d2 : decide ((8 : Int) < (k : Int)) = false := by simp; omega
  go_enter Try.func38, Try.ntmps38
  go_wp2
  go_ret3
  exact ⟨rfl, Below.refl _ _⟩

set_option maxHeartbeats 400000 in
theorem refTakeNumber_arg (s : ByteArray) (k : Int) (h : k < 1 ∨ 8 < k) (w : World) :
    Calls Try.prog 38 #[.string s, .int .i64 k] w fun e w' => e = .returned (.tuple #[.int .u64 0, .string (bs []), .int .i64 1]) ∧ Below w.heap.size w w' := by
  rcases h with h | h
  · go_enter Try.func38, Try.ntmps38
    go_wp2
    go_ret3
    exact ⟨rfl, Below.refl _ _⟩
  · have h1 : ¬ k < 1 := by omega
    go_enter Try.func38, Try.ntmps38
    go_wp2
    go_ret3
    exact ⟨rfl, Below.refl _ _⟩

theorem refTakeNumber_any (s : ByteArray) (k : Int) (hm : s.size ≤ 9223372036854775807) (w : World) :
    Calls Try.prog 38 #[.string s, .int .i64 k] w fun e w' => e = .returned (.tuple #[.int .u64 (tnN s k), .string (tnR s k), .int .i64 (tnE s k)]) ∧ Below w.heap.size w w' := by
  unfold tnN tnR tnE
  by_cases h : k < 1 ∨ 8 < k
  · rw [if_pos h, if_pos h, if_pos h]
    exact refTakeNumber_arg s k h w
  · rw [if_neg h, if_neg h, if_neg h]
    obtain ⟨k, rfl⟩ := Int.eq_ofNat_of_zero_le (show 0 ≤ k by omega)
    simp only [Int.toNat_natCast, ba_size]
    by_cases h2 : s.size < k
    · rw [if_pos h2, if_pos h2, if_pos h2]
      exact refTakeNumber_short s k (by omega) (by omega) h2 w
    · rw [if_neg h2, if_neg h2, if_neg h2]
      exact refTakeNumber_yes s k (by omega) (by omega) (Nat.le_of_not_lt h2) hm w

end Go.Proofs.Ytapebaoajknepaa
