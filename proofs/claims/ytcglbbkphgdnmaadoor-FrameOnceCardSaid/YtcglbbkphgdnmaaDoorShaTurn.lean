/-
  Contracts: RotateLeft32, the document's right and turn, the closure that turns, and what makes it.
-/
import Derived.Test.YtcglbbkphgdnmaaDoorShaRows
namespace Go.Proofs.YtcglbbkphgdnmaaDoor
open Go.RowKit

set_option maxHeartbeats 400000 in
theorem rot_any (x : Nat) (n : Nat) (hx : x < 4294967296) (h1 : 1 ≤ n) (h2 : n ≤ 31) (w : World) :
    Calls Tryd.prog 76 #[.int .u32 x, .int .i64 (-(n : Int))] w fun e w' => e = .returned (.int .u32 (rotr x n : Nat)) ∧ w' = w := by
  obtain ⟨c, hc⟩ : ∃ c, c = 32 - n := ⟨_, rfl⟩
  have e1 := rot_count n h1 h2
  rw [← hc] at e1
  have e2 := Lib.hid (rot_value x n hx h1 h2 c hc)
  have c1 : 1 ≤ c := by omega
  have c2 : c ≤ 31 := by omega
  clear hc
  go_enter Tryd.func76, Tryd.ntmps76
  go_wp2
  go_ret
  refine ⟨?_, rfl⟩
  rw [← e2.out]
  rfl

/-- The document's turn, bit by bit. -/
theorem turn_next (x j : Nat) (hj : j < 32) (y : Nat) (hy : y = rotr x j) : y / 2 + y % 2 * 2147483648 = rotr x (j + 1) := by
  subst hy
  exact (rotr_succ x j hj).symm

set_option maxHeartbeats 400000 in
theorem turn_any (x : Nat) (n : Nat) (hx : x < 4294967296) (h2 : n ≤ 31) (w : World) :
    Calls Tryd.prog 54 #[.int .u64 x, .int .i64 (n : Int)] w fun e w' => e = .returned (.int .u64 (rotr x n : Nat)) ∧ w' = w := by
  go_enter Tryd.func54, Tryd.ntmps54
  go_wp2
  go_loopw [0, 5] (fun t i wr => ∃ j y : Nat, j ≤ n ∧ i = .int .i64 j ∧ t = .int .u64 y ∧ y < 4294967296 ∧ Hid (y = rotr x j) ∧ wr = w)
    (fun _ i _ => n - (intOf i).toNat)
  case atStart => exact ⟨0, x, by omega, rfl, rfl, hx, (rotr_zero x).symm, rfl⟩
  case round =>
    obtain ⟨j, y, hj, rfl, rfl, hy, hr, rfl⟩ := hrel
    by_cases hlt : j < n
    · have e1 := Lib.hid (turn_next x j (by omega) y hr.out)
      have l1 := rotr_lt x (j + 1) hx (by omega)
      have e2 : (y : Int) / 2 + (y : Int) % 2 * 2147483648 = ((rotr x (j + 1) : Nat) : Int) := by rw [← e1.out]; omega
      generalize hz : rotr x (j + 1) = z at *
      have hz' := Lib.hid hz
      have e3 := Lib.hid e2
      clear e2 hz e1
      go_wp2
      go_roundw
      case rel => exact ⟨j + 1, z, by omega, by go_num, by rw [← e3.out], l1, hz'.out.symm, by first | rfl | trivial⟩
      case measure => simp [intOf]; omega
    · have : j = n := by omega
      subst this
      go_wp2
      go_ret
      exact ⟨by rw [← hr.out]; rfl, rfl⟩

set_option maxHeartbeats 400000 in
theorem right_any (x : Nat) (n : Nat) (hx : x < 18446744073709551616) (hn : n ≤ 1000) (w : World) :
    Calls Tryd.prog 39 #[.int .u64 x, .int .i64 (n : Int)] w fun e w' => e = .returned (.int .u64 (x / 2 ^ n : Nat)) ∧ w' = w := by
  go_enter Tryd.func39, Tryd.ntmps39
  go_wp2
  go_loopw [0, 5] (fun t i wr => ∃ j y : Nat, j ≤ n ∧ i = .int .i64 j ∧ t = .int .u64 y ∧ y < 18446744073709551616 ∧ Hid (y = x / 2 ^ j) ∧ wr = w)
    (fun _ i _ => n - (intOf i).toNat)
  case atStart => exact ⟨0, x, by omega, rfl, rfl, hx, by simp [Hid], rfl⟩
  case round =>
    obtain ⟨j, y, hj, rfl, rfl, hy, hr, rfl⟩ := hrel
    by_cases hlt : j < n
    · have e1 : Hid (y / 2 = x / 2 ^ (j + 1)) := by unfold Hid; rw [hr.out, Nat.pow_succ, Nat.div_div_eq_div_mul]
      go_wp2
      go_roundw
      case rel => exact ⟨j + 1, y / 2, by omega, by go_num, by go_num, by omega, e1, by first | rfl | trivial⟩
      case measure => simp [intOf]; omega
    · have : j = n := by omega
      subst this
      go_wp2
      go_ret
      exact ⟨by rw [← hr.out]; rfl, rfl⟩

/-- The numbers of bits, as cells. -/
def nums (ns : List Nat) : List Value := ns.map fun n => .int .i64 (n : Nat)

set_option maxHeartbeats 400000 in
theorem turns1_any (g p : Nat) (ns : List Nat) (l cap : Nat) (x : Nat) (hx : x < 4294967296) (hns : ∀ n ∈ ns, 1 ≤ n ∧ n ≤ 31) (hl : l = ns.length) (hl9 : l ≤ 9) (w : World)
    (hp : Hid (RowAt w p 118 #[.slice (some ⟨g, 0, none⟩) l cap])) (hg : Hid (∀ (j n : Nat), ns[j]? = some n → w.cell? ⟨g, j, none⟩ = some (.int .i64 (n : Nat)))) :
    Calls Tryd.prog 75 #[.int .u32 x, .pointer (some ⟨p, 0, none⟩)] w fun e w' => e = .returned (.int .u32 (turnsN x ns : Nat)) ∧ w' = w := by
  have cp := cell_of_one hp.out
  go_enter Tryd.func75, Tryd.ntmps75
  go_wp2
  clear cp
  go_loopw [4, 9] (fun t i wr => ∃ j y : Nat, j ≤ l ∧ i = .int .i64 j ∧ t = .int .u32 y ∧ y < 4294967296 ∧ Hid (y = turnsN x (ns.take j)) ∧ wr = w)
    (fun _ i _ => l - (intOf i).toNat)
  case atStart => exact ⟨0, 0, by omega, rfl, rfl, by omega, by simp [Hid, turnsN], rfl⟩
  case round =>
    obtain ⟨j, y, hj, rfl, rfl, hy, hr, rfl⟩ := hrel
    by_cases hlt : j < l
    · have hjn : j < ns.length := by omega
      obtain ⟨n, hn⟩ : ∃ n, ns[j] = n := ⟨_, rfl⟩
      have hn2 : ns[j]? = some n := by rw [List.getElem?_eq_getElem hjn, hn]
      have cj := hg.out j n hn2
      have hm := hns n (List.mem_of_getElem? hn2)
      have h1 := hm.1
      have h2 := hm.2
      have hy2 : Hid (y ^^^ rotr x n = turnsN x (ns.take (j + 1))) := by
        unfold Hid
        rw [List.take_succ_eq_append_getElem hjn, turnsN_snoc, ← hr.out, hn]
      have e1 := bits_xor_u32_nat y (rotr x n) hy (rotr_lt x n hx (by omega))
      have l1 := xor_lt y (rotr x n) hy (rotr_lt x n hx (by omega))
      have E1 := Lib.hid e1
      clear hm hn2 hn e1
      go_wp2_with fail
      refine (rot_any x n hx h1 h2 _).mono ?_
      rintro e w' ⟨rfl, rfl⟩
      go_wp2
      go_roundw
      case rel => exact ⟨j + 1, y ^^^ rotr x n, by omega, by go_num, by rw [← E1.out], l1, hy2, by first | rfl | trivial⟩
      case measure => simp [intOf]; omega
    · have : j = ns.length := by omega
      subst this
      go_wp2
      go_ret
      refine ⟨?_, rfl⟩
      have := hr.out
      rw [List.take_of_length_le (Nat.le_refl _)] at this
      rw [← this]
      rfl

end Go.Proofs.YtcglbbkphgdnmaaDoor
