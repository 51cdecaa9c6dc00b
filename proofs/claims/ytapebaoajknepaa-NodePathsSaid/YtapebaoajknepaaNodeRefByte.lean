/-
  Contracts: the document's small steps.
-/
import Derived.Test.YtapebaoajknepaaNodeRead
import Derived.Test.YtapebaoajknepaaTake
namespace Go.Proofs.Ytapebaoajknepaa
open Go.RowKit
set_option linter.unusedVariables false

/-- What a step of the document's answers. -/
def stepV (val : Nat → Value) (d : Except Nat (Nat × List UInt8)) : Value :=
  match d with
  | .error n => .tuple #[val 0, .string (bs []), .int .i64 (n : Int)]
  | .ok (n, R) => .tuple #[val n, .string (bs R), .int .i64 0]
theorem rdB_bad {b n : Nat} {L : List UInt8} (h : rdB b L = .error n) : n ≠ 0 := by
  cases L with
  | nil => cases h; decide
  | cons x t =>
    replace h : (if x.toNat < b then (.ok (x.toNat, t) : Except Nat (Nat × List UInt8)) else .error 1) = .error n := h
    by_cases hx : x.toNat < b
    · rw [if_pos hx] at h
      cases h
    · rw [if_neg hx] at h
      cases h
      decide
theorem rdN_bad {k n : Nat} {L : List UInt8} (h : rdN k L = .error n) : n ≠ 0 := by
  unfold rdN at h
  by_cases hk : L.length < k
  · rw [if_pos hk] at h
    cases h
    decide
  · rw [if_neg hk] at h
    cases h

set_option maxRecDepth 8000 in
theorem refByte_any (b : Nat) (L : List UInt8) (hL : L.length ≤ 100000) (w : World) :
    Calls Try.prog 30 #[.string (bs L), .int .i64 (b : Int)] w fun e w' => e = .returned (stepV (fun n => .int .i64 (n : Int)) (rdB b L)) ∧ Below w.heap.size w w' := by
  cases L with
  | nil =>
    have z : (bs []).size = 0 := rfl
    have z0 : (((bs []).size : Int) == 0) = true := rfl
    have hd : Hid (stepV (fun n => .int .i64 (n : Int)) (rdB b []) = .tuple #[.int .i64 0, .string ⟨#[]⟩, .int .i64 10]) := rfl
    generalize bs [] = s at z z0 ⊢
    go_enter Try.func30, Try.ntmps30
    go_wp2
    go_ret3
    exact ⟨by rw [hd.out]; rfl, Below.refl _ _⟩
  | cons x R =>
    have hs : (bs (x :: R)).data.toList = x :: (bs R).data.toList := rfl
    have hz : (bs (x :: R)).size ≤ 100000 := by rw [bs_size]; exact hL
    have hp := ba_cons_pos hs
    have E1 := Lib.hid (ba_cons_rest hs)
    have E2 := Lib.hid (ba_cons_head hs hp)
    have hd : Hid (rdB b (x :: R) = if x.toNat < b then .ok (x.toNat, R) else .error 1) := rfl
    have h0 : (((bs (x :: R)).size : Int) == 0) = false := beq_eq_false_iff_ne.2 (by omega)
    have h1 : (0 : Int) < (bs (x :: R)).size := by omega
    have h2 : (1 : Int) ≤ (bs (x :: R)).size := by omega
    have W : Hid (wrap64 ((x.toNat : Nat) : Int) = (x.toNat : Int)) := by have := UInt8.toNat_lt x; unfold Hid wrap64; omega
    generalize bs (x :: R) = s at *
    generalize x :: R = L at *
    by_cases hb : x.toNat < b
    · replace hd : Hid (stepV (fun n => .int .i64 (n : Int)) (rdB b L) = .tuple #[.int .i64 (x.toNat : Int), .string (bs R), .int .i64 0]) := by unfold Hid; rw [hd.out, if_pos hb]; rfl
      have d1 : decide (wrap64 ((x.toNat : Nat) : Int) ≥ (b : Int)) = false := decide_eq_false (by rw [W.out]; omega)
      have d2 : decide ((b : Int) ≤ wrap64 ((x.toNat : Nat) : Int)) = false := d1
      rw [← E2.out] at d1 d2
      clear hb hs
      go_enter Try.func30, Try.ntmps30
      go_wp2
      go_quiet (fail)
      go_wp2
      go_ret3
      exact ⟨by rw [hd.out, ← E1.out, ← W.out, ← E2.out]; rfl, below_drewN (Below.refl _ _) _⟩
    · replace hd : Hid (stepV (fun n => .int .i64 (n : Int)) (rdB b L) = .tuple #[.int .i64 0, .string ⟨#[]⟩, .int .i64 1]) := by unfold Hid; rw [hd.out, if_neg hb]; rfl
      have d1 : decide (wrap64 ((x.toNat : Nat) : Int) ≥ (b : Int)) = true := decide_eq_true (by rw [W.out]; omega)
      have d2 : decide ((b : Int) ≤ wrap64 ((x.toNat : Nat) : Int)) = true := d1
      rw [← E2.out] at d1 d2
      clear hb hs
      go_enter Try.func30, Try.ntmps30
      go_wp2
      go_ret3
      exact ⟨by rw [hd.out]; rfl, Below.refl _ _⟩
theorem refNum_any (L : List UInt8) (hL : L.length ≤ 100000) (w : World) :
    Calls Try.prog 38 #[.string (bs L), .int .i64 8] w fun e w' => e = .returned (stepV (fun n => .int .u64 (n : Int)) (rdN 8 L)) ∧ Below w.heap.size w w' := by
  by_cases hk : L.length < 8
  · have hd : rdN 8 L = .error 10 := if_pos hk
    rw [hd]
    exact refTakeNumber_short (bs L) 8 (by decide) (by decide) (by rw [bs_size]; exact hk) w
  · have hd : rdN 8 L = .ok (numV (L.take 8), L.drop 8) := if_neg hk
    rw [hd]
    exact refTakeNumber_yes (bs L) 8 (by decide) (by decide) (by rw [bs_size]; omega) (by rw [bs_size]; omega) w
def keyR (L : List UInt8) : Value := if L.length < 16 then .tuple #[.agg (rowOf 16 (w8 zeroN)), .string (bs []), .int .i64 10] else .tuple #[.agg (rowOf 16 (w8 (keyL L))), .string (bs (L.drop 16)), .int .i64 0]
theorem refKey_any (L : List UInt8) (hL : L.length ≤ 100000) (w : World) :
    Calls Try.prog 37 #[.string (bs L)] w fun e w' => e = .returned (keyR L) ∧ Below w.heap.size w w' := by
  unfold keyR
  by_cases hk : L.length < 16
  · rw [if_pos hk, ← keyC_nil]
    exact refTakeKey_short (bs L) (by rw [bs_size]; omega) w
  · rw [if_neg hk, ← keyC_row L hk]
    exact refTakeKey_yes (bs L) (by rw [bs_size]; omega) (by rw [bs_size]; omega) w
theorem rdB_left {b n : Nat} {L R : List UInt8} (h : rdB b L = .ok (n, R)) : R.length ≤ L.length := by
  obtain ⟨e, _⟩ := rdB_ok h
  rw [e, List.length_append]
  omega
theorem rdN_left {k n : Nat} {L R : List UInt8} (h : rdN k L = .ok (n, R)) : R.length ≤ L.length := by
  obtain ⟨e, _⟩ := rdN_ok h
  rw [e, List.length_append]
  omega

end Go.Proofs.Ytapebaoajknepaa
