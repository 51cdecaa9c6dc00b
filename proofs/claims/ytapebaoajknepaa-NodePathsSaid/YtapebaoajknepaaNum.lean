/-
  Contracts of the functions of package field that write numbers: isWidth, fits, appendNumber.
-/
import Derived.Test.YtapebaoajknepaaBytes
import Derived.Test.YtapebaoajknepaaProg
import Derived.Test.YtapebaoajknepaaMath
import Derived.WalkKit
import Derived.WalkSpells
import Derived.WalkLawsBesides
import Derived.BigQuiet
import Derived.Deep.QuietTactic
import Derived.Lib.Hide
namespace Go.Proofs.Ytapebaoajknepaa
open Go.RowKit

set_option maxHeartbeats 400000 in
set_option maxRecDepth 8000 in
theorem isWidth_yes (k : Int) (h1 : 1 ≤ k) (h2 : k ≤ 8) (w : World) :
    Calls Try.prog 39 #[.int .i64 k] w fun e w' => e = .returned (.bool true) ∧ w = w' := by
  go_enter Try.func39, Try.ntmps39
  go_wp2
  go_ret
  exact ⟨rfl, rfl⟩

set_option maxHeartbeats 400000 in
set_option maxRecDepth 8000 in
theorem isWidth_no (k : Int) (h : k < 1 ∨ 8 < k) (w : World) :
    Calls Try.prog 39 #[.int .i64 k] w fun e w' => e = .returned (.bool false) ∧ w = w' := by
  rcases h with h | h
  · have h1 : ¬ 1 ≤ k := by omega
    go_enter Try.func39, Try.ntmps39
    go_wp2
    go_ret
    exact ⟨rfl, rfl⟩
  · have h1 : 1 ≤ k := by omega
    have h2 : ¬ k ≤ 8 := by omega
    go_enter Try.func39, Try.ntmps39
    go_wp2
    go_ret
    exact ⟨rfl, rfl⟩

/-- Is 'n' below 256^k? -/
def fitsB (n : Int) (k : Int) : Bool := decide (n.toNat < 256 ^ k.toNat)

theorem pow2_8 (k : Nat) : (2 : Int) ^ (8 * k) = ((256 ^ k : Nat) : Int) := by
  rw [Int.pow_mul, Int.natCast_pow]
  rfl

theorem fits_eq (n k : Int) (hn : 0 ≤ n) (h1 : 1 ≤ k) : (n / 2 ^ (8 * k).toNat == 0) = fitsB n k := by
  obtain ⟨m, rfl⟩ := Int.eq_ofNat_of_zero_le hn
  obtain ⟨j, rfl⟩ := Int.eq_ofNat_of_zero_le (show 0 ≤ k by omega)
  have e : (8 * (j : Int)).toNat = 8 * j := by omega
  have hp : 0 < 256 ^ j := Nat.pow_pos (by decide)
  rw [e, pow2_8, ← Int.natCast_ediv]
  unfold fitsB
  simp only [Int.toNat_natCast]
  rw [Bool.eq_iff_iff]
  simp only [beq_iff_eq, decide_eq_true_eq]
  rw [show ((m / 256 ^ j : Nat) : Int) = 0 ↔ m / 256 ^ j = 0 from by omega, Nat.div_eq_zero_iff]
  omega

theorem fits_8 (n : Int) (h : n < 18446744073709551616) : fitsB n 8 = true := by
  unfold fitsB
  simp only [decide_eq_true_eq]
  have : (256 : Nat) ^ (8 : Int).toNat = 18446744073709551616 := by decide
  omega

set_option maxHeartbeats 400000 in
set_option maxRecDepth 8000 in
theorem fits_any (n : Int) (k : Int) (hn : 0 ≤ n) (hN : Hid (n < 18446744073709551616)) (h1 : 1 ≤ k) (h2 : k ≤ 8) (w : World) :
    Calls Try.prog 40 #[.int .u64 n, .int .i64 k] w fun e w' => e = .returned (.bool (fitsB n k)) ∧ w = w' := by
  by_cases h8 : k = 8
  · subst h8
    go_enter Try.func40, Try.ntmps40
    go_wp2
    go_ret
    exact ⟨by rw [fits_8 n hN.out]; rfl, rfl⟩
  · have h0 : ((k : Int) == 8) = false := by simpa using h8
    have E := Lib.hid (fits_eq n k hn h1)
    go_enter Try.func40, Try.ntmps40
    go_wp2
    go_ret
    exact ⟨by rw [← E.out]; rfl, rfl⟩

/-- What appending to a row of the call's own comes to. -/
def Appended (base : Nat) (w : World) (n : Nat) (xs : List Value) (e : Ending) (w' : World) : Prop :=
  ∃ v', e = .returned v' ∧ w'.ownsRow base 5 1 v' n xs ∧ Below base w w'

theorem byte_val (r : Nat) : Value.int .u8 ((r : Int) % 256) = bv (UInt8.ofNat r) := by
  unfold bv
  simp

set_option maxHeartbeats 400000 in
set_option maxRecDepth 8000 in
theorem appendNumber_any (base : Nat) (v : Value) (m : Nat) (xs : List Value) (n k : Int) (hn : 0 ≤ n) (hk0 : 0 ≤ k) (hk8 : k ≤ 8) (w : World)
    (hown : w.ownsRow base 5 1 v m xs) (hb : base ≤ w.heap.size) (hm : m ≤ 100000000) :
    Calls Try.prog 41 #[v, .int .u64 n, .int .i64 k] w (Appended base w (m + k.toNat) (xs ++ (numB k.toNat n.toNat).map bv)) := by
  obtain ⟨i0, hi, hz0, hz1, hz2⟩ := info_parts Try.info5
  obtain ⟨n, rfl⟩ := Int.eq_ofNat_of_zero_le hn
  obtain ⟨k, rfl⟩ := Int.eq_ofNat_of_zero_le hk0
  simp only [Int.toNat_natCast]
  clear hn hk0
  go_enter Try.func41, Try.ntmps41
  go_wp2
  go_loopw [0, 1, 8] (fun v t i wr => ∃ j r : Nat, j ≤ k ∧ i = .int .i64 j ∧ t = .int .u64 r ∧ Hid (r = n / 256 ^ j) ∧
      wr.ownsRow base 5 1 v (m + j) (xs ++ (numB j n).map bv) ∧ Below base w wr)
    (fun _ _ i _ => k - (intOf i).toNat)
  case atStart => exact ⟨0, n, by omega, rfl, rfl, by simp [Hid], by simpa [numB] using hown, Below.refl _ _⟩
  case round =>
    clear hown
    obtain ⟨j, r, hj, rfl, rfl, hr, hown, hbl⟩ := hrel
    have hsz := hbl.size
    by_cases hlt : j < k
    · go_wp2_with (at_builtin; refine wpList_append_own _ rfl _ _ 58 rfl base 5 i0 (.int .u8 0) 1 1 Try.underlying58 hi hz0 hz1 hz2 rfl (by decide) _ _ _ rfl (hown.alloc _) ⟨wr.heap.size, 0, none⟩ 1 1 [.int .u8 ((r : Int) % 256)] rfl rfl ?c1 ?c2 ?c3 ?c4 ?c5 ?_)
      case c1 =>
        intro q u hq
        match q, hq with
        | 0, hq => simp at hq; subst hq; simp [Addr.add]
      case c2 => intro u hu; simp at hu; subst hu; rfl
      case c3 => unfold maxLen; omega
      case c4 => omega
      case c5 => simp; omega
      · intro v' w1 hown' hgrow _
        have hown2 : w1.ownsRow base 5 1 v' (m + (j + 1)) (xs ++ (numB (j + 1) n).map bv) := by
          rw [numB_snoc, ← hr.out, List.map_append, List.map_singleton, ← byte_val]
          exact hown'
        have hbl2 : Below base w w1 := (hbl.alloc (by omega) _).grown hgrow (by simp; omega) (fun g hg => (hown.lt g hg).1)
        have hr2 : Hid (r / 256 = n / 256 ^ (j + 1)) := by
          unfold Hid; rw [hr.out, Nat.div_div_eq_div_mul, Nat.pow_succ]
        clear hown' hgrow hown hbl
        go_wp2
        go_roundw
        case rel => exact ⟨j + 1, r / 256, by omega, by go_num, by go_num, hr2, hown2, hbl2⟩
        case measure => simp [intOf]; omega
    · go_wp2
      go_ret
      have : j = k := by omega
      subst this
      exact ⟨_, rfl, hown, hbl⟩

/-- Number's answers: the text, and the error. -/
def numS (n k : Int) : ByteArray := if 1 ≤ k ∧ k ≤ 8 ∧ fitsB n k = true then bs (numB k.toNat n.toNat) else bs []
def numE (n k : Int) : Int := if 1 ≤ k ∧ k ≤ 8 ∧ fitsB n k = true then 0 else 1

set_option maxHeartbeats 400000 in
set_option maxRecDepth 8000 in
theorem number_yes (n k : Int) (hn : 0 ≤ n) (hN : Hid (n < 18446744073709551616)) (h1 : 1 ≤ k) (h2 : k ≤ 8) (hf : fitsB n k = true) (w : World) :
    Calls Try.prog 33 #[.int .u64 n, .int .i64 k] w fun e w' => e = .returned (.tuple #[.string (bs (numB k.toNat n.toNat)), .int .i64 0]) ∧ Below w.heap.size w w' := by
  go_enter Try.func33, Try.ntmps33
  go_wp2_with fail
  refine (isWidth_yes k h1 h2 _).mono ?_
  rintro e w' ⟨rfl, rfl⟩
  go_wp2_with fail
  refine (fits_any n k hn hN h1 h2 _).mono ?_
  rintro e w' ⟨rfl, rfl⟩
  go_wp2_with fail
  refine (appendNumber_any w.heap.size _ 0 [] n k hn (by omega) h2 _ (World.ownsRow_nil _ _ _ _) (Nat.le_refl _) (by omega)).mono ?_
  rintro e w1 ⟨v', rfl, hown, hbl⟩
  have hcv := own_string (P := Try.prog) (src := 58) (dst := 9) (numB k.toNat n.toNat) Try.underlying58 Try.underlying5 Try.underlying9 hown
  go_wp2
  go_ret2
  exact ⟨rfl, hbl⟩

set_option maxHeartbeats 400000 in
set_option maxRecDepth 8000 in
theorem number_no (n k : Int) (hn : 0 ≤ n) (hN : Hid (n < 18446744073709551616)) (h : Hid ((k < 1 ∨ 8 < k) ∨ (1 ≤ k ∧ k ≤ 8 ∧ fitsB n k = false))) (w : World) :
    Calls Try.prog 33 #[.int .u64 n, .int .i64 k] w fun e w' => e = .returned (.tuple #[.string (bs []), .int .i64 1]) ∧ w = w' := by
  rcases h.out with h | ⟨h1, h2, hf⟩
  · go_enter Try.func33, Try.ntmps33
    go_wp2_with fail
    refine (isWidth_no k h _).mono ?_
    rintro e w' ⟨rfl, rfl⟩
    go_wp2
    go_ret2
    exact ⟨rfl, rfl⟩
  · go_enter Try.func33, Try.ntmps33
    go_wp2_with fail
    refine (isWidth_yes k h1 h2 _).mono ?_
    rintro e w' ⟨rfl, rfl⟩
    go_wp2_with fail
    refine (fits_any n k hn hN h1 h2 _).mono ?_
    rintro e w' ⟨rfl, rfl⟩
    go_wp2
    go_ret2
    exact ⟨rfl, rfl⟩

theorem number_any (n k : Int) (hn : 0 ≤ n) (hN : Hid (n < 18446744073709551616)) (w : World) :
    Calls Try.prog 33 #[.int .u64 n, .int .i64 k] w fun e w' => e = .returned (.tuple #[.string (numS n k), .int .i64 (numE n k)]) ∧ Below w.heap.size w w' := by
  by_cases h : 1 ≤ k ∧ k ≤ 8 ∧ fitsB n k = true
  · unfold numS numE
    rw [if_pos h, if_pos h]
    exact number_yes n k hn hN h.1 h.2.1 h.2.2 w
  · unfold numS numE
    rw [if_neg h, if_neg h]
    refine (number_no n k hn hN ?_ w).mono ?_
    · unfold Hid
      by_cases h1 : 1 ≤ k
      · by_cases h2 : k ≤ 8
        · refine .inr ⟨h1, h2, ?_⟩
          cases hf : fitsB n k
          · rfl
          · exact absurd ⟨h1, h2, hf⟩ h
        · exact .inl (.inr (by omega))
      · exact .inl (.inl (by omega))
    · rintro e w' ⟨rfl, rfl⟩
      exact ⟨rfl, Below.refl _ _⟩

/-- What the document's Number comes to, once its width is one. -/
theorem refFits (n k : Nat) : fitsB (n : Int) (k : Int) = decide (n / 256 ^ k = 0) := by
  unfold fitsB
  simp only [Int.toNat_natCast]
  have hp : 0 < 256 ^ k := Nat.pow_pos (by decide)
  rw [decide_eq_decide, Nat.div_eq_zero_iff]
  omega

theorem u64_q (r : Nat) (h : Hid (r < 18446744073709551616)) : Value.int .u64 (IntKind.u64.wrap ((r : Int) / 256)) = .int .u64 ((r / 256 : Nat) : Int) := by
  have := h.out
  rw [IntWalk.u64_in _ (by omega)]
  rfl

/-- Number's end. -/
def NumEnd (n k : Nat) (w : World) (e : Ending) (w' : World) : Prop := e = .returned (.tuple #[.string (numS n k), .int .i64 (numE n k)]) ∧ Below w.heap.size w w'

set_option maxHeartbeats 400000 in
set_option maxRecDepth 8000 in
theorem refNumber_in (n k : Nat) (hN : Hid (n < 18446744073709551616)) (h1 : 1 ≤ k) (h2 : k ≤ 8) (w : World) :
    Calls Try.prog 27 #[.int .u64 n, .int .i64 k] w (NumEnd n k w) := by
  obtain ⟨i0, hi, hz0, hz1, hz2⟩ := info_parts Try.info5
  go_enter Try.func27, Try.ntmps27
  go_wp2
  go_loopw [0, 6, 7] (fun t v i wr => ∃ j r : Nat, j ≤ k ∧ i = .int .i64 j ∧ t = .int .u64 r ∧ Hid (r = n / 256 ^ j) ∧
      wr.ownsRow w.heap.size 5 1 v j ((numB j n).map bv) ∧ Below w.heap.size w wr)
    (fun _ _ i _ => k - (intOf i).toNat)
  case atStart => 
    exact ⟨0, n, by omega, rfl, rfl, by simp [Hid], World.ownsRow_made _ _ _ (Nat.le_refl _) (by unfold maxLen; omega) (by simp), (Below.refl _ _).alloc (Nat.le_refl _) _⟩
  case round =>
    obtain ⟨j, r, hj, rfl, rfl, hr, hown, hbl⟩ := hrel
    have hsz := hbl.size
    by_cases hlt : j < k
    · go_wp2_with (at_builtin; refine wpList_append_own _ rfl _ _ 58 rfl w.heap.size 5 i0 (.int .u8 0) 1 1 Try.underlying58 hi hz0 hz1 hz2 rfl (by decide) _ _ _ rfl (hown.alloc _) ⟨wr.heap.size, 0, none⟩ 1 1 [.int .u8 ((r : Int) % 256)] rfl rfl ?c1 ?c2 ?c3 ?c4 ?c5 ?_)
      case c1 =>
        intro q u hq
        match q, hq with
        | 0, hq => simp at hq; subst hq; simp [Addr.add]
      case c2 => intro u hu; simp at hu; subst hu; rfl
      case c3 => unfold maxLen; omega
      case c4 => omega
      case c5 => simp; omega
      · intro v' w1 hown' hgrow _
        have hown2 : w1.ownsRow w.heap.size 5 1 v' (j + 1) ((numB (j + 1) n).map bv) := by
          rw [numB_snoc, ← hr.out, List.map_append, List.map_singleton, ← byte_val]
          exact hown'
        have hbl2 : Below w.heap.size w w1 := (hbl.alloc (by omega) _).grown hgrow (by simp; omega) (fun g hg => (hown.lt g hg).1)
        have hr2 : Hid (r / 256 = n / 256 ^ (j + 1)) := by
          unfold Hid; rw [hr.out, Nat.div_div_eq_div_mul, Nat.pow_succ]
        have hrN : Hid (r < 18446744073709551616) := by
          have h0 : Hid (r ≤ n) := by unfold Hid; rw [hr.out]; exact Nat.div_le_self _ _
          exact Nat.lt_of_le_of_lt h0.out hN.out
        clear hown' hgrow hown hbl
        go_wp2
        go_roundw
        case rel => exact ⟨j + 1, r / 256, by omega, by go_num, u64_q r hrN, hr2, hown2, hbl2⟩
        case measure => simp [intOf]; omega
    · have : j = k := by omega
      subst this
      have hcv := own_string (P := Try.prog) (src := 58) (dst := 9) (numB j n) Try.underlying58 Try.underlying5 Try.underlying9 hown
      by_cases h0 : 0 < r
      · have hf : fitsB (n : Int) (j : Int) = false := by rw [refFits, ← hr.out]; simp; omega
        have H := Lib.hid hf; clear hf
        go_wp2
        go_ret2
        refine ⟨?_, hbl⟩
        unfold numS numE
        rw [if_neg (by rw [H.out]; simp), if_neg (by rw [H.out]; simp)]
        rfl
      · have hf : fitsB (n : Int) (j : Int) = true := by rw [refFits, ← hr.out]; simp; omega
        have H := Lib.hid hf; clear hf
        go_wp2
        go_ret2
        refine ⟨?_, hbl⟩
        unfold numS numE
        rw [if_pos ⟨by omega, by omega, H.out⟩, if_pos ⟨by omega, by omega, H.out⟩]
        rfl

set_option maxHeartbeats 400000 in
set_option maxRecDepth 8000 in
theorem refNumber_out (n k : Int) (h : k < 1 ∨ 8 < k) (w : World) :
    Calls Try.prog 27 #[.int .u64 n, .int .i64 k] w fun e w' => e = .returned (.tuple #[.string (numS n k), .int .i64 (numE n k)]) ∧ Below w.heap.size w w' := by
  unfold numS numE
  rw [if_neg (by omega), if_neg (by omega)]
  rcases h with h | h
  · go_enter Try.func27, Try.ntmps27
    go_wp2
    go_ret2
    exact ⟨rfl, Below.refl _ _⟩
  · have h1 : ¬ k < 1 := by omega
    go_enter Try.func27, Try.ntmps27
    go_wp2
    go_ret2
    exact ⟨rfl, Below.refl _ _⟩

theorem refNumber_any (n k : Int) (hn : 0 ≤ n) (hN : Hid (n < 18446744073709551616)) (w : World) :
    Calls Try.prog 27 #[.int .u64 n, .int .i64 k] w fun e w' => e = .returned (.tuple #[.string (numS n k), .int .i64 (numE n k)]) ∧ Below w.heap.size w w' := by
  by_cases h : k < 1 ∨ 8 < k
  · exact refNumber_out n k h w
  · obtain ⟨n, rfl⟩ := Int.eq_ofNat_of_zero_le hn
    obtain ⟨k, rfl⟩ := Int.eq_ofNat_of_zero_le (show 0 ≤ k by omega)
    exact refNumber_in n k (by have := hN.out; unfold Hid; omega) (by omega) (by omega) w

end Go.Proofs.Ytapebaoajknepaa
