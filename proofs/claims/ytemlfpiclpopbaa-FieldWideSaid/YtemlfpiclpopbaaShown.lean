/-
  Contracts of the small case 'shown' of the laws of layer 1, and the walk of the law FieldNumbers.
-/
import Derived.Test.YtemlfpiclpopbaaTake
import Derived.OpenShut
namespace Go.Proofs.Ytemlfpiclpopbaa
open Go.RowKit

theorem shownNum : numS 258 2 = ⟨#[2, 1]⟩ ∧ numE 258 2 = 0 := by
  have h : 1 ≤ (2 : Int) ∧ (2 : Int) ≤ 8 ∧ fitsB 258 2 = true := ⟨by decide, by decide, by decide⟩
  unfold numS numE
  rw [if_pos h, if_pos h]
  exact ⟨by decide, rfl⟩

theorem shownTake : tnN (⟨#[2, 1]⟩ ++ ⟨#[120]⟩) 2 = 258 ∧ tnR (⟨#[2, 1]⟩ ++ ⟨#[120]⟩) 2 = ⟨#[120]⟩ ∧ tnE (⟨#[2, 1]⟩ ++ ⟨#[120]⟩) 2 = 0 :=
  ⟨by decide, by decide, by decide⟩

set_option maxHeartbeats 400000 in
theorem shown_any (w : World) : Calls Try.prog 10 #[] w fun e w' => e = .returned (.bool true) ∧ Below w.heap.size w w' := by
  go_enter Try.func10, Try.ntmps10
  go_wp2_with fail
  refine (number_any 258 2 (by decide) (by unfold Hid; decide) _).mono ?_
  rw [shownNum.1, shownNum.2]
  rintro e w1 ⟨rfl, hb1⟩
  go_wp2_with fail
  refine (takeNumber_any _ 2 _).mono ?_
  rw [shownTake.1, shownTake.2.1, shownTake.2.2]
  rintro e w2 ⟨rfl, hb2⟩
  go_wp2
  go_ret
  exact ⟨rfl, hb1.trans (hb2.mono hb1.size)⟩

theorem u64_hi {n : Int} (h : (Lit.int .u64 n).wf = true) : 0 ≤ n ∧ Hid (n < 18446744073709551616) := by
  have := bounds_u64 h
  exact ⟨by omega, by unfold Hid; omega⟩

set_option maxHeartbeats 400000 in
theorem walk_FieldNumbers (n : Int) (hn : (Lit.int .u64 n).wf = true) (k : Int) (_hk : (Lit.int .i64 k).wf = true) (s : ByteArray) (hs : s.size ≤ maxLen) (w : World) :
    Calls Try.prog 3 #[.int .u64 n, .int .i64 k, .string s] w fun e w' => e = .returned (.bool true) ∧ Below w.heap.size w w' := by
  obtain ⟨h0, hN⟩ := u64_hi hn
  have hm : Hid (s.size ≤ 9223372036854775807) := by unfold maxLen at hs; unfold Hid; omega
  unfold maxLen at hs
  clear hn _hk
  by_cases hlen : (3000 : Int) < (s.size : Int)
  · have d : decide ((3000 : Int) < (s.size : Int)) = true := by simpa using hlen
    go_enter Try.func3, Try.ntmps3
    go_wp2_with fail
    refine (shown_any _).mono ?_
    rintro e w1 ⟨rfl, hb1⟩
    go_wp2
    go_ret
    exact ⟨rfl, hb1⟩
  · have d : decide ((3000 : Int) < (s.size : Int)) = false := by simpa using hlen
    go_enter Try.func3, Try.ntmps3
    go_wp2_with fail
    refine (shown_any _).mono ?_
    rintro e w1 ⟨rfl, hb1⟩
    go_wp2_with fail
    refine (number_any n k h0 hN _).mono ?_
    rintro e w2 ⟨rfl, hb2⟩
    go_wp2_with fail
    refine (refNumber_any n k h0 hN _).mono ?_
    rintro e w3 ⟨rfl, hb3⟩
    go_wp2_with fail
    refine (takeNumber_any s k _).mono ?_
    rintro e w4 ⟨rfl, hb4⟩
    go_wp2_with fail
    refine (refTakeNumber_any s k hm.out _).mono ?_
    rintro e w5 ⟨rfl, hb5⟩
    have hb : Below w.heap.size w w5 := by
      have s1 := hb1.size
      have s2 := hb2.size
      have s3 := hb3.size
      have s4 := hb4.size
      exact (((hb1.trans (hb2.mono (by omega))).trans (hb3.mono (by omega))).trans (hb4.mono (by omega))).trans (hb5.mono (by omega))
    clear hb1 hb2 hb3 hb4 hb5
    go_wp2
    go_ret
    exact ⟨rfl, hb⟩

/-- What is told of a slice of texts that came in. -/
def CameStrs (w : World) (a : Option Addr) (len cap : Nat) (ss : List ByteArray) : Prop :=
  ss.length = len ∧ len ≤ cap ∧ cap ≤ maxLen ∧ (∀ s ∈ ss, s.size ≤ maxLen) ∧ ∀ j (h : j < ss.length), ∃ ad, a = some ad ∧ ad.block < w.heap.size ∧ w.cell? (ad.add j) = some (.string ss[j])

theorem cameStrs_nil (w : World) : CameStrs w none 0 0 [] := ⟨rfl, Nat.le_refl _, by decide, by simp, fun j h => by simp at h⟩

theorem block_add (a : Addr) (n : Nat) : (a.add n).block = a.block := by unfold Addr.add; split <;> rfl

theorem cameStrs_some {w : World} {x : Addr} {len cap : Nat} {ss : List ByteArray} (hl : len ≤ cap) (hm : cap ≤ maxLen) (hz : ss.length = cap)
    (hcell : ∀ i, i < ss.length → w.cell? (x.add i) = some (.string (ss.getD i ByteArray.empty))) (hw : ∀ s ∈ ss, s.size ≤ maxLen) : CameStrs w (some x) len cap (ss.take len) := by
  refine ⟨by simp; omega, hl, hm, fun s hs => hw s (List.mem_of_mem_take hs), fun j h => ?_⟩
  have hj : j < ss.length := by simp at h; omega
  have hc := hcell j hj
  refine ⟨x, rfl, ?_, ?_⟩
  · have := World.block_lt_of_cell? w _ hc
    rwa [block_add] at this
  · rw [hc, List.getElem_take]
    simp [List.getD, List.getElem?_eq_getElem hj]

end Go.Proofs.Ytemlfpiclpopbaa
