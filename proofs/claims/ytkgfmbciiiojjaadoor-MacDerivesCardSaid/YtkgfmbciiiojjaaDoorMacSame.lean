/-
  The walks of the laws MacSame, MacParts.
-/
import Derived.Test.YtkgfmbciiiojjaaDoorMacTags
import Derived.Laws.Strings
namespace Go.Proofs.YtkgfmbciiiojjaaDoor
open Go.RowKit

theorem same_self (a : ByteArray) : (a.toList == a.toList) = true := by simp
theorem same_more (a b : ByteArray) (h : b.size ≠ 0) : (a.toList == (a ++ b).toList) = false := by
  rw [beq_eq_false_iff_ne]
  intro e
  have := congrArg List.length e
  rw [ByteArray.toList_eq, ByteArray.toList_eq, bs_append, List.length_append] at this
  have hb : b.data.toList.length = b.size := by simp
  omega

set_option maxHeartbeats 400000 in
set_option maxRecDepth 8000 in
theorem walk_MacSame (a : ByteArray) (ha : a.size ≤ 140737488351232) (b : ByteArray) (_hb : b.size ≤ 140737488351232) (w : World) (hk : KRow w) :
    Calls Tryd.prog 6 #[.string a, .string b] w fun e w' => e = .returned (.bool true) ∧ Below w.heap.size w w' := by
  have HK := Lib.hid hk
  clear hk
  have ns : ¬ 9223372036854775807 < a.size + (⟨#[120]⟩ : ByteArray).size := by
    have : (⟨#[120]⟩ : ByteArray).size = 1 := rfl
    omega
  have e1 := same_self a
  go_enter Tryd.func6, Tryd.ntmps6
  go_wp2_with fail
  refine (same_any a b _).mono ?_
  rintro e w1 ⟨rfl, rfl⟩
  go_wp2_with fail
  refine (same_any a a _).mono ?_
  rintro e w1 ⟨rfl, rfl⟩
  rw [e1]
  go_wp2_with fail
  refine (same_any a _ _).mono ?_
  rintro e w1 ⟨rfl, rfl⟩
  rw [same_more a _ (by decide)]
  clear e1 ns
  go_wp2_with fail
  refine (shown3_any _ HK).mono ?_
  rintro e w1 ⟨rfl, hb1⟩
  go_wp2
  go_ret
  exact ⟨rfl, hb1⟩

theorem joinTo_length (ss : List ByteArray) (j : Nat) (hj : j < ss.length) : (joinTo ss (j + 1)).length = (joinTo ss j).length + ss[j].size := by
  rw [joinTo_succ ss j hj, List.length_append]
  simp

set_option maxHeartbeats 1000000 in
set_option maxRecDepth 8000 in
theorem walk_MacParts (key : ByteArray) (_hk1 : key.size ≤ maxLen) (a : Option Addr) (len cap : Nat) (ss : List ByteArray) (w : World) (hk : KRow w) (hl : CameStrs w a len cap ss ∧ (a = none → cap = 0)) :
    Calls Tryd.prog 4 #[.string key, .slice a len cap] w fun e w' => e = .returned (.bool true) ∧ Below w.heap.size w w' := by
  have HK := Lib.hid hk
  obtain ⟨hl, hac⟩ := hl
  have HS : Hid (Sees w a ss) := hl.2.2.2.2
  have h1 := hl.1
  have h4 := Lib.hid hl.2.2.2.1
  have HAC := Lib.hid hac
  subst h1
  clear hk hl hac
  by_cases h1 : (300 : Int) < (key.size : Int)
  · go_enter Tryd.func4, Tryd.ntmps4
    go_wp2_with fail
    refine (shown3_any _ HK).mono ?_
    rintro e w1 ⟨rfl, hb1⟩
    go_wp2
    go_ret
    exact ⟨rfl, hb1⟩
  have d1 : decide ((300 : Int) < (key.size : Int)) = false := decide_eq_false h1
  by_cases h2 : (30 : Int) < (ss.length : Int)
  · go_enter Tryd.func4, Tryd.ntmps4
    go_wp2_with fail
    refine (shown3_any _ HK).mono ?_
    rintro e w1 ⟨rfl, hb1⟩
    go_wp2
    go_ret
    exact ⟨rfl, hb1⟩
  have d2 : decide ((30 : Int) < (ss.length : Int)) = false := decide_eq_false h2
  have kz : key.size ≤ 300 := by omega
  have l30 : ss.length ≤ 30 := by omega
  go_enter Tryd.func4, Tryd.ntmps4
  go_wp2_with fail
  refine (shown3_any _ HK).mono ?_
  rintro e w1 ⟨rfl, hb1⟩
  have hk1 := Lib.hid (HK.out.below hb1 HK.out.1 hb1.size)
  have hs1 := Lib.hid (HS.out.below hb1 (Nat.le_refl _))
  clear d1 d2 h1 h2
  go_wp2
  go_loopw [5, 6] (fun t i wr => ∃ (j : Nat) (r : ByteArray), j ≤ ss.length ∧ i = .int .i64 j ∧ t = .string r ∧ r.size ≤ 200 * j ∧ Hid (r.data.toList = joinTo ss j) ∧ wr = w1)
    (fun _ i _ => ss.length - (intOf i).toNat)
  case atStart => exact ⟨0, ByteArray.empty, by omega, rfl, rfl, by decide, by simp [Hid, joinTo], rfl⟩
  case round =>
    obtain ⟨j, r, hj, rfl, rfl, hrz, hr, rfl⟩ := hrel
    by_cases hlt : j < ss.length
    · obtain ⟨ad, ha, hadb, hcell⟩ := hs1.out j hlt
      subst ha
      have hju := Lib.hid (joinTo_succ ss j hlt)
      obtain ⟨s, hse⟩ : ∃ s, s = ss[j] := ⟨_, rfl⟩
      rw [← hse] at hcell hju
      have hsm : s.size ≤ maxLen := by rw [hse]; exact h4.out _ (List.getElem_mem hlt)
      clear hse
      by_cases hw : (200 : Int) < (s.size : Int)
      · go_wp2_with fail
        refine (shown3_any _ hk1).mono ?_
        rintro e w2 ⟨rfl, hb2⟩
        go_wp2
        go_ret
        exact ⟨rfl, hb1.trans (hb2.mono hb1.size)⟩
      · have dw : decide ((200 : Int) < (s.size : Int)) = false := decide_eq_false hw
        have ns : ¬ 9223372036854775807 < r.size + s.size := by omega
        have hr2 : Hid ((r ++ s).data.toList = joinTo ss (j + 1)) := by unfold Hid; rw [bs_append, hr.out, hju.out]
        have hz2 : (r ++ s).size ≤ 200 * (j + 1) := by rw [ByteArray.size_append]; omega
        go_wp2
        go_roundw
        case rel => exact ⟨j + 1, r ++ s, by omega, by go_num, rfl, hz2, hr2, by first | rfl | trivial⟩
        case measure => simp [intOf]; omega
    · have : j = ss.length := by omega
      subst this
      have hX := Lib.hid hr.out
      have M1 := Lib.hid (mac_any key (by omega) a cap HAC.out ss (by omega) (by unfold Hid; rw [← hX.out]; simp; omega) wr hk1 hs1)
      have M2 : Hid (∀ w' p, KRow w' → RowAt w' p 9 ([r].map Value.string).toArray → Calls Tryd.prog 10 #[.string key, .slice (some ⟨p, 0, none⟩) 1 1] w' fun e w'' => e = .returned (.agg (rowOf 32 (w8 (macN key.data.toList (joinTo ss ss.length))))) ∧ Below w'.heap.size w' w'') := by
        intro w' p hk hr
        have := mac_row key (by omega) r (by omega) p w' hk hr
        rw [hX.out] at this
        exact this
      generalize macN key.data.toList (joinTo ss ss.length) = y at *
      clear hX hr hs1 HAC HS h4
      go_wp2_with fail
      refine M1.out.mono ?_
      rintro e w2 ⟨rfl, hb2⟩
      have b2 := hb1.trans (hb2.mono hb1.size)
      clear hb2 hb1 M1 hk1
      have b3 : Below w2.heap.size w2 (w2.alloc (.cells #[.string r] 9)) := (Below.refl _ _).alloc (Nat.le_refl _) _
      have b4 := b2.trans (b3.mono b2.size)
      have M3 := Lib.hid (M2.out _ w2.heap.size (HK.out.below b4 HK.out.1 b4.size) (RowAt.new w2 9 _))
      clear M2 b3
      go_wp2_with fail
      refine M3.out.mono ?_
      rintro e w5 ⟨rfl, hb5⟩
      have b6 := b4.trans (hb5.mono b4.size)
      clear hb5 M3 b4 b2
      go_wp2_with (refine wpList_known rfl (run_eql_hash y rfl rfl rfl _) ?_)
      go_ret
      exact ⟨rfl, b6⟩

end Go.Proofs.YtkgfmbciiiojjaaDoor
