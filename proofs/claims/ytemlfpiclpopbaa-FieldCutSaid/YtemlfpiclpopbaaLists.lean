/-
  The walk of the law FieldLists.
-/
import Derived.Test.YtemlfpiclpopbaaRefTakeList
namespace Go.Proofs.Ytemlfpiclpopbaa
open Go.RowKit

theorem CameStrs.sees {w : World} {a : Option Addr} {len cap : Nat} {ss : List ByteArray} (h : CameStrs w a len cap ss) : Sees w a ss := h.2.2.2.2

theorem takeList_named (s : ByteArray) (w : World) : Calls Try.prog 23 #[.string s] w fun e w' =>
    ∃ a c, e = .returned (.tuple #[.slice a (taT s.data.toList).length c, .string (bs (taR s.data.toList)), .int .i64 (taE s.data.toList)]) ∧ Sees w' a (taT s.data.toList) ∧ Below w.heap.size w w' := takeList_any s w

theorem taT_len (L : List UInt8) : (taT L).length ≤ 255 := by
  unfold taT
  split
  · rw [tlT_length]
    have := numV1_lt (L.take 1) (by rw [List.length_take]; omega)
    omega
  · simp

/-- The end of every such law. -/
def LawEnd (w : World) (e : Ending) (w' : World) : Prop := e = .returned (.bool true) ∧ Below w.heap.size w w'

set_option maxHeartbeats 1000000 in
theorem walk_FieldLists0 (a : Option Addr) (cap : Nat) (ss : List ByteArray) (hlen : ss.length ≤ 9223372036854775807) (s : ByteArray) (w : World) (hs : Hid (Sees w a ss)) :
    Calls Try.prog 5 #[.slice a ss.length cap, .string s] w (LawEnd w) := by
  by_cases h1 : (300 : Int) < (ss.length : Int)
  · have d1 : decide ((300 : Int) < (ss.length : Int)) = true := by simpa using h1
    go_enter Try.func5, Try.ntmps5
    go_wp2_with fail
    refine (shown_any _).mono ?_
    rintro e w1 ⟨rfl, hb1⟩
    go_wp2
    go_ret
    exact ⟨rfl, hb1⟩
  · have d1 : decide ((300 : Int) < (ss.length : Int)) = false := by simpa using h1
    by_cases h2 : (3000 : Int) < (s.size : Int)
    · have d2 : decide ((3000 : Int) < (s.size : Int)) = true := by simpa using h2
      go_enter Try.func5, Try.ntmps5
      go_wp2_with fail
      refine (shown_any _).mono ?_
      rintro e w1 ⟨rfl, hb1⟩
      go_wp2
      go_ret
      exact ⟨rfl, hb1⟩
    · have d2 : decide ((3000 : Int) < (s.size : Int)) = false := by simpa using h2
      have hm : Hid (s.size ≤ 3000) := by unfold Hid; omega
      go_enter Try.func5, Try.ntmps5
      go_wp2_with fail
      refine (shown_any _).mono ?_
      rintro e w1 ⟨rfl, hb1⟩
      go_wp2
      go_loopw [5] (fun i wr => ∃ j : Nat, j ≤ ss.length ∧ i = .int .i64 j ∧ Below w.heap.size w wr) (fun i _ => ss.length - (intOf i).toNat)
      case atStart => exact ⟨0, by omega, rfl, hb1⟩
      case round =>
        clear hb1
        obtain ⟨j, hj, rfl, hbl⟩ := hrel
        have hsz := hbl.size
        by_cases hlt : j < ss.length
        · obtain ⟨ad, ea, hadb, hca⟩ := (Sees.below hs.out hbl (Nat.le_refl _)) j hlt
          subst ea
          generalize hse : ss[j] = t at hca
          clear hse
          by_cases hw : (1500 : Int) < (t.size : Int)
          · go_wp2_with fail
            refine (shown_any _).mono ?_
            rintro e w2 ⟨rfl, hb2⟩
            have hbl2 := hbl.trans (hb2.mono hsz)
            clear hb2
            go_wp2
            go_ret
            exact ⟨rfl, hbl2⟩
          · go_wp2
            go_roundw
            case rel => exact ⟨j + 1, by omega, by go_num, hbl⟩
            case measure => simp [intOf]; omega
        · have hjl : j = ss.length := by omega
          clear hj hlt
          go_wp2_with fail
          refine (list_any a cap ss _ (Sees.below hs.out hbl (Nat.le_refl _))).mono ?_
          rintro e w2 ⟨rfl, hb2⟩
          have hbl2 := hbl.trans (hb2.mono hsz)
          have hsz2 := hbl2.size
          clear hb2 hbl
          go_wp2_with fail
          refine (refList_any a cap ss _ (Sees.below hs.out hbl2 (Nat.le_refl _))).mono ?_
          rintro e w3 ⟨rfl, hb3⟩
          have hbl3 := hbl2.trans (hb3.mono hsz2)
          have hsz3 := hbl3.size
          clear hb3 hbl2
          go_wp2_with fail
          refine (takeList_any s _).mono ?_
          rintro e w4 ⟨a4, c4, rfl, hs4, hb4⟩
          have hbl4 := hbl3.trans (hb4.mono hsz3)
          have hsz4 := hbl4.size
          have HS4 := Lib.hid hs4
          clear hb4 hbl3 hs4
          go_wp2_with fail
          refine (refTakeList_any s hm.out _).mono ?_
          rintro e w5 ⟨a5, c5, rfl, hs5, hb5⟩
          have HS45 := Lib.hid (Sees.below HS4.out hb5 (Nat.le_refl _))
          have HS5 := Lib.hid hs5
          have hbl5 := hbl4.trans (hb5.mono hsz4)
          have hsz5 := hbl5.size
          clear hb5 hbl4 hs5
          go_wp2_with fail
          refine (same_yes a4 a5 c4 c5 _ (by have := taT_len s.data.toList; omega) _ HS45 HS5).mono ?_
          rintro e w6 ⟨rfl, hb6⟩
          have hbl6 := hbl5.trans (hb6.mono hsz5)
          clear hb6 hbl5
          go_wp2
          go_ret
          exact ⟨rfl, hbl6⟩

theorem walk_FieldLists (a : Option Addr) (len cap : Nat) (ss : List ByteArray) (s : ByteArray) (_hs : s.size ≤ maxLen) (w : World) (hl : CameStrs w a len cap ss) :
    Calls Try.prog 5 #[.slice a len cap, .string s] w fun e w' => e = .returned (.bool true) ∧ Below w.heap.size w w' := by
  have h1 := hl.1
  have h2 := hl.2.1
  have h3 := hl.2.2.1
  unfold maxLen at h3
  subst h1
  exact walk_FieldLists0 a cap ss (by omega) s w hl.sees

end Go.Proofs.Ytemlfpiclpopbaa
