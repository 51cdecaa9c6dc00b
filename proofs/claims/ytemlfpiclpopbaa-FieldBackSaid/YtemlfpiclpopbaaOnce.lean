/-
  The walk of the law FieldOnce.
-/
import Derived.Test.YtemlfpiclpopbaaOnceMath
import Derived.Test.YtemlfpiclpopbaaLists
import Derived.Test.YtemlfpiclpopbaaTexts
namespace Go.Proofs.Ytemlfpiclpopbaa
open Go.RowKit

/-- The second half of the law: the text that the bytes begin by. -/
theorem takeText_ok_named (s x r : ByteArray) (h0 : Hid (ttE s.data.toList = 0)) (hx : Hid (x = bs (ttT s.data.toList))) (hr : Hid (r = bs (ttR s.data.toList))) (w : World) :
    Calls Try.prog 17 #[.string s] w fun e w' => e = .returned (.tuple #[.string x, .string r, .int .i64 0]) ∧ Below w.heap.size w w' := by
  have h := takeText_named s w
  rw [← hx.out, ← hr.out, h0.out] at h
  exact h

theorem takeText_err_named (s : ByteArray) (c : Int) (h0 : Hid (ttE s.data.toList = c)) (hc : Hid (c ≠ 0)) (w : World) :
    Calls Try.prog 17 #[.string s] w fun e w' => e = .returned (.tuple #[.string ⟨#[]⟩, .string ⟨#[]⟩, .int .i64 c]) ∧ Below w.heap.size w w' := by
  have h := takeText_named s w
  have h1 := ttT_err s.data.toList (by rw [h0.out]; exact hc.out)
  rw [h1.1, h1.2, h0.out] at h
  exact h

theorem text_yes_named (s t : ByteArray) (hs : s.size ≤ 1000) (ht : Hid (t = bs (txt s))) (w : World) :
    Calls Try.prog 15 #[.string s] w fun e w' => e = .returned (.tuple #[.string t, .int .i64 0]) ∧ Below w.heap.size w w' := by
  have h := text_yes s hs w
  rw [← ht.out] at h
  exact h

theorem bs_bs (a b : List UInt8) : bs a ++ bs b = bs (a ++ b) := by rw [bs_append, bs_list]

set_option maxHeartbeats 1000000 in
theorem walk_FieldOnce (s : ByteArray) (_hs : s.size ≤ maxLen) (w : World) :
    Calls Try.prog 7 #[.string s] w fun e w' => e = .returned (.bool true) ∧ Below w.heap.size w w' := by
  by_cases h1 : (3000 : Int) < (s.size : Int)
  · have d : decide ((3000 : Int) < (s.size : Int)) = true := by simpa using h1
    go_enter Try.func7, Try.ntmps7
    go_wp2_with fail
    refine (shown_any _).mono ?_
    rintro e w1 ⟨rfl, hb1⟩
    go_wp2
    go_ret
    exact ⟨rfl, hb1⟩
  · have d : decide ((3000 : Int) < (s.size : Int)) = false := by simpa using h1
    have hm : s.size ≤ 3000 := by omega
    clear _hs h1
    -- the end of the law, from the place behind the list on
    by_cases hE : taE s.data.toList = 0
    · obtain ⟨o1, o2⟩ := ta_once _ hE
      have HE := Lib.hid hE
      have HT : Hid (lsS (taT s.data.toList) ++ bs (taR s.data.toList) = s) := by
        unfold Hid lsS
        rw [o2, if_neg (by decide), bs_bs, o1, bs_data]
      have HF : Hid (lsE (taT s.data.toList) = 0) := by unfold Hid lsE; rw [o2, if_neg (by decide)]
      have hsz1 : (lsS (taT s.data.toList)).size + (bs (taR s.data.toList)).size = s.size := by
        have := congrArg ByteArray.size HT.out
        rwa [ByteArray.size_append] at this
      clear hE o1 o2
      by_cases hX : ttE s.data.toList = 0
      · obtain ⟨p1, p2⟩ := tt_once _ hX
        have HX := Lib.hid hX
        obtain ⟨x, hx⟩ : ∃ x, x = bs (ttT s.data.toList) := ⟨_, rfl⟩
        obtain ⟨r, hr⟩ : ∃ r, r = bs (ttR s.data.toList) := ⟨_, rfl⟩
        obtain ⟨u, hu⟩ : ∃ u, u = bs (txt x) := ⟨_, rfl⟩
        have hxs : x.size ≤ 1000 := by rw [hx]; exact p2
        have HU : Hid (u ++ r = s) := by unfold Hid; rw [hu, hr, hx, bs_bs, p1, bs_data]
        have hus : u.size ≤ 3000 ∧ r.size ≤ 3000 := by
          have := congrArg ByteArray.size HU.out
          rw [ByteArray.size_append] at this
          omega
        obtain ⟨hus1, hus2⟩ := hus
        have HXX := Lib.hid hx
        have HRR := Lib.hid hr
        have HUU := Lib.hid hu
        clear hX p1 p2 hx hr hu
        go_enter Try.func7, Try.ntmps7
        go_wp2_with fail
        refine (shown_any _).mono ?_
        rintro e w1 ⟨rfl, hb1⟩
        go_wp2_with fail
        refine (takeList_any s _).mono ?_
        rintro e w2 ⟨a2, c2, rfl, hs2, hb2⟩
        have HS2 := Lib.hid hs2
        have hbl2 := hb1.trans (hb2.mono hb1.size)
        clear hb1 hb2 hs2
        rw [HE.out]
        go_wp2_with fail
        refine (list_any a2 c2 _ _ HS2.out).mono ?_
        rw [HF.out]
        rintro e w3 ⟨rfl, hb3⟩
        have hbl3 := hbl2.trans (hb3.mono hbl2.size)
        clear hb3 hbl2
        generalize lsS (taT s.data.toList) = t at *
        generalize bs (taR s.data.toList) = R at *
        have htR : t.size ≤ 3000 := by omega
        have hRR : R.size ≤ 3000 := by omega
        clear hsz1
        have hne : ((t ++ R).toList != s.toList) = false := by rw [HT.out]; simp
        have heq : ((t ++ R).toList == s.toList) = true := by rw [HT.out]; simp
        go_wp2_with fail
        refine (takeText_ok_named s x r HX HXX HRR _).mono ?_
        rintro e w4 ⟨rfl, hb4⟩
        have hbl4 := hbl3.trans (hb4.mono hbl3.size)
        clear hb4 hbl3
        go_wp2_with fail
        refine (text_yes_named x u hxs HUU _).mono ?_
        rintro e w5 ⟨rfl, hb5⟩
        have hbl5 := hbl4.trans (hb5.mono hbl4.size)
        clear hb5 hbl4
        have heq2 : ((u ++ r).toList == s.toList) = true := by rw [HU.out]; simp
        go_wp2
        go_ret
        exact ⟨rfl, hbl5⟩
      · obtain ⟨c, hc⟩ : ∃ c, ttE s.data.toList = c := ⟨_, rfl⟩
        rw [hc] at hX
        have HX := Lib.hid hX
        have HC := Lib.hid hc
        have hcb : (c == 0) = false := beq_eq_false_iff_ne.2 hX
        have hcn : (c != 0) = true := by rw [bne_iff_ne]; exact hX
        clear hX hc
        go_enter Try.func7, Try.ntmps7
        go_wp2_with fail
        refine (shown_any _).mono ?_
        rintro e w1 ⟨rfl, hb1⟩
        go_wp2_with fail
        refine (takeList_any s _).mono ?_
        rintro e w2 ⟨a2, c2, rfl, hs2, hb2⟩
        have HS2 := Lib.hid hs2
        have hbl2 := hb1.trans (hb2.mono hb1.size)
        clear hb1 hb2 hs2
        rw [HE.out]
        go_wp2_with fail
        refine (list_any a2 c2 _ _ HS2.out).mono ?_
        rw [HF.out]
        rintro e w3 ⟨rfl, hb3⟩
        have hbl3 := hbl2.trans (hb3.mono hbl2.size)
        clear hb3 hbl2
        generalize lsS (taT s.data.toList) = t at *
        generalize bs (taR s.data.toList) = R at *
        have htR : t.size ≤ 3000 := by omega
        have hRR : R.size ≤ 3000 := by omega
        clear hsz1
        have hne : ((t ++ R).toList != s.toList) = false := by rw [HT.out]; simp
        have heq : ((t ++ R).toList == s.toList) = true := by rw [HT.out]; simp
        go_wp2_with fail
        refine (takeText_err_named s c HC HX _).mono ?_
        rintro e w4 ⟨rfl, hb4⟩
        have hbl4 := hbl3.trans (hb4.mono hbl3.size)
        clear hb4 hbl3
        go_wp2
        go_ret
        exact ⟨rfl, hbl4⟩
    · have HE := Lib.hid hE
      clear hE
      by_cases hX : ttE s.data.toList = 0
      · obtain ⟨p1, p2⟩ := tt_once _ hX
        have HX := Lib.hid hX
        obtain ⟨x, hx⟩ : ∃ x, x = bs (ttT s.data.toList) := ⟨_, rfl⟩
        obtain ⟨r, hr⟩ : ∃ r, r = bs (ttR s.data.toList) := ⟨_, rfl⟩
        obtain ⟨u, hu⟩ : ∃ u, u = bs (txt x) := ⟨_, rfl⟩
        have hxs : x.size ≤ 1000 := by rw [hx]; exact p2
        have HU : Hid (u ++ r = s) := by unfold Hid; rw [hu, hr, hx, bs_bs, p1, bs_data]
        have hus : u.size ≤ 3000 ∧ r.size ≤ 3000 := by
          have := congrArg ByteArray.size HU.out
          rw [ByteArray.size_append] at this
          omega
        obtain ⟨hus1, hus2⟩ := hus
        have HXX := Lib.hid hx
        have HRR := Lib.hid hr
        have HUU := Lib.hid hu
        clear hX p1 p2 hx hr hu
        go_enter Try.func7, Try.ntmps7
        go_wp2_with fail
        refine (shown_any _).mono ?_
        rintro e w1 ⟨rfl, hb1⟩
        go_wp2_with fail
        refine (takeList_any s _).mono ?_
        rintro e w2 ⟨a2, c2, rfl, hs2, hb2⟩
        have hbl3 := hb1.trans (hb2.mono hb1.size)
        clear hb1 hb2 hs2
        generalize taE s.data.toList = q at *
        generalize bs (taR s.data.toList) = R at *
        have hqb : (q == 0) = false := beq_eq_false_iff_ne.2 HE.out
        have hqn : (q != 0) = true := by rw [bne_iff_ne]; exact HE.out
        go_wp2_with fail
        refine (takeText_ok_named s x r HX HXX HRR _).mono ?_
        rintro e w4 ⟨rfl, hb4⟩
        have hbl4 := hbl3.trans (hb4.mono hbl3.size)
        clear hb4 hbl3
        go_wp2_with fail
        refine (text_yes_named x u hxs HUU _).mono ?_
        rintro e w5 ⟨rfl, hb5⟩
        have hbl5 := hbl4.trans (hb5.mono hbl4.size)
        clear hb5 hbl4
        have heq2 : ((u ++ r).toList == s.toList) = true := by rw [HU.out]; simp
        go_wp2
        go_ret
        exact ⟨rfl, hbl5⟩
      · obtain ⟨c, hc⟩ : ∃ c, ttE s.data.toList = c := ⟨_, rfl⟩
        rw [hc] at hX
        have HX := Lib.hid hX
        have HC := Lib.hid hc
        have hcb : (c == 0) = false := beq_eq_false_iff_ne.2 hX
        have hcn : (c != 0) = true := by rw [bne_iff_ne]; exact hX
        clear hX hc
        go_enter Try.func7, Try.ntmps7
        go_wp2_with fail
        refine (shown_any _).mono ?_
        rintro e w1 ⟨rfl, hb1⟩
        go_wp2_with fail
        refine (takeList_any s _).mono ?_
        rintro e w2 ⟨a2, c2, rfl, hs2, hb2⟩
        have hbl3 := hb1.trans (hb2.mono hb1.size)
        clear hb1 hb2 hs2
        generalize taE s.data.toList = q at *
        generalize bs (taR s.data.toList) = R at *
        have hqb : (q == 0) = false := beq_eq_false_iff_ne.2 HE.out
        have hqn : (q != 0) = true := by rw [bne_iff_ne]; exact HE.out
        go_wp2_with fail
        refine (takeText_err_named s c HC HX _).mono ?_
        rintro e w4 ⟨rfl, hb4⟩
        have hbl4 := hbl3.trans (hb4.mono hbl3.size)
        clear hb4 hbl3
        go_wp2
        go_ret
        exact ⟨rfl, hbl4⟩

end Go.Proofs.Ytemlfpiclpopbaa
