/-
  The walk of TermTells.
-/
import Derived.Test.YtlfgiggeeoegjaaDoorTermShown
import Derived.Test.YtlfgiggeeoegjaaDoorTermRefText
import Derived.Test.YtlfgiggeeoegjaaDoorTermRefParts
import Derived.Test.YtlfgiggeeoegjaaDoorTermRefSameOf
namespace Go.Proofs.YtlfgiggeeoegjaaDoor
open Go.RowKit
set_option linter.unusedVariables false

theorem partsV_length (K : Nds) (n : Nat) (i : Int) (hn : n ≤ 250) : (partsV K n i).length ≤ 1000 := by
  unfold partsV
  cases h : placeB K n i
  · simp
  · obtain ⟨j, hj, rfl, _, _⟩ := place_yes h
    rw [if_pos rfl, Int.toNat_natCast]
    have := partL_length K j
    omega

set_option maxHeartbeats 4000000 in
set_option maxRecDepth 8000 in
theorem walk_TermTells (a : Option Addr) (n c : Nat) (K : Nds) (i : Int) (wi : (Lit.int .i64 i).wf = true) (j : Int) (wj : (Lit.int .i64 j).wf = true) (w : World) (hp : PTab w.heap.size w) (hK : SeesN w a n K ∧ n ≤ c) :
    Calls Tryd.prog 3 #[.slice a n c, .int .i64 i, .int .i64 j] w fun e w' => e = .returned (.bool true) ∧ Below w.heap.size w w' := by
  obtain ⟨hs, hc⟩ := hK
  replace hs := Lib.hid hs
  replace hp := Lib.hid hp
  clear wi wj
  have S := Lib.hid (shown8_any w hp)
  by_cases h250 : 250 < n
  · have l0 : (250 : Int) < (n : Int) := by omega
    go_enter Tryd.func3, Tryd.ntmps3
    go_wp2_with fail
    refine S.out.mono ?_
    rintro e w1 ⟨rfl, hb1⟩
    go_wp2
    go_ret
    exact ⟨rfl, hb1⟩
  · have l0 : ¬ (250 : Int) < (n : Int) := by omega
    go_enter Tryd.func3, Tryd.ntmps3
    go_wp2_with fail
    refine S.out.mono ?_
    rintro e w1 ⟨rfl, hb⟩
    have T := Lib.hid (its_any K n (by omega) a c w1 (hs.out.after hb))
    clear S
    go_wp2_with fail
    refine T.out.mono ?_
    rintro e w2 ⟨a', c', rfl, sr, hb2⟩
    have b2 := hb.trans (hb2.mono hb.size)
    clear hb hb2 T
    have M1 := may_any K n a c hc w2 (hs.out.after b2)
    have M2 : ∀ w', SeesN w' a' n K → _ := fun w' h => refMay_any K n a' c' w' h
    generalize mayB K n = m at M1 M2
    replace M1 := Lib.hid M1
    replace M2 := Lib.hid M2
    go_wp2_with fail
    refine M1.out.mono ?_
    rintro e w3 ⟨rfl, hb3⟩
    have sr3 := Lib.hid (sr.out.after hb3)
    have b3 := b2.trans (hb3.mono b2.size)
    clear M1 hb3 b2 sr
    go_wp2_with fail
    refine (M2.out w3 sr3.out).mono ?_
    rintro e w4 ⟨rfl, hb4⟩
    have sr4 := Lib.hid (sr3.out.after hb4)
    have b4 := b3.trans (hb4.mono b3.size)
    clear M2 hb4 b3 sr3
    have X1 := text_any K n i a c hc w4 (hs.out.after b4) ((hp.out.on b4).mono b4.size)
    have X2 : ∀ w', SeesN w' a' n K → _ := fun w' h => refText_any K n i a' c' w' h
    generalize textV K n i = tx at X1 X2
    replace X1 := Lib.hid X1
    replace X2 := Lib.hid X2
    go_wp2_with fail
    refine X1.out.mono ?_
    rintro e w5 ⟨rfl, hb5⟩
    have sr5 := Lib.hid (sr4.out.after hb5)
    have b5 := b4.trans (hb5.mono b4.size)
    clear X1 hb5 b4 sr4
    go_wp2_with fail
    refine (X2.out w5 sr5.out).mono ?_
    rintro e w6 ⟨rfl, hb6⟩
    have sr6 := Lib.hid (sr5.out.after hb6)
    have b6 := b5.trans (hb6.mono b5.size)
    clear X2 hb6 b5 sr5
    have Z1 := size_any K n i a c hc w6 (hs.out.after b6) ((hp.out.on b6).mono b6.size)
    have Z2 : ∀ w', SeesN w' a' n K → _ := fun w' h => refSize_any K n i a' c' w' h
    generalize sizeV K n i = z at Z1 Z2
    replace Z1 := Lib.hid Z1
    replace Z2 := Lib.hid Z2
    go_wp2_with fail
    refine Z1.out.mono ?_
    rintro e w7 ⟨rfl, hb7⟩
    have sr7 := Lib.hid (sr6.out.after hb7)
    have b7 := b6.trans (hb7.mono b6.size)
    clear Z1 hb7 b6 sr6
    go_wp2_with fail
    refine (Z2.out w7 sr7.out).mono ?_
    rintro e w8 ⟨rfl, hb8⟩
    have sr8 := Lib.hid (sr7.out.after hb8)
    have b8 := b7.trans (hb8.mono b7.size)
    clear Z2 hb8 b7 sr7
    have E1 := same_any K n i j a c hc w8 (hs.out.after b8)
    have E2 : ∀ w', SeesN w' a' n K → _ := fun w' h => refSame_any K n i j a' c' w' h
    generalize sameV K n i j = s at E1 E2
    replace E1 := Lib.hid E1
    replace E2 := Lib.hid E2
    go_wp2_with fail
    refine E1.out.mono ?_
    rintro e w9 ⟨rfl, hb9⟩
    have sr9 := Lib.hid (sr8.out.after hb9)
    have b9 := b8.trans (hb9.mono b8.size)
    clear E1 hb9 b8 sr8
    go_wp2_with fail
    refine (E2.out w9 sr9.out).mono ?_
    rintro e w10 ⟨rfl, hb10⟩
    have sr10 := Lib.hid (sr9.out.after hb10)
    have b10 := b9.trans (hb10.mono b9.size)
    clear E2 hb10 b9 sr9
    have hl := partsV_length K n i (by omega)
    have P1 := parts_any K n i a c hc w10 (hs.out.after b10)
    have P2 : ∀ w', SeesN w' a' n K → _ := fun w' h => refParts_any K n i a' c' w' h
    generalize partsV K n i = pl at P1 P2 hl
    replace P1 := Lib.hid P1
    replace P2 := Lib.hid P2
    go_wp2_with fail
    refine P1.out.mono ?_
    rintro e w11 ⟨a1, c1, rfl, i1, hb11⟩
    have sr11 := Lib.hid (sr10.out.after hb11)
    have b11 := b10.trans (hb11.mono b10.size)
    clear P1 hb11 b10 sr10
    go_wp2_with fail
    refine (P2.out w11 sr11.out).mono ?_
    rintro e w12 ⟨a2, c2, rfl, i2, hb12⟩
    have b12 := b11.trans (hb12.mono b11.size)
    have Q := Lib.hid (sameInts_any pl.length (by omega) (fun j => pl.getD j 0) a1 a2 c1 c2 w12 (i1.out.after hb12) i2)
    clear P2 hb12 b11 sr11 i1 i2
    go_wp2_with fail
    refine Q.out.mono ?_
    rintro e w13 ⟨rfl, hb13⟩
    have b13 := b12.trans (hb13.mono b12.size)
    go_wp2
    go_ret
    exact ⟨rfl, b13⟩

end Go.Proofs.YtlfgiggeeoegjaaDoor
