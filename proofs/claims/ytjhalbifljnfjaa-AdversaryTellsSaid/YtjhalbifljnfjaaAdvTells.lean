/-
  The walk of AdversaryTells.
-/
import Derived.Test.YtjhalbifljnfjaaAdvShown
import Derived.Test.YtjhalbifljnfjaaAdvOpen
import Derived.Test.YtjhalbifljnfjaaAdvRefWants
namespace Go.Proofs.Ytjhalbifljnfjaa
open Go.RowKit
set_option linter.unusedVariables false

set_option maxHeartbeats 4000000 in
set_option maxRecDepth 8000 in
theorem walk_AdversaryTells (a : Option Addr) (n c : Nat) (K : Nds) (ak : Option Addr) (k ck : Nat) (f : Nat → Int) (z : Int) (wz : (Lit.int .i64 z).wf = true) (w : World) (hK : CameN w a n c K) (hZ : CameZ w ak k ck f) :
    Calls Try.prog 3 #[.slice a n c, .slice ak k ck, .int .i64 z] w fun e w' => e = .returned (.bool true) ∧ Below w.heap.size w w' := by
  obtain ⟨hs, hc⟩ := hK
  obtain ⟨hf, hnil⟩ := hZ
  replace hs := Lib.hid hs
  replace hf := Lib.hid hf
  replace hnil := Lib.hid hnil
  clear wz
  have S := Lib.hid (shown9_any w)
  by_cases h60 : 60 < n
  · have l0 : (60 : Int) < (n : Int) := by omega
    go_enter Try.func3, Try.ntmps3
    go_wp2_with fail
    refine S.out.mono ?_
    rintro e w1 ⟨rfl, hb1⟩
    go_wp2
    go_ret
    exact ⟨rfl, hb1⟩
  · have l0 : ¬ (60 : Int) < (n : Int) := by omega
    by_cases k60 : 60 < k
    · have l1 : (60 : Int) < (k : Int) := by omega
      go_enter Try.func3, Try.ntmps3
      go_wp2_with fail
      refine S.out.mono ?_
      rintro e w1 ⟨rfl, hb1⟩
      go_wp2
      go_ret
      exact ⟨rfl, hb1⟩
    · have l1 : ¬ (60 : Int) < (k : Int) := by omega
      have hk6 : k ≤ 1000000 := by omega
      have hk5 : k ≤ 100000 := by omega
      have hn3 : n ≤ 1000 := by omega
      clear h60 k60
      go_enter Try.func3, Try.ntmps3
      go_wp2_with fail
      refine S.out.mono ?_
      rintro e w1 ⟨rfl, hb⟩
      have T := Lib.hid (its_any K n hn3 a c w1 (hs.out.after hb))
      clear S
      go_wp2_with fail
      refine T.out.mono ?_
      rintro e w2 ⟨a', c', rfl, sr, hb2⟩
      have b2 := hb.trans (hb2.mono hb.size)
      clear hb hb2 T
      have M1 := Lib.hid (advKnows_any K n a ak c k ck hc hk6 f w2 (hs.out.after b2) (hf.out.after b2))
      have hN : knN K n ≤ 1000000 := by unfold knN; split <;> omega
      go_wp2_with fail
      refine M1.out.mono ?_
      rintro e w3 ⟨v3, rfl, own3, hb3⟩
      have sr3 := Lib.hid (sr.out.after hb3)
      have b3 := b2.trans (hb3.mono b2.size)
      clear M1 hb3 b2 sr
      have M2 := Lib.hid (refKnows_any K n a' ak c' k ck hk6 f w3 sr3 (hf.out.after b3))
      unfold RefKEnd at M2
      go_wp2_with fail
      refine M2.out.mono ?_
      rintro e w4 ⟨v4, rfl, own4, hb4⟩
      obtain ⟨p3, q3, rfl, s3⟩ := own_bools_see (own_onto own3.out hb4)
      obtain ⟨p4, q4, rfl, s4⟩ := own_bools_see own4.out
      have Q := Lib.hid (sameBools_any (knN K n) hN (knB K n (inZ f k)) p3 p4 q3 q4 w4 s3 s4)
      have sr4 := Lib.hid (sr3.out.after hb4)
      have b4 := b3.trans (hb4.mono b3.size)
      clear M2 hb4 b3 sr3 own3 own4 s3 s4
      go_wp2_with fail
      refine Q.out.mono ?_
      rintro e w5 ⟨rfl, hb5⟩
      have sr5 := Lib.hid (sr4.out.after hb5)
      have b5 := b4.trans (hb5.mono b4.size)
      clear Q hb5 b4 sr4
      have C1 := advCan_any K n a ak c k ck hc hk6 f z w5 (hs.out.after b5) (hf.out.after b5)
      have C2 : ∀ w', SeesN w' a' n K → SeesZ w' ak k f → _ := fun w' h h2 => refCan_any K n a' ak c' k ck hk6 f z w' h h2
      generalize canB K n (inZ f k) z = cb at C1 C2
      replace C1 := Lib.hid C1
      replace C2 := Lib.hid C2
      have ceq : ((cb == cb) : Bool) = true := by cases cb <;> rfl
      go_wp2_with fail
      refine C1.out.mono ?_
      rintro e w6 ⟨rfl, hb6⟩
      have sr6 := Lib.hid (sr5.out.after hb6)
      have b6 := b5.trans (hb6.mono b5.size)
      clear C1 hb6 b5 sr5
      go_wp2_with fail
      refine (C2.out w6 sr6.out (hf.out.after b6)).mono ?_
      rintro e w7 ⟨rfl, hb7⟩
      have sr7 := Lib.hid (sr6.out.after hb7)
      have b7 := b6.trans (hb7.mono b6.size)
      clear C2 hb7 b6 sr6
      have A1 := Lib.hid (advAtoms_any K n hn3 a ak c k ck hc hk6 f w7 (hs.out.after b7) (hf.out.after b7))
      have hal : (riseL (atomL K n (inZ f k) (knN K n))).length ≤ 1000000 := by
        have h1 := riseL_length (atomL K n (inZ f k) (knN K n))
        have h2 := selL_length (fun i => knB K n (inZ f k) i && (K i 0 == 0)) (fun i => K i 1) (knN K n)
        unfold atomL at *
        omega
      go_wp2_with fail
      refine A1.out.mono ?_
      rintro e w8 ⟨v8, rfl, own8, hb8⟩
      have sr8 := Lib.hid (sr7.out.after hb8)
      have b8 := b7.trans (hb8.mono b7.size)
      clear A1 hb8 b7 sr7
      have A2 := Lib.hid (refAtoms_any K n hn3 a' ak c' k ck hk6 f w8 sr8 (hf.out.after b8))
      unfold PutEnd at A2
      go_wp2_with fail
      refine A2.out.mono ?_
      rintro e w9 ⟨v9, rfl, own9, hb9⟩
      obtain ⟨p8, q8, rfl, s8⟩ := own_zs_see (own_onto own8.out hb9)
      obtain ⟨p9, q9, rfl, s9⟩ := own_zs_see own9.out
      have Q := Lib.hid (sameZ_any _ hal _ p8 p9 q8 q9 w9 s8 s9)
      have sr9 := Lib.hid (sr8.out.after hb9)
      have b9 := b8.trans (hb9.mono b8.size)
      clear A2 hb9 b8 sr8 own8 own9 s8 s9
      go_wp2_with fail
      refine Q.out.mono ?_
      rintro e w10 ⟨rfl, hb10⟩
      have sr10 := Lib.hid (sr9.out.after hb10)
      have b10 := b9.trans (hb10.mono b9.size)
      clear Q hb10 b9 sr9
      have N1 := Lib.hid (advNeeds_any K n a ak c k ck hc hk6 f z w10 (hs.out.after b10) (hf.out.after b10))
      have hnl : (needsL K n (inZ f k) z).length ≤ 1000000 := by
        unfold needsL
        split
        · have h1 := riseL_length (needL K n (inZ f k) z.toNat n)
          have h2 := selL_length (fun i => (K i 0 == 1) && knB K n (fun q => inZ f k q ∨ q = i) z.toNat) (fun i => K i 1) n
          unfold needL at *
          omega
        · simp
      go_wp2_with fail
      refine N1.out.mono ?_
      rintro e w11 ⟨v11, rfl, own11, hb11⟩
      have sr11 := Lib.hid (sr10.out.after hb11)
      have b11 := b10.trans (hb11.mono b10.size)
      clear N1 hb11 b10 sr10
      have N2 := Lib.hid (refNeeds_any K n a' ak c' k ck hk5 hnil.out f z w11 sr11 (hf.out.after b11))
      unfold PutEnd at N2
      go_wp2_with fail
      refine N2.out.mono ?_
      rintro e w12 ⟨v12, rfl, own12, hb12⟩
      obtain ⟨p11, q11, rfl, s11⟩ := own_zs_see (own_onto own11.out hb12)
      obtain ⟨p12, q12, rfl, s12⟩ := own_zs_see own12.out
      have Q := Lib.hid (sameZ_any _ hnl _ p11 p12 q11 q12 w12 s11 s12)
      have b12 := b11.trans (hb12.mono b11.size)
      clear N2 hb12 b11 sr11 own11 own12 s11 s12
      go_wp2_with fail
      refine Q.out.mono ?_
      rintro e w13 ⟨rfl, hb13⟩
      have b13 := b12.trans (hb13.mono b12.size)
      clear Q hb13 b12
      go_wp2
      go_ret
      exact ⟨rfl, b13⟩

end Go.Proofs.Ytjhalbifljnfjaa
