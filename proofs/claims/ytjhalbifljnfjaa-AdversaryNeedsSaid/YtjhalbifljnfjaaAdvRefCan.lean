/-
  Contracts: the document's Can, Atoms.
-/
import Derived.Test.YtjhalbifljnfjaaAdvRefKnows
import Derived.Test.YtjhalbifljnfjaaAdvRefPut
namespace Go.Proofs.Ytjhalbifljnfjaa
open Go.RowKit
set_option linter.unusedVariables false

theorem canB_eq (K : Nds) (n : Nat) (S : Nat → Prop) (z : Int) : canB K n S z = (inB (knN K n) z && knB K n S z.toNat) := by
  unfold canB knN
  cases hm : mayB K n
  · rw [Bool.false_and, if_neg (by simp)]
    have : inB 0 z = false := by unfold inB; simp
    rw [this, Bool.false_and]
  · rw [Bool.true_and, if_pos rfl]

set_option maxHeartbeats 1000000 in
set_option maxRecDepth 8000 in
theorem refCan_any (K : Nds) (n : Nat) (a ak : Option Addr) (c k ck : Nat) (hk : k ≤ 1000000) (f : Nat → Int) (z : Int) (w : World) (hs : Hid (SeesN w a n K)) (hf : Hid (SeesZ w ak k f)) :
    Calls Try.prog 15 #[.slice a n c, .slice ak k ck, .int .i64 z] w fun e w' => e = .returned (.bool (canB K n (inZ f k) z)) ∧ Below w.heap.size w w' := by
  rw [canB_eq]
  have M := Lib.hid (refKnows_any K n a ak c k ck hk f w hs hf)
  unfold RefKEnd at M
  generalize knN K n = N at *
  generalize inZ f k = S0 at *
  by_cases h0 : 0 ≤ z
  · by_cases h1 : z < (N : Int)
    · obtain ⟨i, hi, rfl⟩ : ∃ i : Nat, i < N ∧ z = i := ⟨z.toNat, by omega, by omega⟩
      rw [Int.toNat_natCast, show inB N (i : Int) = true by unfold inB; simp; omega, Bool.true_and]
      generalize hb : knB K n S0 i = b
      go_enter Try.func15, Try.ntmps15
      go_wp2_with fail
      refine M.out.mono ?_
      rintro e w1 ⟨v, rfl, hown, hb1⟩
      obtain ⟨ab, cb, rfl, sb⟩ := own_bools_see hown.out
      have gb := Lib.hid (sb.cell hi)
      unfold boolV at gb
      rw [hb] at gb
      replace sb := Lib.hid sb
      clear M hown hb
      go_wp2_with (first | (refine wpList_wknown rfl (at_bools sb.out hi rfl rfl rfl rfl _) ?_) | (refine wpList_wknown rfl (get_bool gb.out rfl rfl) ?_))
      go_ret
      exact ⟨rfl, hb1⟩
    · rw [show inB N z = false by unfold inB; simp; omega, Bool.false_and]
      go_enter Try.func15, Try.ntmps15
      go_wp2_with fail
      refine M.out.mono ?_
      rintro e w1 ⟨v, rfl, hown, hb1⟩
      obtain ⟨ab, cb, rfl, sb⟩ := own_bools_see hown.out
      clear M hown sb
      go_wp2
      go_ret
      exact ⟨rfl, hb1⟩
  · rw [show inB N z = false by unfold inB; simp; omega, Bool.false_and]
    go_enter Try.func15, Try.ntmps15
    go_wp2_with fail
    refine M.out.mono ?_
    rintro e w1 ⟨v, rfl, hown, hb1⟩
    obtain ⟨ab, cb, rfl, sb⟩ := own_bools_see hown.out
    clear M hown sb
    go_wp2
    go_ret
    exact ⟨rfl, hb1⟩

set_option maxHeartbeats 2000000 in
set_option maxRecDepth 8000 in
theorem refAtoms_any (K : Nds) (n : Nat) (hn : n ≤ 1000) (a ak : Option Addr) (c k ck : Nat) (hk : k ≤ 1000000) (f : Nat → Int) (w : World) (hs : Hid (SeesN w a n K)) (hf : Hid (SeesZ w ak k f)) :
    Calls Try.prog 18 #[.slice a n c, .slice ak k ck] w (PutEnd (riseL (atomL K n (inZ f k) (knN K n))) w) := by
  have M := Lib.hid (refKnows_any K n a ak c k ck hk f w hs hf)
  unfold RefKEnd at M
  have hN : knN K n ≤ n := by unfold knN; split <;> omega
  generalize knN K n = N at *
  generalize inZ f k = S0 at *
  go_enter Try.func18, Try.ntmps18
  go_wp2_with fail
  refine M.out.mono ?_
  rintro e w1 ⟨v, rfl, hown, hb1⟩
  obtain ⟨ab, cb, rfl, sb⟩ := own_bools_see hown.out
  replace sb := Lib.hid sb
  have hql : Hid (w.heap.size ≤ w1.heap.size) := hb1.size
  have s1 := Lib.hid (hs.out.after hb1)
  clear M hown
  go_wp2
  go_loopw [6, 7] (fun v c wr => ∃ j : Nat, j ≤ N ∧ c = .int .i64 (j : Int) ∧ Hid (wr.ownsRow w1.heap.size 3 1 v (riseL (atomL K n S0 j)).length (zCells (riseL (atomL K n S0 j)))) ∧ Below w1.heap.size w1 wr) (fun _ c _ => N - (intOf c).toNat)
  case atStart => exact ⟨0, Nat.zero_le _, rfl, World.ownsRow_made _ _ _ (Nat.le_refl _) (by decide) rfl, (Below.refl _ _).alloc (Nat.le_refl _) _⟩
  case round =>
    obtain ⟨j, hj, rfl, hown, hb⟩ := hrel
    by_cases hlt : j < N
    · have lj : (j : Int) < (N : Int) := by omega
      have hjn : j < n := by omega
      have sb2 := Lib.hid (sb.out.after hb)
      have s2 := Lib.hid (s1.out.after hb)
      have gb := Lib.hid (sb2.out.cell hlt)
      unfold boolV at gb
      have g0 := s2.out.cell (show j * 3 < n * 3 by omega)
      have g1 := s2.out.cell (show j * 3 + 1 < n * 3 by omega)
      rw [flatN_0] at g0
      rw [flatN_1] at g1
      have a1 : (elV a (j * 3)).add 1 = elV a (j * 3 + 1) := Deep.add_add _ _ _
      have hll := selL_length (fun i => knB K n S0 i && (K i 0 == 0)) (fun i => K i 1) j
      have el : Hid (∀ b, (knB K n S0 j && (K j 0 == 0)) = b → atomL K n S0 (j + 1) = atomL K n S0 j ++ (if b = true then [K j 1] else [])) := by
        intro b e
        subst e
        rfl
      have hll2 : (riseL (atomL K n S0 j)).length ≤ 100000 := by have := riseL_length (atomL K n S0 j); unfold atomL at *; omega
      clear hll
      generalize hLj : atomL K n S0 j = L at *
      clear hLj
      cases hkb : knB K n S0 j
      · rw [hkb] at gb el
        have el2 := Lib.hid (el.out false rfl)
        clear el hkb g0 g1
        go_wp2_with (first | (refine wpList_known rfl (at_bools sb2.out hlt rfl rfl rfl rfl _) ?_) | (refine wpList_known rfl (get_bool gb.out rfl rfl) ?_))
        go_roundw
        case rel => exact ⟨j + 1, by omega, by go_num, by rw [el2.out]; simpa using hown, hb⟩
        case measure => simp [intOf]; omega
      · rw [hkb] at gb el
        cases hob : (K j 0 == 0)
        · rw [hob] at el
          have el2 := Lib.hid (el.out false rfl)
          clear el hkb g1
          go_wp2_with (first | (refine wpList_known rfl (at_bools sb2.out hlt rfl rfl rfl rfl _) ?_) | (refine wpList_known rfl (get_bool gb.out rfl rfl) ?_) | (refine wpList_wknown rfl (at_refNodes s2.out hjn rfl rfl rfl rfl _) ?_))
          go_roundw
          case rel => exact ⟨j + 1, by omega, by go_num, by rw [el2.out]; simpa using hown, hb⟩
          case measure => simp [intOf]; omega
        · rw [hob] at el
          have el2 := Lib.hid (el.out true rfl)
          clear el hkb
          obtain ⟨ao, co, rfl, so⟩ := own_zs_see hown.out
          have P := Lib.hid (refPut_any (riseL L) hll2 (K j 1) ao co wr so)
          clear hown so
          go_wp2_with (first | (refine wpList_known rfl (at_bools sb2.out hlt rfl rfl rfl rfl _) ?_) | (refine wpList_known rfl (get_bool gb.out rfl rfl) ?_) | (refine wpList_wknown rfl (at_refNodes s2.out hjn rfl rfl rfl rfl _) ?_))
          refine P.out.mono ?_
          rintro e w5 ⟨v5, rfl, own5, hb5⟩
          have own9 := Lib.hid (own_from own5.out hb.size)
          have b10 := hb.trans (hb5.mono hb.size)
          rw [← riseL_snoc] at own9
          clear P own5 hb5 g0 g1
          go_wp2
          go_roundw
          case rel => exact ⟨j + 1, by omega, by go_num, by rw [el2.out]; exact own9, b10⟩
          case measure => simp [intOf]; omega
    · have lj : ¬ (j : Int) < (N : Int) := by omega
      obtain rfl : j = N := by omega
      have own9 := Lib.hid (own_from hown.out hql.out)
      have b10 := hb1.trans (hb.mono hql.out)
      clear hown hb
      go_wp2
      go_ret
      exact ⟨_, rfl, own9, b10⟩

end Go.Proofs.Ytjhalbifljnfjaa
