/-
  The walk of TermSizes.
-/
import Derived.Test.YtlfgiggeeoegjaaDoorTermShown
namespace Go.Proofs.YtlfgiggeeoegjaaDoor
open Go.RowKit
set_option linter.unusedVariables false

theorem byte_in {i : Int} (h : (Lit.int .u8 i).wf = true) : ∃ k : Nat, k < 256 ∧ i = k := by
  simp [Lit.wf, IntKind.min, IntKind.max, IntKind.signed, IntKind.bits] at h
  exact ⟨i.toNat, by omega, by omega⟩

theorem digits_count : ∀ (t v : Nat), v < 10 ^ (t + 1) → (t = 0 ∨ 10 ^ t ≤ v) → (Lib.decDigits v).length = t + 1
  | 0, v, h, _ => by rw [Lib.decDigits_one (by simpa using h)]; rfl
  | t + 1, v, h, h2 => by
    have h3 : 10 ^ (t + 1) ≤ v := by rcases h2 with h2 | h2 <;> omega
    have h10 : 10 ≤ 10 ^ (t + 1) := by
      have : 1 ≤ 10 ^ t := Nat.one_le_pow _ _ (by decide)
      rw [Nat.pow_succ]
      omega
    have hv : ¬ v < 10 := by omega
    rw [digits_big hv, List.length_append, List.length_singleton, digits_count t (v / 10) (by rw [Nat.pow_succ] at h; omega) ?_]
    rw [Nat.pow_succ] at h3
    exact .inr (by omega)

set_option maxHeartbeats 4000000 in
set_option maxRecDepth 8000 in
theorem sizes_nothing (a : Option Addr) (n c : Nat) (K : Nds) (i : Int) (w : World) (hp : Hid (PTab w.heap.size w)) (hs : Hid (SeesN w a n K)) (hc : n ≤ c) (h : 60 < n ∨ mayB K n = false ∨ n = 0) :
    Calls Tryd.prog 6 #[.slice a n c, .int .u8 i] w fun e w' => e = .returned (.bool true) ∧ Below w.heap.size w w' := by
  have S : Hid (∀ w', PTab w'.heap.size w' → _) := fun w' h => shown8_any w' h
  by_cases h60 : 60 < n
  · have l0 : (60 : Int) < (n : Int) := by omega
    go_enter Tryd.func6, Tryd.ntmps6
    go_wp2_with fail
    refine (S.out w hp.out).mono ?_
    rintro e w1 ⟨rfl, hb1⟩
    go_wp2
    go_ret
    exact ⟨rfl, hb1⟩
  · have l0 : ¬ (60 : Int) < (n : Int) := by omega
    have M := may_any K n a c hc w hs
    by_cases hm : mayB K n = false
    · rw [hm] at M
      replace M := Lib.hid M
      clear h hm
      go_enter Tryd.func6, Tryd.ntmps6
      go_wp2_with fail
      refine M.out.mono ?_
      rintro e w1 ⟨rfl, hb1⟩
      go_wp2_with fail
      refine (S.out w1 (hp.out.after hb1)).mono ?_
      rintro e w2 ⟨rfl, hb2⟩
      have b2 := hb1.trans (hb2.mono hb1.size)
      go_wp2
      go_ret
      exact ⟨rfl, b2⟩
    · have hm' : mayB K n = true := by simpa using hm
      have h0 : n = 0 := by
        rcases h with h | h | h
        · omega
        · exact absurd h hm
        · exact h
      subst h0
      rw [hm'] at M
      replace M := Lib.hid M
      clear h hm hm'
      go_enter Tryd.func6, Tryd.ntmps6
      go_wp2_with fail
      refine M.out.mono ?_
      rintro e w1 ⟨rfl, hb1⟩
      go_wp2_with fail
      refine (S.out w1 (hp.out.after hb1)).mono ?_
      rintro e w2 ⟨rfl, hb2⟩
      have b2 := hb1.trans (hb2.mono hb1.size)
      go_wp2
      go_ret
      exact ⟨rfl, b2⟩

set_option maxHeartbeats 4000000 in
set_option maxRecDepth 8000 in
theorem sizes_asked (a : Option Addr) (n c : Nat) (K : Nds) (i : Nat) (w : World) (hp : Hid (PTab w.heap.size w)) (hs : Hid (SeesN w a n K)) (hc : n ≤ c) (h60 : n ≤ 60) (hm : mayB K n = true) (h0 : 0 < n) (hi8 : i < 256) :
    Calls Tryd.prog 6 #[.slice a n c, .int .u8 (i : Int)] w fun e w' => e = .returned (.bool true) ∧ Below w.heap.size w w' := by
  have S : Hid (∀ w', PTab w'.heap.size w' → _) := fun w' h => shown8_any w' h
  have l0 : ¬ (60 : Int) < (n : Int) := by omega
  have l1 : ((n : Int) == 0) = false := beq_ff (by omega)
  have l2 : (n : Int) ≠ 0 := by omega
  have M := may_any K n a c hc w hs
  rw [hm] at M
  replace M := Lib.hid M
  obtain ⟨x, hx⟩ : ∃ x, x = i % n := ⟨_, rfl⟩
  have hxn : x < n := by rw [hx]; exact Nat.mod_lt _ h0
  have ex : (i : Int) % (n : Int) = (x : Int) := by rw [hx]; omega
  have tx : (i : Int).tmod (n : Int) = (x : Int) := by rw [Int.tmod_eq_emod_of_nonneg (by omega)]; exact ex
  clear hx
  have hpl : placeB K n (x : Int) = true := by unfold placeB; rw [hm]; simp; omega
  have hK := Lib.hid ((mayB_iff K n).1 hm).2
  have Z : ∀ (j : Nat), ∀ w', SeesN w' a n K → PTab w'.heap.size w' → _ := fun j w' h h' => size_any K n (j : Int) a c hc w' h h'
  have hz := sizeV_yes hpl
  rcases hK.out.kinds hxn with ⟨k0, ⟨v, hv, e1⟩, e2⟩ | ⟨k0, y, y', hy, hy', e1, e2⟩
  · have hop : K x 0 < 2 := by omega
    have eZ := szN_leaf hK.out hxn k0 e1
    rw [← hz] at eZ
    have dl := digits_six hv
    have Zx := Lib.hid (Z x)
    generalize sizeV K n x = z at *
    clear Z hm hpl hz hK k0
    have eZ' : Hid (z = 1 + (Lib.decDigits v).length) := by unfold Hid; omega
    clear eZ dl
    go_enter Tryd.func6, Tryd.ntmps6
    go_wp2_with fail
    refine M.out.mono ?_
    rintro e w1 ⟨rfl, hb1⟩
    go_wp2_with fail
    refine (S.out w1 (hp.out.after hb1)).mono ?_
    rintro e w2 ⟨rfl, hb2⟩
    have b2 := hb1.trans (hb2.mono hb1.size)
    clear S M hb1 hb2
    go_wp2_with fail
    refine (Zx.out w2 (hs.out.after b2) (hp.out.after b2)).mono ?_
    rintro e w3 ⟨rfl, hb3⟩
    have b3 := b2.trans (hb3.mono b2.size)
    have s3 := Lib.hid (hs.out.after b3)
    have b4 := b3.alloc b3.size (.cells #[.int .i64 (K x 0), .int .i64 (v : Int), .int .i64 0] 41)
    have r4 := Lib.hid (RowAt.new w3 41 #[.int .i64 (K x 0), .int .i64 (v : Int), .int .i64 0])
    clear hb3 b2 Zx b3
    go_wp2_with (first | (refine wpList_known rfl (at_nodes s3.out hxn rfl rfl rfl rfl _) ?_) | (refine wpList_known rfl (get_node s3.out hxn rfl rfl) ?_))
    generalize w3.heap.size = p at r4 ⊢
    generalize w3.alloc _ = w4 at *
    have c1 := cell_of_row w4 p 1 _ _ (0, 0) r4.out
    clear s3 r4
    go_loopw [8, 9] (fun d k wr => wr = w4 ∧ ∃ t kk : Nat, t ≤ 6 ∧ d = .int .i64 ((t : Int) + 2) ∧ k = .int .i64 (kk : Int) ∧ Hid (kk = 10 ^ (t + 1)) ∧ Hid (t = 0 ∨ 10 ^ t ≤ v)) (fun d _ _ => 9 - (intOf d).toNat)
    case atStart => exact ⟨rfl, 0, 10, by decide, rfl, rfl, rfl, .inl rfl⟩
    case round =>
      obtain ⟨rfl, t, kk, ht, rfl, rfl, hkk, hlow⟩ := hrel
      have hkb : kk ≤ 10000000 := by
        rw [hkk.out]
        exact Nat.le_trans (Nat.pow_le_pow_right (by decide) (show t + 1 ≤ 7 by omega)) (by decide)
      by_cases hlt : kk ≤ v
      · have lk : (kk : Int) ≤ (v : Int) := by omega
        have ht6 : t + 1 ≤ 6 := by
          by_cases e : t ≤ 5
          · omega
          · have : t = 6 := by omega
            subst this
            have h7 := hkk.out
            have : (10 : Nat) ^ (6 + 1) = 10000000 := by decide
            omega
        have hk2 : Hid (kk * 10 = 10 ^ (t + 1 + 1)) := by unfold Hid; rw [hkk.out]; exact (Nat.pow_succ ..).symm
        have hl2 : Hid (t + 1 = 0 ∨ 10 ^ (t + 1) ≤ v) := .inr (by rw [← hkk.out]; exact hlt)
        go_wp2
        go_roundw
        case rel => exact ⟨by first | rfl | trivial, t + 1, kk * 10, ht6, by go_num, by go_num, hk2, hl2⟩
        case measure => simp [intOf]; omega
      · have lk : ¬ (kk : Int) ≤ (v : Int) := by omega
        have ed := digits_count t v (by rw [← hkk.out]; omega) hlow.out
        have ez : ((z : Int) == (t : Int) + 2) = true := by
          have := eZ'.out
          rw [ed] at this
          simp
          omega
        replace ed := Lib.hid ed
        go_wp2
        go_ret
        exact ⟨rfl, b4⟩
  · have hop : ¬ K x 0 < 2 := by omega
    have hyn : y < n := by omega
    have hyn' : y' < n := by omega
    have hply : placeB K n (y : Int) = true := by unfold placeB; rw [hm]; simp; omega
    have hply' : placeB K n (y' : Int) = true := by unfold placeB; rw [hm]; simp; omega
    have hzy := sizeV_yes hply
    have hzy' := sizeV_yes hply'
    have eZ : (sizeV K n y < sizeV K n x ∧ sizeV K n y' < sizeV K n x) ∨ sizeV K n x = 1000000000 := by
      have py := szT_pos (tm K y)
      have py' := szT_pos (tm K y')
      rw [hz, hzy, hzy']
      have q1 : szN K y = szT (tm K y) := rfl
      have q2 : szN K y' = szT (tm K y') := rfl
      rcases k0 with k0 | k0
      · have := szN_pair hK.out hxn k0 hy hy' e1 e2
        omega
      · have := szN_lock hK.out hxn k0 hy hy' e1 e2
        omega
    have Zx := Lib.hid (Z x)
    have Zy := Lib.hid (Z y)
    have Zy' := Lib.hid (Z y')
    generalize sizeV K n x = z at *
    generalize sizeV K n y = u at *
    generalize sizeV K n y' = u' at *
    clear Z hm hpl hz hK k0 hply hply' hzy hzy'
    by_cases c1 : u < z
    · by_cases c2 : u' < z
      · clear eZ
        have d1 : (u : Int) < (z : Int) := by omega
        have d2 : (u' : Int) < (z : Int) := by omega
        go_enter Tryd.func6, Tryd.ntmps6
        go_wp2_with fail
        refine M.out.mono ?_
        rintro e w1 ⟨rfl, hb1⟩
        go_wp2_with fail
        refine (S.out w1 (hp.out.after hb1)).mono ?_
        rintro e w2 ⟨rfl, hb2⟩
        have b2 := hb1.trans (hb2.mono hb1.size)
        clear S M hb1 hb2
        go_wp2_with fail
        refine (Zx.out w2 (hs.out.after b2) (hp.out.after b2)).mono ?_
        rintro e w3 ⟨rfl, hb3⟩
        have b3 := b2.trans (hb3.mono b2.size)
        have s3 := Lib.hid (hs.out.after b3)
        have b4 := b3.alloc b3.size (.cells #[.int .i64 (K x 0), .int .i64 (y : Int), .int .i64 (y' : Int)] 41)
        have r4 := Lib.hid (RowAt.new w3 41 #[.int .i64 (K x 0), .int .i64 (y : Int), .int .i64 (y' : Int)])
        clear hb3 b2 Zx b3
        go_wp2_with (first | (refine wpList_known rfl (at_nodes s3.out hxn rfl rfl rfl rfl _) ?_) | (refine wpList_known rfl (get_node s3.out hxn rfl rfl) ?_))
        generalize w3.heap.size = p at r4 ⊢
        generalize w3.alloc _ = w4 at *
        refine (Zy.out w4 (hs.out.after b4) (hp.out.after b4)).mono ?_
        rintro e w5 ⟨rfl, hb5⟩
        have b5 := b4.trans (hb5.mono b4.size)
        have c5 := cell_of_row w5 p 2 _ _ (0, 0) (r4.out.below hb5 r4.out.lt)
        clear hb5 b4 Zy s3 r4
        go_wp2_with fail
        refine (Zy'.out w5 (hs.out.after b5) (hp.out.after b5)).mono ?_
        rintro e w6 ⟨rfl, hb6⟩
        have b6 := b5.trans (hb6.mono b5.size)
        go_wp2
        go_ret
        exact ⟨rfl, b6⟩
      · have ez : ((z : Int) == 1000000000) = true := by simp; omega
        clear eZ
        have d1 : (u : Int) < (z : Int) := by omega
        have d2 : ¬ (u' : Int) < (z : Int) := by omega
        go_enter Tryd.func6, Tryd.ntmps6
        go_wp2_with fail
        refine M.out.mono ?_
        rintro e w1 ⟨rfl, hb1⟩
        go_wp2_with fail
        refine (S.out w1 (hp.out.after hb1)).mono ?_
        rintro e w2 ⟨rfl, hb2⟩
        have b2 := hb1.trans (hb2.mono hb1.size)
        clear S M hb1 hb2
        go_wp2_with fail
        refine (Zx.out w2 (hs.out.after b2) (hp.out.after b2)).mono ?_
        rintro e w3 ⟨rfl, hb3⟩
        have b3 := b2.trans (hb3.mono b2.size)
        have s3 := Lib.hid (hs.out.after b3)
        have b4 := b3.alloc b3.size (.cells #[.int .i64 (K x 0), .int .i64 (y : Int), .int .i64 (y' : Int)] 41)
        have r4 := Lib.hid (RowAt.new w3 41 #[.int .i64 (K x 0), .int .i64 (y : Int), .int .i64 (y' : Int)])
        clear hb3 b2 Zx b3
        go_wp2_with (first | (refine wpList_known rfl (at_nodes s3.out hxn rfl rfl rfl rfl _) ?_) | (refine wpList_known rfl (get_node s3.out hxn rfl rfl) ?_))
        generalize w3.heap.size = p at r4 ⊢
        generalize w3.alloc _ = w4 at *
        refine (Zy.out w4 (hs.out.after b4) (hp.out.after b4)).mono ?_
        rintro e w5 ⟨rfl, hb5⟩
        have b5 := b4.trans (hb5.mono b4.size)
        have c5 := cell_of_row w5 p 2 _ _ (0, 0) (r4.out.below hb5 r4.out.lt)
        clear hb5 b4 Zy s3 r4
        go_wp2_with fail
        refine (Zy'.out w5 (hs.out.after b5) (hp.out.after b5)).mono ?_
        rintro e w6 ⟨rfl, hb6⟩
        have b6 := b5.trans (hb6.mono b5.size)
        go_wp2
        go_ret
        exact ⟨rfl, b6⟩
    · have ez : ((z : Int) == 1000000000) = true := by simp; omega
      clear eZ
      have d1 : ¬ (u : Int) < (z : Int) := by omega
      go_enter Tryd.func6, Tryd.ntmps6
      go_wp2_with fail
      refine M.out.mono ?_
      rintro e w1 ⟨rfl, hb1⟩
      go_wp2_with fail
      refine (S.out w1 (hp.out.after hb1)).mono ?_
      rintro e w2 ⟨rfl, hb2⟩
      have b2 := hb1.trans (hb2.mono hb1.size)
      clear S M hb1 hb2
      go_wp2_with fail
      refine (Zx.out w2 (hs.out.after b2) (hp.out.after b2)).mono ?_
      rintro e w3 ⟨rfl, hb3⟩
      have b3 := b2.trans (hb3.mono b2.size)
      have s3 := Lib.hid (hs.out.after b3)
      have b4 := b3.alloc b3.size (.cells #[.int .i64 (K x 0), .int .i64 (y : Int), .int .i64 (y' : Int)] 41)
      have r4 := Lib.hid (RowAt.new w3 41 #[.int .i64 (K x 0), .int .i64 (y : Int), .int .i64 (y' : Int)])
      clear hb3 b2 Zx b3
      go_wp2_with (first | (refine wpList_known rfl (at_nodes s3.out hxn rfl rfl rfl rfl _) ?_) | (refine wpList_known rfl (get_node s3.out hxn rfl rfl) ?_))
      generalize w3.heap.size = p at r4 ⊢
      generalize w3.alloc _ = w4 at *
      refine (Zy.out w4 (hs.out.after b4) (hp.out.after b4)).mono ?_
      rintro e w5 ⟨rfl, hb5⟩
      have b5 := b4.trans (hb5.mono b4.size)
      have c5 := cell_of_row w5 p 2 _ _ (0, 0) (r4.out.below hb5 r4.out.lt)
      clear hb5 b4 Zy s3 r4
      go_wp2
      go_ret
      exact ⟨rfl, b5⟩
theorem walk_TermSizes (a : Option Addr) (n c : Nat) (K : Nds) (i : Int) (wi : (Lit.int .u8 i).wf = true) (w : World) (hp : PTab w.heap.size w) (hK : SeesN w a n K ∧ n ≤ c) :
    Calls Tryd.prog 6 #[.slice a n c, .int .u8 i] w fun e w' => e = .returned (.bool true) ∧ Below w.heap.size w w' := by
  by_cases h : 60 < n ∨ mayB K n = false ∨ n = 0
  · exact sizes_nothing a n c K i w hp hK.1 hK.2 h
  · obtain ⟨i, hi, rfl⟩ := byte_in wi
    refine sizes_asked a n c K i w hp hK.1 hK.2 (by omega) ?_ (by omega) hi
    cases hm : mayB K n
    · exact absurd (.inr (.inl hm)) h
    · rfl

end Go.Proofs.YtlfgiggeeoegjaaDoor
