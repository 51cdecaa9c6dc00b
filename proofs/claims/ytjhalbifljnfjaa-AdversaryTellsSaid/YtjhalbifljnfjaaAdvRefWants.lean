/-
  Contract: the document's Needs.
-/
import Derived.Test.YtjhalbifljnfjaaAdvRefNeeds
namespace Go.Proofs.Ytjhalbifljnfjaa
open Go.RowKit
set_option linter.unusedVariables false

theorem putEnd_none {w w' : World} {b : Nat} (h : Below w.heap.size w w') (hr : w'.ownsRow w.heap.size 3 1 (.slice (some ⟨b, 0, none⟩) 0 0) 0 []) : PutEnd [] w (.returned (.slice (some ⟨b, 0, none⟩) 0 0)) w' := ⟨_, rfl, hr, h⟩

set_option maxHeartbeats 2000000 in
set_option maxRecDepth 8000 in
theorem refNeeds_may (K : Nds) (n : Nat) (a ak : Option Addr) (c k ck : Nat) (z : Int) (hm : mayB K n = false) (w : World) (hs : Hid (SeesN w a n K)) :
    Calls Try.prog 20 #[.slice a n c, .slice ak k ck, .int .i64 z] w (PutEnd [] w) := by
  have b0 : Below w.heap.size w (w.alloc (.cells #[] 3)) := (Below.refl _ _).alloc (Nat.le_refl _) _
  have o0 : Hid ((w.alloc (.cells #[] 3)).ownsRow w.heap.size 3 1 (.slice (some ⟨w.heap.size, 0, none⟩) 0 0) 0 []) := World.ownsRow_made w #[] 0 (Nat.le_refl _) (by decide) rfl
  have M := refMay_any K n a c _ (Lib.hid (hs.out.after b0))
  rw [hm] at M
  replace M := Lib.hid M
  go_enter Try.func20, Try.ntmps20
  go_wp2_with fail
  refine M.out.mono ?_
  rintro e w1 ⟨rfl, hb1⟩
  have b1 := b0.trans (hb1.mono b0.size)
  have o1 := Lib.hid (own_onto o0.out hb1)
  clear M hb1 b0 o0
  go_wp2
  go_ret
  exact putEnd_none b1 o1.out

set_option maxHeartbeats 2000000 in
set_option maxRecDepth 8000 in
theorem refNeeds_out (K : Nds) (n : Nat) (a ak : Option Addr) (c k ck : Nat) (z : Int) (hm : mayB K n = true) (hz : inB n z = false) (w : World) (hs : Hid (SeesN w a n K)) :
    Calls Try.prog 20 #[.slice a n c, .slice ak k ck, .int .i64 z] w (PutEnd [] w) := by
  have b0 : Below w.heap.size w (w.alloc (.cells #[] 3)) := (Below.refl _ _).alloc (Nat.le_refl _) _
  have o0 : Hid ((w.alloc (.cells #[] 3)).ownsRow w.heap.size 3 1 (.slice (some ⟨w.heap.size, 0, none⟩) 0 0) 0 []) := World.ownsRow_made w #[] 0 (Nat.le_refl _) (by decide) rfl
  have M := refMay_any K n a c _ (Lib.hid (hs.out.after b0))
  rw [hm] at M
  replace M := Lib.hid M
  by_cases h0 : z < 0
  · clear hz
    go_enter Try.func20, Try.ntmps20
    go_wp2_with fail
    refine M.out.mono ?_
    rintro e w1 ⟨rfl, hb1⟩
    have b1 := b0.trans (hb1.mono b0.size)
    have o1 := Lib.hid (own_onto o0.out hb1)
    clear M hb1 b0 o0
    go_wp2
    go_ret
    exact putEnd_none b1 o1.out
  · have h1 : (n : Int) ≤ z := by
      unfold inB at hz
      simp at hz
      omega
    clear hz
    go_enter Try.func20, Try.ntmps20
    go_wp2_with fail
    refine M.out.mono ?_
    rintro e w1 ⟨rfl, hb1⟩
    have b1 := b0.trans (hb1.mono b0.size)
    have o1 := Lib.hid (own_onto o0.out hb1)
    clear M hb1 b0 o0
    go_wp2
    go_ret
    exact putEnd_none b1 o1.out

set_option maxHeartbeats 2000000 in
set_option maxRecDepth 8000 in
theorem refNeeds_has (K : Nds) (n : Nat) (a ak : Option Addr) (c k ck : Nat) (hk : k ≤ 1000000) (f : Nat → Int) (z : Nat) (hz : z < n) (hm : mayB K n = true) (hkz : knB K n (inZ f k) z = true) (w : World) (hs : Hid (SeesN w a n K)) (hf : Hid (SeesZ w ak k f)) :
    Calls Try.prog 20 #[.slice a n c, .slice ak k ck, .int .i64 (z : Int)] w (PutEnd [] w) := by
  have b0 : Below w.heap.size w (w.alloc (.cells #[] 3)) := (Below.refl _ _).alloc (Nat.le_refl _) _
  have o0 : Hid ((w.alloc (.cells #[] 3)).ownsRow w.heap.size 3 1 (.slice (some ⟨w.heap.size, 0, none⟩) 0 0) 0 []) := World.ownsRow_made w #[] 0 (Nat.le_refl _) (by decide) rfl
  have M := refMay_any K n a c _ (Lib.hid (hs.out.after b0))
  rw [hm] at M
  replace M := Lib.hid M
  have C := fun w' hb => refCan_any K n a ak c k ck hk f (z : Int) w' (Lib.hid (hs.out.after hb)) (Lib.hid (hf.out.after hb))
  rw [show canB K n (inZ f k) (z : Int) = true by unfold canB; rw [hm, Int.toNat_natCast, hkz, show inB n (z : Int) = true by unfold inB; simp; omega]; rfl] at C
  replace C := Lib.hid C
  have h0 : ¬ (z : Int) < 0 := by omega
  have h1 : ¬ (n : Int) ≤ (z : Int) := by omega
  go_enter Try.func20, Try.ntmps20
  go_wp2_with fail
  refine M.out.mono ?_
  rintro e w1 ⟨rfl, hb1⟩
  have b1 := b0.trans (hb1.mono b0.size)
  have o1 := Lib.hid (own_onto o0.out hb1)
  clear M hb1 b0 o0
  go_wp2_with fail
  refine (C.out w1 b1).mono ?_
  rintro e w2 ⟨rfl, hb2⟩
  have b2 := b1.trans (hb2.mono b1.size)
  have o2 := Lib.hid (own_onto o1.out hb2)
  clear C hb2 b1 o1
  go_wp2
  go_ret
  exact putEnd_none b2 o2.out

set_option maxHeartbeats 8000000 in
set_option maxRecDepth 8000 in
theorem refNeeds_yes (K : Nds) (n : Nat) (a ak : Option Addr) (c k ck : Nat) (hk : k ≤ 100000) (hnil : ak = none → ck = 0) (f : Nat → Int) (z : Nat) (hz : z < n) (hm : mayB K n = true) (hkz : knB K n (inZ f k) z = false) (w : World) (hs : Hid (SeesN w a n K)) (hf : Hid (SeesZ w ak k f)) :
    Calls Try.prog 20 #[.slice a n c, .slice ak k ck, .int .i64 (z : Int)] w (PutEnd (riseL (needL K n (inZ f k) z n)) w) := by
  have b0 : Below w.heap.size w (w.alloc (.cells #[] 3)) := (Below.refl _ _).alloc (Nat.le_refl _) _
  have o0 : Hid ((w.alloc (.cells #[] 3)).ownsRow w.heap.size 3 1 (.slice (some ⟨w.heap.size, 0, none⟩) 0 0) 0 []) := World.ownsRow_made w #[] 0 (Nat.le_refl _) (by decide) rfl
  have M := refMay_any K n a c _ (Lib.hid (hs.out.after b0))
  rw [hm] at M
  replace M := Lib.hid M
  have hiz : inB n (z : Int) = true := by unfold inB; simp; omega
  have hn := ((mayB_iff K n).1 hm).1
  have C := fun w' hb => refCan_any K n a ak c k ck (by omega) f (z : Int) w' (Lib.hid (hs.out.after hb)) (Lib.hid (hf.out.after hb))
  rw [show canB K n (inZ f k) (z : Int) = false by unfold canB; rw [hm, Int.toNat_natCast, hkz, hiz]; rfl] at C
  replace C := Lib.hid C
  have D : Hid (∀ (j : Nat) a' c' w', SeesN w' a n K → SeesZ w' a' (k + 1) (snocF f k (j : Int)) → Calls Try.prog 15 #[.slice a n c, .slice a' (k + 1) c', .int .i64 (z : Int)] w' fun e w'' => e = .returned (.bool (knB K n (fun q => inZ f k q ∨ q = j) z)) ∧ Below w'.heap.size w' w'') := by
    intro j a' c' w' h1 h2
    have := refCan_any K n a a' c (k + 1) c' (by omega) (snocF f k (j : Int)) (z : Int) w' h1 h2
    rw [show canB K n (inZ (snocF f k (j : Int)) (k + 1)) (z : Int) = knB K n (fun q => inZ f k q ∨ q = j) z by
      unfold canB
      rw [hm, hiz, Int.toNat_natCast, Bool.true_and, Bool.true_and]
      exact knB_congr (fun q _ => inZ_snoc f k j q) z] at this
    exact this
  have h0 : decide ((z : Int) < 0) = false := decide_eq_false (by omega)
  have h1 : decide (n ≤ z) = false := decide_eq_false (by omega)
  replace hz := Lib.hid hz
  clear hm hkz hiz
  generalize inZ f k = S0 at *
  go_enter Try.func20, Try.ntmps20
  go_wp2_with fail
  refine M.out.mono ?_
  rintro e w1 ⟨rfl, hb1⟩
  have b1 := b0.trans (hb1.mono b0.size)
  have o1 := Lib.hid (own_onto o0.out hb1)
  clear M hb1 b0 o0
  go_wp2_with fail
  refine (C.out w1 b1).mono ?_
  rintro e w2 ⟨rfl, hb2⟩
  have b2 := b1.trans (hb2.mono b1.size)
  have o2 := Lib.hid (own_onto o1.out hb2)
  clear C hb2 b1 o1
  go_wp2
  go_loopg [7, 8] n (fun g v c wr => ∃ j : Nat, j + g = n ∧ c = .int .i64 (j : Int) ∧ Hid (wr.ownsRow w.heap.size 3 1 v (riseL (needL K n S0 z j)).length (zCells (riseL (needL K n S0 z j)))) ∧ Below w.heap.size w wr)
  case atStart => exact ⟨0, by omega, rfl, o2, b2⟩
  case round =>
    clear o2 b2
    obtain ⟨j, hj, rfl, hown, hb⟩ := hrel
    by_cases hlt : j < n
    · have lj : (j : Int) < (n : Int) := by omega
      have s1 := Lib.hid (hs.out.after hb)
      have g0 := s1.out.cell (show j * 3 < n * 3 by omega)
      rw [flatN_0] at g0
      have a1 : (elV a (j * 3)).add 1 = elV a (j * 3 + 1) := Deep.add_add _ _ _
      have el : Hid (∀ b, ((K j 0 == 1) && knB K n (fun q => S0 q ∨ q = j) z) = b → needL K n S0 z (j + 1) = needL K n S0 z j ++ (if b = true then [K j 1] else [])) := by
        intro b e
        subst e
        rfl
      have hll := selL_length (fun i => (K i 0 == 1) && knB K n (fun q => S0 q ∨ q = i) z) (fun i => K i 1) j
      have hll2 : (riseL (needL K n S0 z j)).length ≤ 100000 := by have := riseL_length (needL K n S0 z j); unfold needL at *; omega
      clear hll
      generalize hLj : needL K n S0 z j = L at *
      clear hLj
      cases hop : (K j 0 == 1)
      · rw [hop] at el
        have el2 := Lib.hid (el.out false rfl)
        clear el
        go_wp2_with (first | (refine wpList_wknown rfl (at_refNodes s1.out hlt rfl rfl rfl rfl _) ?_))
        go_roundg (n - (j + 1))
        case rel => exact ⟨j + 1, by omega, by go_num, by rw [el2.out]; simpa using hown, hb⟩
        case measure => omega
      · rw [hop, Bool.true_and] at el
        have al : Below wr.heap.size wr (wr.alloc (.cells #[] 3)) := (Below.refl _ _).alloc (Nat.le_refl _) _
        have oe : Hid ((wr.alloc (.cells #[] 3)).ownsRow wr.heap.size 3 1 (.slice (some ⟨wr.heap.size, 0, none⟩) 0 0) 0 []) := World.ownsRow_made wr #[] 0 (Nat.le_refl _) (by decide) rfl
        have fe := Lib.hid (hf.out.after (hb.trans (al.mono hb.size)))
        go_wp2_with (first | (refine wpList_wknown rfl (at_refNodes s1.out hlt rfl rfl rfl rfl _) ?_) | (at_builtin; refine wpList_unguard rfl ?_; refine wpList_append_V Try.underlying23 Try.infoInt rfl (by decide) rfl _ _ rfl wr.heap.size _ 0 [] rfl oe.out al.size ak k ck rfl (intV f) fe.out (fun _ => rfl) (by omega) (by omega) hnil ?_; intro v3 w3 h3 h4 h5 h6; refine Hid.out ?_))
        unfold Hid
        have h7 := h3.out
        rw [List.nil_append, Nat.zero_add] at h7
        replace h7 := Lib.hid h7
        have b3 := al.trans h5.out
        clear h3 h4 h5 h6 oe fe al
        go_wp2_with (first | (at_builtin; refine wpList_unguard rfl ?_; refine wpList_append_F rfl _ _ rfl wr.heap.size _ k f _ rfl w3 h7.out rfl rfl rfl (by omega) b3.size ?_; intro v4 w4 h8 h9 h10; refine Hid.out ?_))
        unfold Hid
        have b4 := b3.trans h10.out
        obtain ⟨a4, c4, rfl, s4, _⟩ := own_F_see h8.out
        have X := D.out j a4 c4 w4 (s1.out.after b4) s4
        have own4 := Lib.hid (own_onto hown.out b4)
        have b5 := hb.trans (b4.mono hb.size)
        clear h7 h8 h9 h10 b3 b4 hown hb s4 g0
        cases hkb : knB K n (fun q => S0 q ∨ q = j) z
        · rw [hkb] at X el
          have el2 := Lib.hid (el.out false rfl)
          replace X := Lib.hid X
          clear el hkb
          go_wp2_with fail
          refine X.out.mono ?_
          rintro e w7 ⟨rfl, hb7⟩
          have own7 := Lib.hid (own_onto own4.out hb7)
          have b7 := b5.trans (hb7.mono b5.size)
          clear X hb7 b5 own4
          go_wp2
          go_roundg (n - (j + 1))
          case rel => exact ⟨j + 1, by omega, by go_num, by rw [el2.out]; simpa using own7, b7⟩
          case measure => omega
        · rw [hkb] at X el
          have el2 := Lib.hid (el.out true rfl)
          replace X := Lib.hid X
          clear el hkb
          go_wp2_with fail
          refine X.out.mono ?_
          rintro e w7 ⟨rfl, hb7⟩
          have own7 := Lib.hid (own_onto own4.out hb7)
          have b7 := b5.trans (hb7.mono b5.size)
          have s7 := Lib.hid (hs.out.after b7)
          have g7 := s7.out.cell (show j * 3 + 1 < n * 3 by omega)
          rw [flatN_1] at g7
          obtain ⟨ao, co, rfl, so⟩ := own_zs_see own7.out
          have P := Lib.hid (refPut_any (riseL L) hll2 (K j 1) ao co w7 so)
          clear X hb7 b5 own4 own7 so
          go_wp2_with (first | (refine wpList_wknown rfl (at_refNodes s7.out hlt rfl rfl rfl rfl _) ?_))
          refine P.out.mono ?_
          rintro e w8 ⟨v8, rfl, own8, hb8⟩
          have own9 := Lib.hid (own_from own8.out b7.size)
          have b10 := b7.trans (hb8.mono b7.size)
          rw [← riseL_snoc] at own9
          clear P own8 hb8 g7
          go_wp2
          go_roundg (n - (j + 1))
          case rel => exact ⟨j + 1, by omega, by go_num, by rw [el2.out]; exact own9, b10⟩
          case measure => omega
    · have lj : ¬ (j : Int) < (n : Int) := by omega
      obtain rfl : j = n := by omega
      go_wp2
      go_ret
      exact ⟨_, rfl, hown, hb⟩

theorem refNeeds_any (K : Nds) (n : Nat) (a ak : Option Addr) (c k ck : Nat) (hk : k ≤ 100000) (hnil : ak = none → ck = 0) (f : Nat → Int) (z : Int) (w : World) (hs : Hid (SeesN w a n K)) (hf : Hid (SeesZ w ak k f)) :
    Calls Try.prog 20 #[.slice a n c, .slice ak k ck, .int .i64 z] w (PutEnd (needsL K n (inZ f k) z) w) := by
  unfold needsL
  cases hm : mayB K n
  · rw [if_neg (by simp)]
    exact refNeeds_may K n a ak c k ck z hm w hs
  · cases hi : inB n z
    · rw [if_neg (by simp)]
      exact refNeeds_out K n a ak c k ck z hm hi w hs
    · obtain ⟨i, hi', rfl⟩ := inB_nat hi
      rw [Int.toNat_natCast]
      cases hkb : knB K n (inZ f k) i
      · rw [if_pos ⟨rfl, rfl, rfl⟩]
        exact refNeeds_yes K n a ak c k ck hk hnil f i hi' hm hkb w hs hf
      · rw [if_neg (by simp)]
        exact refNeeds_has K n a ak c k ck (by omega) f i hi' hm hkb w hs hf

end Go.Proofs.Ytjhalbifljnfjaa
