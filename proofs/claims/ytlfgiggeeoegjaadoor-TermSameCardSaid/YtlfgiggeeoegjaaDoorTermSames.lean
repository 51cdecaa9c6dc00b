/-
  The walk of TermSame.
-/
import Derived.Test.YtlfgiggeeoegjaaDoorTermShown
import Derived.Test.YtlfgiggeeoegjaaDoorTermSame
namespace Go.Proofs.YtlfgiggeeoegjaaDoor
open Go.RowKit
set_option linter.unusedVariables false

theorem bs_inj {l m : List UInt8} (h : bs l = bs m) : l = m := by
  have h1 := congrArg (fun b => b.data.toList) h
  simpa [bs] using h1

/-- Two texts held against each other, at the operation. -/
theorem run_eql_str {X Y : ByteArray} (b : Bool) (hb : decide (X = Y) = b) {o : Oper} {a : Act} {x y : Operand} {r : TypeId} (ho : o.op = .binOp .eql 9 x y r) (hx : a.eval x = .string X) (hy : a.eval y = .string Y) (w : World) :
    (execOp a.eval o).run Tryd.prog w = .ok (.value (.bool b)) w := by
  subst hb
  unfold execOp
  simp only [ho, hx, hy]
  simp [go_sem]
  rw [Bool.eq_iff_iff, beq_iff_eq, decide_eq_true_iff, ByteArray.toList_eq, ByteArray.toList_eq]
  constructor
  · intro h
    exact ByteArray.ext (Array.ext' h)
  · intro h
    rw [h]

/-- What is told of a place: whether it has a text. -/
theorem text_none {K : Nds} {n j : Nat} (hm : mayB K n = true) (hj : j < n) : (textV K n (j : Int) = ⟨#[]⟩ ∧ 2000 < sizeV K n j) ∨ (textV K n (j : Int) = bs (txT (tm K j)) ∧ bs (txT (tm K j)) ≠ ⟨#[]⟩ ∧ sizeV K n j = lnT (tm K j) ∧ sizeV K n j ≤ 2000) := by
  have hp : placeB K n (j : Int) = true := by
    unfold placeB
    rw [hm]
    simp
    omega
  have hz := sizeV_yes hp
  have h0 : 0 < sizeV K n j := by rw [hz]; exact szT_pos _
  by_cases h : 2000 < sizeV K n j
  · exact .inl ⟨textV_no (.inr h), h⟩
  · obtain ⟨k, _, e, _, _, et, el⟩ := textV_yes (K := K) (n := n) (i := j) (by omega) (by omega)
    obtain rfl : j = k := by omega
    refine .inr ⟨et, fun e => ?_, el.symm, by omega⟩
    have h1 := congrArg ByteArray.size e
    rw [show (bs (txT (tm K j))).size = (txT (tm K j)).length by simp [bs, ByteArray.size]] at h1
    have := lnT_pos (tm K j)
    unfold lnT at this
    rw [h1] at this
    exact absurd this (by decide)

theorem text_same {K : Nds} {n i j : Nat} (hm : mayB K n = true) (hi : i < n) (hj : j < n) : decide (bs (txT (tm K i)) = bs (txT (tm K j))) = sameV K n (i : Int) (j : Int) := by
  have hp : placeB K n (i : Int) = true := by unfold placeB; rw [hm]; simp; omega
  have hq : inB n (j : Int) = true := by unfold inB; simp; omega
  unfold sameV
  rw [hp, hq, Int.toNat_natCast, Int.toNat_natCast, Bool.and_true, Bool.true_and, Bool.eq_iff_iff, decide_eq_true_iff, beq_iff_eq, fst_same]
  constructor
  · exact fun h => text_inj (bs_inj h)
  · intro h
    rw [h]
theorem same_self {K : Nds} {n i : Nat} (hm : mayB K n = true) (hi : i < n) : sameV K n (i : Int) (i : Int) = true := by
  rw [← text_same hm hi hi]
  simp

set_option maxHeartbeats 4000000 in
set_option maxRecDepth 8000 in
theorem same_nothing (a : Option Addr) (n c : Nat) (K : Nds) (i j : Int) (w : World) (hp : Hid (PTab w.heap.size w)) (hs : Hid (SeesN w a n K)) (hc : n ≤ c) (h : 60 < n ∨ mayB K n = false ∨ n = 0) :
    Calls Tryd.prog 4 #[.slice a n c, .int .u8 i, .int .u8 j] w fun e w' => e = .returned (.bool true) ∧ Below w.heap.size w w' := by
  have S : Hid (∀ w', PTab w'.heap.size w' → _) := fun w' h => shown8_any w' h
  by_cases h60 : 60 < n
  · have l0 : (60 : Int) < (n : Int) := by omega
    go_enter Tryd.func4, Tryd.ntmps4
    go_wp2_with fail
    refine (S.out w hp.out).mono ?_
    rintro e w1 ⟨rfl, hb1⟩
    go_wp2
    go_ret
    exact ⟨rfl, hb1⟩
  · have l0 : ¬ (60 : Int) < (n : Int) := by omega
    have M := may_any K n a c hc w hs
    by_cases hm : mayB K n = false
    · rw [hm] at M
      replace M := Lib.hid M
      clear h hm
      go_enter Tryd.func4, Tryd.ntmps4
      go_wp2_with fail
      refine M.out.mono ?_
      rintro e w1 ⟨rfl, hb1⟩
      go_wp2_with fail
      refine (S.out w1 (hp.out.after hb1)).mono ?_
      rintro e w2 ⟨rfl, hb2⟩
      have b2 := hb1.trans (hb2.mono hb1.size)
      go_wp2
      go_ret
      exact ⟨rfl, b2⟩
    · have hm' : mayB K n = true := by simpa using hm
      have h0 : n = 0 := by
        rcases h with h | h | h
        · omega
        · exact absurd h hm
        · exact h
      subst h0
      rw [hm'] at M
      replace M := Lib.hid M
      clear h hm hm'
      go_enter Tryd.func4, Tryd.ntmps4
      go_wp2_with fail
      refine M.out.mono ?_
      rintro e w1 ⟨rfl, hb1⟩
      go_wp2_with fail
      refine (S.out w1 (hp.out.after hb1)).mono ?_
      rintro e w2 ⟨rfl, hb2⟩
      have b2 := hb1.trans (hb2.mono hb1.size)
      go_wp2
      go_ret
      exact ⟨rfl, b2⟩

set_option maxHeartbeats 4000000 in
set_option maxRecDepth 8000 in
theorem same_asked (a : Option Addr) (n c : Nat) (K : Nds) (i j : Nat) (w : World) (hp : Hid (PTab w.heap.size w)) (hs : Hid (SeesN w a n K)) (hc : n ≤ c) (h60 : n ≤ 60) (hm : mayB K n = true) (h0 : 0 < n) (hi8 : i < 256) (hj8 : j < 256) :
    Calls Tryd.prog 4 #[.slice a n c, .int .u8 (i : Int), .int .u8 (j : Int)] w fun e w' => e = .returned (.bool true) ∧ Below w.heap.size w w' := by
  have S : Hid (∀ w', PTab w'.heap.size w' → _) := fun w' h => shown8_any w' h
  have l0 : ¬ (60 : Int) < (n : Int) := by omega
  have l1 : ((n : Int) == 0) = false := beq_ff (by omega)
  have l2 : (n : Int) ≠ 0 := by omega
  have M := may_any K n a c hc w hs
  rw [hm] at M
  replace M := Lib.hid M
  obtain ⟨x, hx⟩ : ∃ x, x = i % n := ⟨_, rfl⟩
  obtain ⟨y, hy⟩ : ∃ y, y = j % n := ⟨_, rfl⟩
  have hxn : x < n := by rw [hx]; exact Nat.mod_lt _ h0
  have hyn : y < n := by rw [hy]; exact Nat.mod_lt _ h0
  have ex : (i : Int) % (n : Int) = (x : Int) := by rw [hx]; omega
  have ey : (j : Int) % (n : Int) = (y : Int) := by rw [hy]; omega
  have tx : (i : Int).tmod (n : Int) = (x : Int) := by rw [Int.tmod_eq_emod_of_nonneg (by omega)]; exact ex
  have ty : (j : Int).tmod (n : Int) = (y : Int) := by rw [Int.tmod_eq_emod_of_nonneg (by omega)]; exact ey
  clear hx hy
  have X1 : ∀ w', SeesN w' a n K → PTab w'.heap.size w' → _ := fun w' h h' => text_any K n (x : Int) a c hc w' h h'
  have Y1 : ∀ w', SeesN w' a n K → PTab w'.heap.size w' → _ := fun w' h h' => text_any K n (y : Int) a c hc w' h h'
  have Zx : ∀ w', SeesN w' a n K → PTab w'.heap.size w' → _ := fun w' h h' => size_any K n (x : Int) a c hc w' h h'
  have Zy : ∀ w', SeesN w' a n K → PTab w'.heap.size w' → _ := fun w' h h' => size_any K n (y : Int) a c hc w' h h'
  have E1 : ∀ w', SeesN w' a n K → _ := fun w' h => same_any K n (x : Int) (y : Int) a c hc w' h
  have E2 : ∀ w', SeesN w' a n K → _ := fun w' h => same_any K n (x : Int) (x : Int) a c hc w' h
  rw [same_self hm hxn] at E2
  have ts := text_same hm hxn hyn
  replace E2 := Lib.hid E2
  rcases text_none hm hxn with ⟨tX, zX⟩ | ⟨tX, nX, zX, lX⟩
  · rw [tX] at X1
    generalize sizeV K n x = z at *
    generalize textV K n y = Y at *
    have dz : (2000 : Int) < (z : Int) := by omega
    obtain ⟨r, hr⟩ : ∃ r, decide (Y = ⟨#[]⟩) = r := ⟨_, rfl⟩
    replace X1 := Lib.hid X1
    replace Y1 := Lib.hid Y1
    replace Zx := Lib.hid Zx
    clear Zy E1 E2 tX zX hm ts
    go_enter Tryd.func4, Tryd.ntmps4
    go_wp2_with fail
    refine M.out.mono ?_
    rintro e w1 ⟨rfl, hb1⟩
    go_wp2_with fail
    refine (S.out w1 (hp.out.after hb1)).mono ?_
    rintro e w2 ⟨rfl, hb2⟩
    have b2 := hb1.trans (hb2.mono hb1.size)
    clear S M hb1 hb2
    go_wp2_with fail
    refine (X1.out w2 (hs.out.after b2) (hp.out.after b2)).mono ?_
    rintro e w3 ⟨rfl, hb3⟩
    have b3 := b2.trans (hb3.mono b2.size)
    clear hb3 b2 X1
    go_wp2_with fail
    refine (Y1.out w3 (hs.out.after b3) (hp.out.after b3)).mono ?_
    rintro e w4 ⟨rfl, hb4⟩
    have b4 := b3.trans (hb4.mono b3.size)
    clear hb4 b3 Y1
    go_wp2_with fail
    refine (Zx.out w4 (hs.out.after b4) (hp.out.after b4)).mono ?_
    rintro e w5 ⟨rfl, hb5⟩
    have b5 := b4.trans (hb5.mono b4.size)
    go_wp2
    go_ret
    exact ⟨rfl, b5⟩
  · rw [tX] at X1
    have dX : decide (bs (txT (tm K x)) = ⟨#[]⟩) = false := decide_eq_false nX
    have sX : (bs (txT (tm K x))).size = sizeV K n x := by rw [zX]; simp [bs, ByteArray.size, lnT]
    rcases text_none hm hyn with ⟨tY, zY⟩ | ⟨tY, nY, zY, lY⟩
    · rw [tY] at Y1
      have dx : ¬ (2000 : Int) < (sizeV K n x : Int) := by omega
      have dy : (2000 : Int) < (sizeV K n y : Int) := by omega
      generalize sizeV K n x = z at *
      generalize sizeV K n y = z' at *
      generalize bs (txT (tm K x)) = X at *
      replace X1 := Lib.hid X1
      replace Y1 := Lib.hid Y1
      replace Zx := Lib.hid Zx
      replace Zy := Lib.hid Zy
      replace dX := Lib.hid dX
      clear E1 E2 tX zX tY zY hm ts lX sX nX
      go_enter Tryd.func4, Tryd.ntmps4
      go_wp2_with fail
      refine M.out.mono ?_
      rintro e w1 ⟨rfl, hb1⟩
      go_wp2_with fail
      refine (S.out w1 (hp.out.after hb1)).mono ?_
      rintro e w2 ⟨rfl, hb2⟩
      have b2 := hb1.trans (hb2.mono hb1.size)
      clear S M hb1 hb2
      go_wp2_with fail
      refine (X1.out w2 (hs.out.after b2) (hp.out.after b2)).mono ?_
      rintro e w3 ⟨rfl, hb3⟩
      have b3 := b2.trans (hb3.mono b2.size)
      clear hb3 b2 X1
      go_wp2_with fail
      refine (Y1.out w3 (hs.out.after b3) (hp.out.after b3)).mono ?_
      rintro e w4 ⟨rfl, hb4⟩
      have b4 := b3.trans (hb4.mono b3.size)
      clear hb4 b3 Y1
      go_wp2_with (refine wpList_wknown rfl (run_eql_str false dX.out rfl rfl rfl _) ?_)
      refine (Zx.out w4 (hs.out.after b4) (hp.out.after b4)).mono ?_
      rintro e w5 ⟨rfl, hb5⟩
      have b5 := b4.trans (hb5.mono b4.size)
      clear hb5 b4 Zx
      go_wp2_with fail
      refine (Zy.out w5 (hs.out.after b5) (hp.out.after b5)).mono ?_
      rintro e w6 ⟨rfl, hb6⟩
      have b6 := b5.trans (hb6.mono b5.size)
      go_wp2
      go_ret
      exact ⟨rfl, b6⟩
    · rw [tY] at Y1
      have dY : decide (bs (txT (tm K y)) = ⟨#[]⟩) = false := decide_eq_false nY
      generalize sizeV K n x = z at *
      generalize bs (txT (tm K x)) = X at *
      generalize bs (txT (tm K y)) = Y at *
      generalize sameV K n x y = r at *
      replace X1 := Lib.hid X1
      replace Y1 := Lib.hid Y1
      replace Zx := Lib.hid Zx
      replace E1 := Lib.hid E1
      replace dX := Lib.hid dX
      replace dY := Lib.hid dY
      replace ts := Lib.hid ts
      clear Zy tX zX tY zY hm lX lY nX nY
      go_enter Tryd.func4, Tryd.ntmps4
      go_wp2_with fail
      refine M.out.mono ?_
      rintro e w1 ⟨rfl, hb1⟩
      go_wp2_with fail
      refine (S.out w1 (hp.out.after hb1)).mono ?_
      rintro e w2 ⟨rfl, hb2⟩
      have b2 := hb1.trans (hb2.mono hb1.size)
      clear S M hb1 hb2
      go_wp2_with fail
      refine (X1.out w2 (hs.out.after b2) (hp.out.after b2)).mono ?_
      rintro e w3 ⟨rfl, hb3⟩
      have b3 := b2.trans (hb3.mono b2.size)
      clear hb3 b2 X1
      go_wp2_with fail
      refine (Y1.out w3 (hs.out.after b3) (hp.out.after b3)).mono ?_
      rintro e w4 ⟨rfl, hb4⟩
      have b4 := b3.trans (hb4.mono b3.size)
      clear hb4 b3 Y1
      go_wp2_with (first | (refine wpList_wknown rfl (run_eql_str false dX.out rfl rfl rfl _) ?_) | (refine wpList_wknown rfl (run_eql_str false dY.out rfl rfl rfl _) ?_) | (refine wpList_wknown rfl (run_eql_str r ts.out rfl rfl rfl _) ?_))
      refine (E1.out w4 (hs.out.after b4)).mono ?_
      rintro e w5 ⟨rfl, hb5⟩
      have b5 := b4.trans (hb5.mono b4.size)
      clear hb5 b4 E1
      go_wp2_with fail
      refine (Zx.out w5 (hs.out.after b5) (hp.out.after b5)).mono ?_
      rintro e w6 ⟨rfl, hb6⟩
      have b6 := b5.trans (hb6.mono b5.size)
      clear hb6 b5 Zx
      go_wp2_with fail
      refine (E2.out w6 (hs.out.after b6)).mono ?_
      rintro e w7 ⟨rfl, hb7⟩
      have b7 := b6.trans (hb7.mono b6.size)
      go_wp2
      go_ret
      exact ⟨rfl, b7⟩

theorem byte_in {i : Int} (h : (Lit.int .u8 i).wf = true) : ∃ k : Nat, k < 256 ∧ i = k := by
  simp [Lit.wf, IntKind.min, IntKind.max, IntKind.signed, IntKind.bits] at h
  exact ⟨i.toNat, by omega, by omega⟩

theorem walk_TermSame (a : Option Addr) (n c : Nat) (K : Nds) (i : Int) (wi : (Lit.int .u8 i).wf = true) (j : Int) (wj : (Lit.int .u8 j).wf = true) (w : World) (hp : PTab w.heap.size w) (hK : SeesN w a n K ∧ n ≤ c) :
    Calls Tryd.prog 4 #[.slice a n c, .int .u8 i, .int .u8 j] w fun e w' => e = .returned (.bool true) ∧ Below w.heap.size w w' := by
  by_cases h : 60 < n ∨ mayB K n = false ∨ n = 0
  · exact same_nothing a n c K i j w hp hK.1 hK.2 h
  · obtain ⟨i, hi, rfl⟩ := byte_in wi
    obtain ⟨j, hj, rfl⟩ := byte_in wj
    refine same_asked a n c K i j w hp hK.1 hK.2 (by omega) ?_ (by omega) hi hj
    cases hm : mayB K n
    · exact absurd (.inr (.inl hm)) h
    · rfl

end Go.Proofs.YtlfgiggeeoegjaaDoor
