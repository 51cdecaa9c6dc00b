/-
  Contracts: the document's right, May.
-/
import Derived.Test.YtjhalbifljnfjaaTermApp
import Derived.Test.YtjhalbifljnfjaaTermMay
namespace Go.Proofs.Ytjhalbifljnfjaa
open Go.RowKit
set_option linter.unusedVariables false

set_option maxHeartbeats 1000000 in
set_option maxRecDepth 8000 in
theorem right_leaf (o : Int) (ho : o = 0 ∨ o = 1) (n : Nat) (a : Option Addr) (c : Nat) (m : Int) (x y : Int) (w : World) :
    Calls Try.prog 33 #[.slice a n c, .int .i64 m, .agg #[.int .i64 o, .int .i64 x, .int .i64 y]] w fun e w' => e = .returned (.bool (decide (0 ≤ x) && decide (x ≤ 999999) && decide (y = 0))) ∧ Below w.heap.size w w' := by
  have b0 := (Below.refl w.heap.size w).alloc (Nat.le_refl _) (.cells #[.int .i64 o, .int .i64 x, .int .i64 y] 50)
  have e3 : ((y : Int) == 0) = decide (y = 0) := by rw [Bool.eq_iff_iff]; simp
  obtain ⟨r, hr⟩ : ∃ r, ((y : Int) == 0) = r := ⟨_, rfl⟩
  rw [hr] at e3
  rw [← e3]
  clear e3
  rcases ho with rfl | rfl
  · by_cases h1 : 0 ≤ x
    · by_cases h2 : x ≤ 999999 <;> cases r <;>
      · go_enter Try.func33, Try.ntmps33
        go_wp2
        go_ret
        exact ⟨by simp [h1, h2], b0⟩
    · go_enter Try.func33, Try.ntmps33
      go_wp2
      go_ret
      exact ⟨by simp; omega, b0⟩
  · by_cases h1 : 0 ≤ x
    · by_cases h2 : x ≤ 999999 <;> cases r <;>
      · go_enter Try.func33, Try.ntmps33
        go_wp2
        go_ret
        exact ⟨by simp [h1, h2], b0⟩
    · go_enter Try.func33, Try.ntmps33
      go_wp2
      go_ret
      exact ⟨by simp; omega, b0⟩

set_option maxHeartbeats 1000000 in
set_option maxRecDepth 8000 in
theorem right_other (o : Int) (h0 : (o == 0) = false) (h1 : (o == 1) = false) (h2 : ((o : Int) != 2) = true) (h3 : ((o : Int) != 3) = true) (n : Nat) (a : Option Addr) (c : Nat) (m x y : Int) (w : World) :
    Calls Try.prog 33 #[.slice a n c, .int .i64 m, .agg #[.int .i64 o, .int .i64 x, .int .i64 y]] w fun e w' => e = .returned (.bool false) ∧ Below w.heap.size w w' := by
  have b0 := (Below.refl w.heap.size w).alloc (Nat.le_refl _) (.cells #[.int .i64 o, .int .i64 x, .int .i64 y] 50)
  go_enter Try.func33, Try.ntmps33
  go_wp2
  go_ret
  exact ⟨rfl, b0⟩

set_option maxHeartbeats 2000000 in
set_option maxRecDepth 8000 in
theorem right_out (o : Int) (ho : o = 2 ∨ o = 3) (n : Nat) (a : Option Addr) (c : Nat) (m x y : Int) (hout : x < 0 ∨ m ≤ x ∨ y < 0 ∨ m ≤ y) (w : World) :
    Calls Try.prog 33 #[.slice a n c, .int .i64 m, .agg #[.int .i64 o, .int .i64 x, .int .i64 y]] w fun e w' => e = .returned (.bool false) ∧ Below w.heap.size w w' := by
  have b0 := (Below.refl w.heap.size w).alloc (Nat.le_refl _) (.cells #[.int .i64 o, .int .i64 x, .int .i64 y] 50)
  rcases ho with rfl | rfl
  · by_cases h1 : x < 0
    · clear hout
      go_enter Try.func33, Try.ntmps33
      go_wp2
      go_ret
      exact ⟨rfl, b0⟩
    · by_cases h2 : m ≤ x
      · clear hout
        go_enter Try.func33, Try.ntmps33
        go_wp2
        go_ret
        exact ⟨rfl, b0⟩
      · by_cases h3 : y < 0
        · clear hout
          go_enter Try.func33, Try.ntmps33
          go_wp2
          go_ret
          exact ⟨rfl, b0⟩
        · have h4 : m ≤ y := by omega
          clear hout
          go_enter Try.func33, Try.ntmps33
          go_wp2
          go_ret
          exact ⟨rfl, b0⟩
  · by_cases h1 : x < 0
    · clear hout
      go_enter Try.func33, Try.ntmps33
      go_wp2
      go_ret
      exact ⟨rfl, b0⟩
    · by_cases h2 : m ≤ x
      · clear hout
        go_enter Try.func33, Try.ntmps33
        go_wp2
        go_ret
        exact ⟨rfl, b0⟩
      · by_cases h3 : y < 0
        · clear hout
          go_enter Try.func33, Try.ntmps33
          go_wp2
          go_ret
          exact ⟨rfl, b0⟩
        · have h4 : m ≤ y := by omega
          clear hout
          go_enter Try.func33, Try.ntmps33
          go_wp2
          go_ret
          exact ⟨rfl, b0⟩

set_option maxHeartbeats 2000000 in
set_option maxRecDepth 8000 in
theorem right_in (K : Nds) (o : Int) (ho : o = 2 ∨ o = 3) (n : Nat) (a : Option Addr) (c : Nat) (m x y : Nat) (hmn : m ≤ n) (hx : x < m) (hy : y < m) (w : World) (hs : Hid (SeesN w a n K)) :
    Calls Try.prog 33 #[.slice a n c, .int .i64 (m : Int), .agg #[.int .i64 o, .int .i64 (x : Int), .int .i64 (y : Int)]] w fun e w' => e = .returned (.bool ((o == 2) || ((K x 0 : Int) == 1))) ∧ Below w.heap.size w w' := by
  have b0 := (Below.refl w.heap.size w).alloc (Nat.le_refl _) (.cells #[.int .i64 o, .int .i64 (x : Int), .int .i64 (y : Int)] 50)
  have s1 := Lib.hid (hs.out.after b0)
  have hxn : x < n := by omega
  have g0 := s1.out.cell (show x * 3 < n * 3 by omega)
  rw [flatN_0] at g0
  have l1 : ¬ (m : Int) ≤ (x : Int) := by omega
  have l2 : ¬ (m : Int) ≤ (y : Int) := by omega
  obtain ⟨r, hr⟩ : ∃ r, ((K x 0 : Int) == 1) = r := ⟨_, rfl⟩
  rw [hr]
  rcases ho with rfl | rfl
  · go_enter Try.func33, Try.ntmps33
    go_wp2
    go_ret
    exact ⟨rfl, b0⟩
  · go_enter Try.func33, Try.ntmps33
    go_wp2_with (first | (refine wpList_wknown rfl (at_refNodes s1.out hxn rfl rfl rfl rfl _) ?_))
    go_ret
    exact ⟨rfl, b0⟩

theorem right_any (K : Nds) (n : Nat) (a : Option Addr) (c : Nat) (m : Nat) (hmn : m ≤ n) (o x y : Int) (w : World) (hs : Hid (SeesN w a n K)) :
    Calls Try.prog 33 #[.slice a n c, .int .i64 (m : Int), .agg #[.int .i64 o, .int .i64 x, .int .i64 y]] w fun e w' => e = .returned (.bool (okX K m o x y)) ∧ Below w.heap.size w w' := by
  by_cases h01 : o = 0 ∨ o = 1
  · rw [okX_leaf K m o x y h01]
    exact right_leaf o h01 n a c m x y w
  · by_cases h23 : o = 2 ∨ o = 3
    · by_cases hout : x < 0 ∨ (m : Int) ≤ x ∨ y < 0 ∨ (m : Int) ≤ y
      · have e : okX K m o x y = false := by
          have hb : (inB m x && inB m y) = false := by
            unfold inB
            simp
            omega
          rcases h23 with rfl | rfl
          · rw [okX_pair, hb]
          · rw [okX_lock, hb]; rfl
        rw [e]
        exact right_out o h23 n a c m x y hout w
      · obtain ⟨x', hx, rfl⟩ : ∃ x' : Nat, x' < m ∧ x = x' := ⟨x.toNat, by omega, by omega⟩
        obtain ⟨y', hy, rfl⟩ : ∃ y' : Nat, y' < m ∧ y = y' := ⟨y.toNat, by omega, by omega⟩
        have hbx : inB m (x' : Int) = true := by unfold inB; simp; omega
        have hby : inB m (y' : Int) = true := by unfold inB; simp; omega
        have e : okX K m o x' y' = ((o == 2) || ((K x' 0 : Int) == 1)) := by
          rcases h23 with rfl | rfl
          · rw [okX_pair, hbx, hby]; rfl
          · rw [okX_lock, hbx, hby, Int.toNat_natCast, Bool.eq_iff_iff]
            simp
        rw [e]
        exact right_in K o h23 n a c m x' y' hmn hx hy w hs
    · have h0 : o ≠ 0 := fun e => h01 (.inl e)
      have h1 : o ≠ 1 := fun e => h01 (.inr e)
      have h2 : o ≠ 2 := fun e => h23 (.inl e)
      have h3 : o ≠ 3 := fun e => h23 (.inr e)
      rw [okX_other K m o x y h0 h1 h2 h3]
      exact right_other o (beq_ff h0) (beq_ff h1) (by simpa using h2) (by simpa using h3) n a c m x y w

set_option maxHeartbeats 2000000 in
set_option maxRecDepth 8000 in
theorem refMay_any (K : Nds) (n : Nat) (a : Option Addr) (c : Nat) (w : World) (hs : Hid (SeesN w a n K)) :
    Calls Try.prog 25 #[.slice a n c] w fun e w' => e = .returned (.bool (mayB K n)) ∧ Below w.heap.size w w' := by
  by_cases h200 : 200 < n
  · have l0 : (200 : Int) < (n : Int) := by omega
    have e : mayB K n = false := mayB_big h200
    go_enter Try.func25, Try.ntmps25
    go_wp2
    go_ret
    exact ⟨by first | rfl | (rw [e]; rfl), Below.refl _ _⟩
  · have l0 : ¬ (200 : Int) < (n : Int) := by omega
    have hn : n ≤ 200 := by omega
    go_enter Try.func25, Try.ntmps25
    go_wp2
    go_loopw [3] (fun c wr => ∃ k : Nat, k ≤ n ∧ c = .int .i64 k ∧ Hid (∀ j, j < k → okN K j = true) ∧ Below w.heap.size w wr) (fun c _ => n - (intOf c).toNat)
    case atStart => exact ⟨0, Nat.zero_le _, rfl, fun j h => absurd h (Nat.not_lt_zero _), Below.refl _ _⟩
    case round =>
      obtain ⟨k, hk, rfl, hd, hb⟩ := hrel
      by_cases hlt : k < n
      · have lk : (k : Int) < (n : Int) := by omega
        have s1 := Lib.hid (hs.out.after hb)
        have R := right_any K n a c k hk (K k 0) (K k 1) (K k 2) wr s1
        obtain ⟨r, hr⟩ : ∃ r, okX K k (K k 0) (K k 1) (K k 2) = r := ⟨_, rfl⟩
        rw [hr] at R
        replace R := Lib.hid R
        have er : Hid (okN K k = r) := hr
        clear hr
        go_wp2_with (first | (refine wpList_known rfl (at_refNodes s1.out hlt rfl rfl rfl rfl _) ?_) | (refine wpList_known rfl (get_refNode s1.out hlt rfl rfl) ?_))
        refine R.out.mono ?_
        rintro e w2 ⟨rfl, hb2⟩
        have b9 := hb.trans (hb2.mono hb.size)
        clear R hb2 hb s1
        cases r
        · have e : Hid (mayB K n = false) := mayB_no hlt er.out
          go_wp2
          go_ret
          exact ⟨by rw [e.out]; rfl, b9⟩
        · go_wp2
          go_roundw
          case rel =>
            refine ⟨k + 1, by omega, by go_num, fun j hj => ?_, b9⟩
            by_cases e : j = k
            · rw [e]; exact er.out
            · exact hd.out j (by omega)
          case measure => simp [intOf]; omega
      · have lk : ¬ (k : Int) < (n : Int) := by omega
        have e : Hid (mayB K n = true) := (mayB_iff K n).2 ⟨hn, fun j hj => hd.out j (by omega)⟩
        go_wp2
        go_ret
        exact ⟨by rw [e.out]; rfl, hb⟩

end Go.Proofs.Ytjhalbifljnfjaa
