/-
  Contracts: isPlace, mayFollow, May.
-/
import Derived.Test.YtjhalbifljnfjaaTermNodes
import Derived.Test.YtjhalbifljnfjaaShaKit
namespace Go.Proofs.Ytjhalbifljnfjaa
open Go.RowKit
set_option linter.unusedVariables false

def inB (n : Nat) (i : Int) : Bool := decide (0 ≤ i) && decide (i < n)

set_option maxRecDepth 8000 in
theorem isPlace_any (n : Nat) (a : Option Addr) (c : Nat) (i : Int) (w : World) :
    Calls Try.prog 38 #[.slice a n c, .int .i64 i] w fun e w' => e = .returned (.bool (inB n i)) ∧ w' = w := by
  by_cases h1 : 0 ≤ i
  · by_cases h2 : i < n
    · have e : inB n i = true := by simp [inB, h1, h2]
      go_enter Try.func38, Try.ntmps38
      go_wp2
      go_ret
      exact ⟨by first | rfl | (rw [e]; rfl), rfl⟩
    · have e : inB n i = false := by simp [inB, h2]
      go_enter Try.func38, Try.ntmps38
      go_wp2
      go_ret
      exact ⟨by first | rfl | (rw [e]; rfl), rfl⟩
  · have e : inB n i = false := by simp [inB, h1]
    go_enter Try.func38, Try.ntmps38
    go_wp2
    go_ret
    exact ⟨by first | rfl | (rw [e]; rfl), rfl⟩

theorem okX_leaf (K : Nds) (n : Nat) (o x y : Int) (h : o = 0 ∨ o = 1) : okX K n o x y = (decide (0 ≤ x) && decide (x ≤ 999999) && decide (y = 0)) := by unfold okX; rw [if_pos h]
theorem okX_pair (K : Nds) (n : Nat) (x y : Int) : okX K n 2 x y = (inB n x && inB n y) := by
  unfold okX inB
  rw [if_neg (by decide), if_pos rfl]
  simp [Bool.decide_and]
theorem okX_lock (K : Nds) (n : Nat) (x y : Int) : okX K n 3 x y = (inB n x && inB n y && decide (K x.toNat 0 = 1)) := by
  unfold okX inB
  rw [if_neg (by decide), if_neg (by decide), if_pos rfl]
  simp [Bool.decide_and]
theorem okX_other (K : Nds) (n : Nat) (o x y : Int) (h0 : o ≠ 0) (h1 : o ≠ 1) (h2 : o ≠ 2) (h3 : o ≠ 3) : okX K n o x y = false := by
  unfold okX
  rw [if_neg (by omega), if_neg h2, if_neg h3]

/-- The way of a node that is no atom and no key, and so on. -/
theorem beq_no {o k : Int} (h : o ≠ k) : (o == k) = false := by simpa using h

set_option maxHeartbeats 1000000 in
set_option maxRecDepth 8000 in
theorem mayFollow_leaf (o : Int) (ho : o = 0 ∨ o = 1) (n : Nat) (a : Option Addr) (c : Nat) (x y : Int) (w : World) :
    Calls Try.prog 31 #[.slice a n c, .agg #[.int .i64 o, .int .i64 x, .int .i64 y]] w fun e w' => e = .returned (.bool (decide (0 ≤ x) && decide (x ≤ 999999) && decide (y = 0))) ∧ Below w.heap.size w w' := by
  have b0 := (Below.refl w.heap.size w).alloc (Nat.le_refl _) (.cells #[.int .i64 o, .int .i64 x, .int .i64 y] 42)
  have e3 : ((y : Int) == 0) = decide (y = 0) := by rw [Bool.eq_iff_iff]; simp
  obtain ⟨r, hr⟩ : ∃ r, ((y : Int) == 0) = r := ⟨_, rfl⟩
  rw [hr] at e3
  rw [← e3]
  clear e3
  rcases ho with rfl | rfl
  · by_cases h1 : 0 ≤ x
    · by_cases h2 : x ≤ 999999 <;> cases r <;>
      · go_enter Try.func31, Try.ntmps31
        go_wp2
        go_ret
        exact ⟨by simp [h1, h2], b0⟩
    · go_enter Try.func31, Try.ntmps31
      go_wp2
      go_ret
      exact ⟨by simp; omega, b0⟩
  · by_cases h1 : 0 ≤ x
    · by_cases h2 : x ≤ 999999 <;> cases r <;>
      · go_enter Try.func31, Try.ntmps31
        go_wp2
        go_ret
        exact ⟨by simp [h1, h2], b0⟩
    · go_enter Try.func31, Try.ntmps31
      go_wp2
      go_ret
      exact ⟨by simp; omega, b0⟩

set_option maxHeartbeats 1000000 in
set_option maxRecDepth 8000 in
theorem mayFollow_pair (n : Nat) (a : Option Addr) (c : Nat) (x y : Int) (w : World) :
    Calls Try.prog 31 #[.slice a n c, .agg #[.int .i64 2, .int .i64 x, .int .i64 y]] w fun e w' => e = .returned (.bool (inB n x && inB n y)) ∧ Below w.heap.size w w' := by
  have b0 := (Below.refl w.heap.size w).alloc (Nat.le_refl _) (.cells #[.int .i64 2, .int .i64 x, .int .i64 y] 42)
  have I1 := isPlace_any n a c x
  have I2 := isPlace_any n a c y
  generalize inB n x = p at *
  generalize inB n y = q at *
  replace I1 := Lib.hid I1
  replace I2 := Lib.hid I2
  cases p
  · go_enter Try.func31, Try.ntmps31
    go_wp2_with (go_at_call 38; refine (I1.out _).mono ?_; rintro e w' ⟨rfl, rfl⟩)
    go_ret
    exact ⟨rfl, b0⟩
  · cases q <;>
    · go_enter Try.func31, Try.ntmps31
      go_wp2_with fail
      refine (I1.out _).mono ?_
      rintro e w' ⟨rfl, rfl⟩
      go_wp2_with fail
      refine (I2.out _).mono ?_
      rintro e w' ⟨rfl, rfl⟩
      go_wp2
      go_ret
      exact ⟨rfl, b0⟩

set_option maxHeartbeats 1000000 in
set_option maxRecDepth 8000 in
theorem mayFollow_lock (K : Nds) (n : Nat) (a : Option Addr) (c : Nat) (x y : Int) (w : World) (hs : Hid (SeesN w a n K)) :
    Calls Try.prog 31 #[.slice a n c, .agg #[.int .i64 3, .int .i64 x, .int .i64 y]] w fun e w' => e = .returned (.bool (inB n x && inB n y && decide (K x.toNat 0 = 1))) ∧ Below w.heap.size w w' := by
  have b0 := (Below.refl w.heap.size w).alloc (Nat.le_refl _) (.cells #[.int .i64 3, .int .i64 x, .int .i64 y] 42)
  have I1 := isPlace_any n a c x
  have I2 := isPlace_any n a c y
  cases p : inB n x
  · rw [p] at I1
    replace I1 := Lib.hid I1
    clear p I2
    go_enter Try.func31, Try.ntmps31
    go_wp2_with fail
    refine (I1.out _).mono ?_
    rintro e w' ⟨rfl, rfl⟩
    go_wp2
    go_ret
    exact ⟨rfl, b0⟩
  · rw [p] at I1
    replace I1 := Lib.hid I1
    cases q : inB n y
    · rw [q] at I2
      replace I2 := Lib.hid I2
      clear p q
      go_enter Try.func31, Try.ntmps31
      go_wp2_with fail
      refine (I1.out _).mono ?_
      rintro e w' ⟨rfl, rfl⟩
      go_wp2_with fail
      refine (I2.out _).mono ?_
      rintro e w' ⟨rfl, rfl⟩
      go_wp2
      go_ret
      exact ⟨rfl, b0⟩
    · rw [q] at I2
      replace I2 := Lib.hid I2
      obtain ⟨i, hi, rfl⟩ : ∃ i : Nat, i < n ∧ x = i := by
        unfold inB at p
        simp at p
        exact ⟨x.toNat, by omega, by omega⟩
      rw [Int.toNat_natCast]
      have s1 := Lib.hid (hs.out.after b0)
      have g0 := s1.out.cell (show i * 3 < n * 3 by omega)
      rw [flatN_0] at g0
      have ed : decide (K i 0 = 1) = ((K i 0 : Int) == 1) := by rw [Bool.eq_iff_iff]; simp
      rw [ed]
      obtain ⟨r, hr⟩ : ∃ r, ((K i 0 : Int) == 1) = r := ⟨_, rfl⟩
      rw [hr]
      clear p q ed
      go_enter Try.func31, Try.ntmps31
      go_wp2_with fail
      refine (I1.out _).mono ?_
      rintro e w' ⟨rfl, rfl⟩
      go_wp2_with fail
      refine (I2.out _).mono ?_
      rintro e w' ⟨rfl, rfl⟩
      go_wp2_with (first | (refine wpList_wknown rfl (at_nodes s1.out hi rfl rfl rfl rfl _) ?_))
      go_ret
      exact ⟨rfl, b0⟩

theorem beq_ff {o k : Int} (h : o ≠ k) : (o == k) = false := by simpa using h

set_option maxHeartbeats 1000000 in
set_option maxRecDepth 8000 in
theorem mayFollow_other (o : Int) (h0 : (o == 0) = false) (h1 : (o == 1) = false) (h2 : (o == 2) = false) (h3 : (o == 3) = false) (n : Nat) (a : Option Addr) (c : Nat) (x y : Int) (w : World) :
    Calls Try.prog 31 #[.slice a n c, .agg #[.int .i64 o, .int .i64 x, .int .i64 y]] w fun e w' => e = .returned (.bool false) ∧ Below w.heap.size w w' := by
  have b0 := (Below.refl w.heap.size w).alloc (Nat.le_refl _) (.cells #[.int .i64 o, .int .i64 x, .int .i64 y] 42)
  go_enter Try.func31, Try.ntmps31
  go_wp2
  go_ret
  exact ⟨rfl, b0⟩

theorem mayFollow_any (K : Nds) (n : Nat) (a : Option Addr) (c : Nat) (o x y : Int) (w : World) (hs : Hid (SeesN w a n K)) :
    Calls Try.prog 31 #[.slice a n c, .agg #[.int .i64 o, .int .i64 x, .int .i64 y]] w fun e w' => e = .returned (.bool (okX K n o x y)) ∧ Below w.heap.size w w' := by
  by_cases h01 : o = 0 ∨ o = 1
  · rw [okX_leaf K n o x y h01]
    exact mayFollow_leaf o h01 n a c x y w
  · by_cases h2 : o = 2
    · subst h2
      rw [okX_pair]
      exact mayFollow_pair n a c x y w
    · by_cases h3 : o = 3
      · subst h3
        rw [okX_lock]
        exact mayFollow_lock K n a c x y w hs
      · rw [okX_other K n o x y (fun e => h01 (.inl e)) (fun e => h01 (.inr e)) h2 h3]
        exact mayFollow_other o (beq_ff fun e => h01 (.inl e)) (beq_ff fun e => h01 (.inr e)) (beq_ff h2) (beq_ff h3) n a c x y w

theorem Below.nodes {w w' : World} {a : Option Addr} {n : Nat} {K : Nds} (hb : Below w.heap.size w w') (h : SeesN w a n K) : SeesN w' a n K := h.after hb

set_option maxHeartbeats 2000000 in
set_option maxRecDepth 8000 in
theorem may_any (K : Nds) (n : Nat) (a : Option Addr) (c : Nat) (hc : n ≤ c) (w : World) (hs : Hid (SeesN w a n K)) :
    Calls Try.prog 22 #[.slice a n c] w fun e w' => e = .returned (.bool (mayB K n)) ∧ Below w.heap.size w w' := by
  by_cases h200 : 200 < n
  · have l0 : (200 : Int) < (n : Int) := by omega
    have e : mayB K n = false := mayB_big h200
    go_enter Try.func22, Try.ntmps22
    go_wp2
    go_ret
    exact ⟨by first | rfl | (rw [e]; rfl), Below.refl _ _⟩
  · have l0 : ¬ (200 : Int) < (n : Int) := by omega
    have hn : n ≤ 200 := by omega
    go_enter Try.func22, Try.ntmps22
    go_wp2
    go_loopw [10] (fun c wr => ∃ k : Nat, k ≤ n ∧ c = .int .i64 k ∧ Hid (∀ j, j < k → okN K j = true) ∧ Below w.heap.size w wr) (fun c _ => n - (intOf c).toNat)
    case atStart => exact ⟨0, Nat.zero_le _, rfl, fun j h => absurd h (Nat.not_lt_zero _), Below.refl _ _⟩
    case round =>
      obtain ⟨k, hk, rfl, hd, hb⟩ := hrel
      by_cases hlt : k < n
      · have lk : (k : Int) < (n : Int) := by omega
        have hkc : k ≤ c := by omega
        have s1 := Lib.hid (hs.out.after hb)
        have r1 := Lib.hid (RowAt.new wr 42 #[.int .i64 (K k 0), .int .i64 (K k 1), .int .i64 (K k 2)])
        have b1 := hb.alloc hb.size (.cells #[.int .i64 (K k 0), .int .i64 (K k 1), .int .i64 (K k 2)] 42)
        have s2 := Lib.hid (hs.out.after b1)
        obtain ⟨r, hr⟩ : ∃ r, okX K k (K k 0) (K k 1) (K k 2) = r := ⟨_, rfl⟩
        have M : Hid (∀ w', SeesN w' a n K → Calls Try.prog 31 #[.slice a k c, .agg #[.int .i64 (K k 0), .int .i64 (K k 1), .int .i64 (K k 2)]] w' fun e w'' => e = .returned (.bool r) ∧ Below w'.heap.size w' w'') := by
          intro w' h
          have := mayFollow_any K k a c (K k 0) (K k 1) (K k 2) w' (h.take (by omega))
          rwa [hr] at this
        have er : Hid (okN K k = r) := hr
        clear hr
        go_wp2_with (first | (refine wpList_known rfl (at_nodes s1.out hlt rfl rfl rfl rfl _) ?_) | (refine wpList_known rfl (get_node s1.out hlt rfl rfl) ?_))
        generalize wr.heap.size = p at r1 ⊢
        generalize wr.alloc (.cells #[.int .i64 (K k 0), .int .i64 (K k 1), .int .i64 (K k 2)] 42) = w2 at *
        have K1 : Hid (∀ w', RowC w2 p 42 #[.int .i64 (K k 0), .int .i64 (K k 1), .int .i64 (K k 2)] w' → Calls Try.prog 31 #[.slice a k c, .agg #[.int .i64 (K k 0), .int .i64 (K k 1), .int .i64 (K k 2)]] w' fun e w'' => e = .returned (.bool r) ∧ RowC w2 p 42 #[.int .i64 (K k 0), .int .i64 (K k 1), .int .i64 (K k 2)] w'') := by
          intro w' h
          exact (M.out w' (s2.out.after h.1)).mono fun e w'' ⟨h1, h2⟩ => ⟨h1, RowC.after h2 h⟩
        have HC : Hid (RowC w2 p 42 #[.int .i64 (K k 0), .int .i64 (K k 1), .int .i64 (K k 2)] w2.drew) := ⟨(Below.refl _ _).drew, r1.out⟩
        clear M s1 s2 r1
        refine wp_region_class (RowC w2 p 42 #[.int .i64 (K k 0), .int .i64 (K k 1), .int .i64 (K k 2)]) (by kernel_rfl) (by kernel_rfl) HC.out ?_
        go_big_quiet_want; go_big_quiet_op; go_big_quiet_on
        go_big_quiet_want; go_big_quiet_op; go_big_quiet_on
        refine wpQuiet_val (by rfl) _ (fun w' _ => head_nodes hkc rfl rfl rfl rfl w') ?_
        simp only [Act.put, List.setIfInBounds_toArray, List.set_cons_succ, List.set_cons_zero]
        refine wpQuiet_load_row rfl 42 _ rfl p rfl 42 _ _ (fun w' hw => hw.2) Try.underlying42 rfl sz_node ?_
        simp only [Act.put, List.setIfInBounds_toArray, List.set_cons_succ, List.set_cons_zero]
        (go_big_quiet_want; go_big_quiet_op; apply Exists.intro; refine ⟨K1.out, ?_⟩; go_big_quiet_on)
        refine wpQuiet_val rfl (.bool (!r)) (fun w' _ => ?_) ?_
        · go_simp
        simp only [Act.put, List.setIfInBounds_toArray, List.set_cons_succ, List.set_cons_zero]
        refine wpQuiet_nil ?_
        intro w9 hw9
        have b9 := b1.trans (hw9.1.mono b1.size)
        clear hw9 HC K1 b1 hb
        cases r
        · have e : Hid (mayB K n = false) := mayB_no hlt er.out
          go_wp2
          go_ret
          exact ⟨by rw [e.out]; rfl, b9⟩
        · go_wp2
          go_roundw
          case rel =>
            refine ⟨k + 1, by omega, by go_num, fun j hj => ?_, b9⟩
            by_cases e : j = k
            · rw [e]; exact er.out
            · exact hd.out j (by omega)
          case measure => simp [intOf]; omega
      · have lk : ¬ (k : Int) < (n : Int) := by omega
        have e : Hid (mayB K n = true) := (mayB_iff K n).2 ⟨hn, fun j hj => hd.out j (by omega)⟩
        go_wp2
        go_ret
        exact ⟨by rw [e.out]; rfl, hb⟩

end Go.Proofs.Ytjhalbifljnfjaa
