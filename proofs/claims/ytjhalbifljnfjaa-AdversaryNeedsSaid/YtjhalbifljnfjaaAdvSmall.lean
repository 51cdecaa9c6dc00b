/-
  Contracts: isMade, hasPlace, can, add of a mind.
-/
import Derived.Test.YtjhalbifljnfjaaAdvRows
namespace Go.Proofs.Ytjhalbifljnfjaa
open Go.RowKit
set_option linter.unusedVariables false

set_option maxRecDepth 8000 in
theorem advMade_any (o x y : Int) (w : World) :
    Calls Try.prog 39 #[.agg #[.int .i64 o, .int .i64 x, .int .i64 y]] w fun e w' => e = .returned (.bool (madeB o)) ∧ Below w.heap.size w w' := by
  have b0 := (Below.refl w.heap.size w).alloc (Nat.le_refl _) (.cells #[.int .i64 o, .int .i64 x, .int .i64 y] 42)
  obtain ⟨p, hp⟩ : ∃ p, ((o : Int) == 2) = p := ⟨_, rfl⟩
  obtain ⟨q, hq⟩ : ∃ q, ((o : Int) == 3) = q := ⟨_, rfl⟩
  have e : madeB o = (p || q) := by unfold madeB; rw [hp, hq]
  replace e := Lib.hid e
  cases p <;> cases q <;>
  · go_enter Try.func39, Try.ntmps39
    go_wp2
    go_ret
    exact ⟨by rw [e.out]; rfl, b0⟩

set_option maxRecDepth 8000 in
theorem hasPlace_any (aT aA aK : Option Addr) (m cT n cA k cK : Nat) (i : Int) (w : World) :
    Calls Try.prog 29 #[.agg #[.slice aT m cT, .slice aA n cA, .slice aK k cK], .int .i64 i] w fun e w' => e = .returned (.bool (inB n i)) ∧ Below w.heap.size w w' := by
  have b0 := (Below.refl w.heap.size w).alloc (Nat.le_refl _) (.cells #[.slice aT m cT, .slice aA n cA, .slice aK k cK] 52)
  by_cases h1 : 0 ≤ i
  · by_cases h2 : i < n
    · have e : inB n i = true := by simp [inB, h1, h2]
      go_enter Try.func29, Try.ntmps29
      go_wp2
      go_ret
      exact ⟨by first | rfl | (rw [e]; rfl), b0⟩
    · have e : inB n i = false := by simp [inB, h2]
      go_enter Try.func29, Try.ntmps29
      go_wp2
      go_ret
      exact ⟨by first | rfl | (rw [e]; rfl), b0⟩
  · have e : inB n i = false := by simp [inB, h1]
    go_enter Try.func29, Try.ntmps29
    go_wp2
    go_ret
    exact ⟨by first | rfl | (rw [e]; rfl), b0⟩

/-- A place that there is. -/
theorem inB_nat {n : Nat} {i : Int} (h : inB n i = true) : ∃ k : Nat, k < n ∧ i = k := by
  unfold inB at h
  simp at h
  exact ⟨i.toNat, by omega, by omega⟩

set_option maxHeartbeats 1000000 in
set_option maxRecDepth 8000 in
theorem add_any (aT aA : Option Addr) (m cT n cA p cK d : Nat) (X : Nat → Bool) (hd : d < m) (w : World) (hr : Hid (BRow w p m X)) :
    Calls Try.prog 54 #[.agg #[.slice aT m cT, .slice aA n cA, .slice (some ⟨p, 0, none⟩) m cK], .int .i64 (d : Int)] w fun e w' => e = .returned (.bool (!X d)) ∧ Hid (BRow w' p m (setT X d)) ∧ Hid (Apart p w w') := by
  have b0 : Below w.heap.size w (w.alloc (.cells #[.slice aT m cT, .slice aA n cA, .slice (some ⟨p, 0, none⟩) m cK] 52)) := (Below.refl w.heap.size w).alloc (Nat.le_refl _) _
  have r0 := Lib.hid (hr.out.after b0)
  have q0 := Lib.hid (RowAt.new w 52 #[.slice aT m cT, .slice aA n cA, .slice (some ⟨p, 0, none⟩) m cK])
  have s0 := Lib.hid r0.out.sees
  have g0 := Lib.hid (s0.out.cell hd)
  unfold boolV at g0
  have hpq : Hid (w.heap.size ≠ p) := fun e => by have := hr.out.lt; omega
  obtain ⟨b, hb⟩ : ∃ b, X d = b := ⟨_, rfl⟩
  rw [hb] at g0
  go_enter Try.func54, Try.ntmps54
  go_wp2_with (first | (refine wpList_known rfl (at_bools s0.out hd rfl rfl rfl rfl _) ?_) | (refine wpList_known rfl (get_bool g0.out rfl rfl) ?_) | (refine wpList_store_bool rfl _ _ rfl r0.out hd rfl rfl ?_; intro w1 hB hA; refine Hid.out ?_))
  unfold Hid
  have hA2 := Lib.hid ((Apart.of_below (p := p) b0).trans hA.out)
  go_wp2
  go_ret
  exact ⟨by rw [hb]; rfl, hB, hA2⟩

set_option maxHeartbeats 1000000 in
set_option maxRecDepth 8000 in
theorem can_no (aT aA aK : Option Addr) (m cT n cA k cK : Nat) (i : Int) (hi : inB n i = false) (w : World) :
    Calls Try.prog 24 #[.agg #[.slice aT m cT, .slice aA n cA, .slice aK k cK], .int .i64 i] w fun e w' => e = .returned (.bool false) ∧ Below w.heap.size w w' := by
  have b0 : Below w.heap.size w (w.alloc (.cells #[.slice aT m cT, .slice aA n cA, .slice aK k cK] 52)) := (Below.refl w.heap.size w).alloc (Nat.le_refl _) _
  have q0 := Lib.hid (RowAt.new w 52 #[.slice aT m cT, .slice aA n cA, .slice aK k cK])
  have H : ∀ w', _ := fun w' => hasPlace_any aT aA aK m cT n cA k cK i w'
  rw [hi] at H
  replace H := Lib.hid H
  clear hi
  go_enter Try.func24, Try.ntmps24
  go_wp2
  generalize w.heap.size = q at q0 ⊢
  generalize w.alloc (.cells #[.slice aT m cT, .slice aA n cA, .slice aK k cK] 52) = w2 at *
  have HC : Hid (RowC w2 q 52 #[.slice aT m cT, .slice aA n cA, .slice aK k cK] w2.drew) := ⟨(Below.refl _ _).drew, q0.out⟩
  have K1 : Hid (∀ w', RowC w2 q 52 #[.slice aT m cT, .slice aA n cA, .slice aK k cK] w' → Calls Try.prog 29 #[.agg #[.slice aT m cT, .slice aA n cA, .slice aK k cK], .int .i64 i] w' fun e w'' => e = .returned (.bool false) ∧ RowC w2 q 52 #[.slice aT m cT, .slice aA n cA, .slice aK k cK] w'') := by
    intro w' h
    exact (H.out w').mono fun e w'' ⟨h1, h2⟩ => ⟨h1, RowC.after h2 h⟩
  refine wp_region_class (RowC w2 q 52 #[.slice aT m cT, .slice aA n cA, .slice aK k cK]) (by kernel_rfl) (by kernel_rfl) HC.out ?_
  refine wpQuiet_load_row rfl 52 _ rfl q rfl 52 _ _ (fun w' hw => hw.2) Try.underlying52 rfl sz_mind ?_
  simp only [Act.put, List.setIfInBounds_toArray, List.set_cons_succ, List.set_cons_zero]
  go_big_quiet_want; go_big_quiet_op; go_big_quiet_on
  (go_big_quiet_want; go_big_quiet_op; apply Exists.intro; refine ⟨K1.out, ?_⟩; go_big_quiet_on)
  go_big_quiet_want; go_big_quiet_op; go_big_quiet_on
  repeat go_big_quiet_skip
  refine wpQuiet_val (by rfl) (.bool false) (fun w' _ => by go_simp) ?_
  simp only [Act.put, List.setIfInBounds_toArray, List.set_cons_succ, List.set_cons_zero]
  go_big_quiet_want; go_big_quiet_op; go_big_quiet_on
  refine wpQuiet_nil ?_
  intro w9 hw9
  have b9 := b0.trans (hw9.1.mono b0.size)
  go_wp2
  go_ret
  exact ⟨rfl, b9⟩

set_option maxHeartbeats 1000000 in
set_option maxRecDepth 8000 in
theorem can_any (aT aA : Option Addr) (m cT n cA p cK : Nat) (g : Nat → Nat) (X : Nat → Bool) (i : Int) (hg : ∀ j, j < n → g j < m) (w : World) (ha : Hid (SeesI w aA n g)) (hr : Hid (SeesB w (some ⟨p, 0, none⟩) m X)) :
    Calls Try.prog 24 #[.agg #[.slice aT m cT, .slice aA n cA, .slice (some ⟨p, 0, none⟩) m cK], .int .i64 i] w fun e w' => e = .returned (.bool (inB n i && X (g i.toNat))) ∧ Below w.heap.size w w' := by
  have b0 : Below w.heap.size w (w.alloc (.cells #[.slice aT m cT, .slice aA n cA, .slice (some ⟨p, 0, none⟩) m cK] 52)) := (Below.refl w.heap.size w).alloc (Nat.le_refl _) _
  have q0 := Lib.hid (RowAt.new w 52 #[.slice aT m cT, .slice aA n cA, .slice (some ⟨p, 0, none⟩) m cK])
  have H : ∀ w', _ := fun w' => hasPlace_any aT aA (some ⟨p, 0, none⟩) m cT n cA m cK i w'
  cases hi : inB n i
  · rw [Bool.false_and]
    exact can_no aT aA (some ⟨p, 0, none⟩) m cT n cA m cK i hi w
  · rw [hi] at H
    replace H := Lib.hid H
    obtain ⟨k, hk, rfl⟩ := inB_nat hi
    have hgk := hg k hk
    clear hi hg
    rw [Int.toNat_natCast, Bool.true_and]
    have a0 := Lib.hid (ha.out.after b0)
    have s0 := Lib.hid (hr.out.after b0)
    obtain ⟨b, hb⟩ : ∃ b, X (g k) = b := ⟨_, rfl⟩
    rw [hb]
    go_enter Try.func24, Try.ntmps24
    go_wp2
    generalize w.heap.size = q at q0 ⊢
    generalize w.alloc (.cells #[.slice aT m cT, .slice aA n cA, .slice (some ⟨p, 0, none⟩) m cK] 52) = w2 at *
    have HC : Hid (RowC w2 q 52 #[.slice aT m cT, .slice aA n cA, .slice (some ⟨p, 0, none⟩) m cK] w2.drew) := ⟨(Below.refl _ _).drew, q0.out⟩
    have K1 : Hid (∀ w', RowC w2 q 52 #[.slice aT m cT, .slice aA n cA, .slice (some ⟨p, 0, none⟩) m cK] w' → Calls Try.prog 29 #[.agg #[.slice aT m cT, .slice aA n cA, .slice (some ⟨p, 0, none⟩) m cK], .int .i64 (k : Int)] w' fun e w'' => e = .returned (.bool true) ∧ RowC w2 q 52 #[.slice aT m cT, .slice aA n cA, .slice (some ⟨p, 0, none⟩) m cK] w'') := by
      intro w' h
      exact (H.out w').mono fun e w'' ⟨h1, h2⟩ => ⟨h1, RowC.after h2 h⟩
    have G1 : Hid (∀ w', RowC w2 q 52 #[.slice aT m cT, .slice aA n cA, .slice (some ⟨p, 0, none⟩) m cK] w' → w'.cell? (elV aA k) = some (.int .i64 ((g k : Nat) : Int)) ∧ w'.cell? (elV (some ⟨p, 0, none⟩) (g k)) = some (.bool b)) := by
      intro w' h
      have h1 := (a0.out.after h.1).cell hk
      have h2 := (s0.out.after h.1).cell hgk
      unfold numV at h1
      unfold boolV at h2
      rw [hb] at h2
      exact ⟨h1, h2⟩
    refine wp_region_class (RowC w2 q 52 #[.slice aT m cT, .slice aA n cA, .slice (some ⟨p, 0, none⟩) m cK]) (by kernel_rfl) (by kernel_rfl) HC.out ?_
    refine wpQuiet_load_row rfl 52 _ rfl q rfl 52 _ _ (fun w' hw => hw.2) Try.underlying52 rfl sz_mind ?_
    simp only [Act.put, List.setIfInBounds_toArray, List.set_cons_succ, List.set_cons_zero]
    go_big_quiet_want; go_big_quiet_op; go_big_quiet_on
    (go_big_quiet_want; go_big_quiet_op; apply Exists.intro; refine ⟨K1.out, ?_⟩; go_big_quiet_on)
    go_big_quiet_want; go_big_quiet_op; go_big_quiet_on
    refine wpQuiet_val (by rfl) (.pointer (some ⟨q, 2, none⟩)) (fun w' _ => by (go_simp; try omega)) ?_
    simp only [Act.put, List.setIfInBounds_toArray, List.set_cons_succ, List.set_cons_zero]
    refine wpQuiet_val (by rfl) (.slice (some ⟨p, 0, none⟩) m cK) (fun w' hw => get_cell hw.2 rfl rfl Try.underlying28 rfl rfl) ?_
    simp only [Act.put, List.setIfInBounds_toArray, List.set_cons_succ, List.set_cons_zero]
    refine wpQuiet_val (by rfl) (.pointer (some ⟨q, 1, none⟩)) (fun w' _ => by (go_simp; try omega)) ?_
    simp only [Act.put, List.setIfInBounds_toArray, List.set_cons_succ, List.set_cons_zero]
    refine wpQuiet_val (by rfl) (.slice aA n cA) (fun w' hw => get_cell hw.2 rfl rfl Try.underlying23 rfl rfl) ?_
    simp only [Act.put, List.setIfInBounds_toArray, List.set_cons_succ, List.set_cons_zero]
    go_big_quiet_want; go_big_quiet_op; go_big_quiet_on
    refine wpQuiet_val (by rfl) _ (fun w' _ => at_ints a0.out hk rfl rfl rfl rfl w') ?_
    simp only [Act.put, List.setIfInBounds_toArray, List.set_cons_succ, List.set_cons_zero]
    refine wpQuiet_val (by rfl) _ (fun w' hw => get_int (G1.out w' hw).1 rfl rfl) ?_
    simp only [Act.put, List.setIfInBounds_toArray, List.set_cons_succ, List.set_cons_zero]
    refine wpQuiet_val (by rfl) _ (fun w' _ => at_bools s0.out hgk rfl rfl rfl rfl w') ?_
    simp only [Act.put, List.setIfInBounds_toArray, List.set_cons_succ, List.set_cons_zero]
    refine wpQuiet_val (by rfl) _ (fun w' hw => get_bool (G1.out w' hw).2 rfl rfl) ?_
    simp only [Act.put, List.setIfInBounds_toArray, List.set_cons_succ, List.set_cons_zero]
    repeat go_big_quiet_skip
    refine wpQuiet_val (by rfl) (.bool b) (fun w' _ => by go_simp) ?_
    simp only [Act.put, List.setIfInBounds_toArray, List.set_cons_succ, List.set_cons_zero]
    go_big_quiet_want; go_big_quiet_op; go_big_quiet_on
    refine wpQuiet_nil ?_
    intro w9 hw9
    have b9 := b0.trans (hw9.1.mono b0.size)
    go_wp2
    go_ret
    exact ⟨rfl, b9⟩

end Go.Proofs.Ytjhalbifljnfjaa
