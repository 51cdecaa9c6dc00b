/-
  Texts 7 of 8, merged.
-/
import Derived.Test.YtapebaoajknepaaGreatDoorAll6
/-
  Contracts: cmp.Compare of ints, slices.MinFunc of segments, leastErased.
-/
namespace Go.Proofs.YtapebaoajknepaaGreatDoor
open Go.RowKit
set_option linter.unusedVariables false

def cmpI (x y : Int) : Int := if x < y then -1 else if y < x then 1 else 0

set_option maxRecDepth 8000 in
theorem isNaN_any (x : Int) (w : World) : Calls Tryz.prog 90 #[.int .i64 x] w fun e w' => e = .returned (.bool false) ∧ w' = w := by
  go_enter Tryz.func90, Tryz.ntmps90
  go_wp2
  go_ret
  exact ⟨rfl, rfl⟩

set_option maxRecDepth 8000 in
theorem compare_any (x y : Int) (w : World) : Calls Tryz.prog 69 #[.int .i64 x, .int .i64 y] w fun e w' => e = .returned (.int .i64 (cmpI x y)) ∧ w' = w := by
  have N1 := Lib.hid (isNaN_any x w)
  have N2 := Lib.hid (isNaN_any y w)
  unfold cmpI
  by_cases h1 : x < y
  · rw [if_pos h1]
    go_enter Tryz.func69, Tryz.ntmps69
    go_wp2_with fail
    refine N1.out.mono ?_
    rintro e w1 ⟨rfl, rfl⟩
    go_wp2_with fail
    refine N2.out.mono ?_
    rintro e w2 ⟨rfl, rfl⟩
    go_wp2
    go_ret
    exact ⟨rfl, rfl⟩
  · rw [if_neg h1]
    by_cases h2 : y < x
    · rw [if_pos h2]
      go_enter Tryz.func69, Tryz.ntmps69
      go_wp2_with fail
      refine N1.out.mono ?_
      rintro e w1 ⟨rfl, rfl⟩
      go_wp2_with fail
      refine N2.out.mono ?_
      rintro e w2 ⟨rfl, rfl⟩
      go_wp2
      go_ret
      exact ⟨rfl, rfl⟩
    · rw [if_neg h2]
      go_enter Tryz.func69, Tryz.ntmps69
      go_wp2_with fail
      refine N1.out.mono ?_
      rintro e w1 ⟨rfl, rfl⟩
      go_wp2_with fail
      refine N2.out.mono ?_
      rintro e w2 ⟨rfl, rfl⟩
      go_wp2
      go_ret
      exact ⟨rfl, rfl⟩

set_option maxHeartbeats 1000000 in
set_option maxRecDepth 8000 in
theorem least1_any (B lp : Nat) (L : Lay) (S : St) (hv : Value) (G : Sg) (lb : Nat) (i j : Nat) (hi : i < L.n) (hj : j < L.n) (w : World) (h : Hid (Lg B w lp L S hv G)) (hl : Hid (RowAt w lb 28 #[.pointer (some ⟨lp, 0, none⟩)])) :
    Calls Tryz.prog 68 #[.int .i64 (i : Nat), .int .i64 (j : Nat), .pointer (some ⟨lb, 0, none⟩)] w fun e w' => e = .returned (.int .i64 (cmpI (S.wear i : Nat) (S.wear j : Nat))) ∧ Below w.heap.size w w' := by
  obtain ⟨z, hz⟩ : ∃ z, Hid (cmpI (S.wear i : Nat) (S.wear j : Nat) = z) := ⟨_, rfl⟩
  rw [hz.out]
  have b3 : Below w.heap.size w w.drew := (Below.refl _ _).drew
  have h3 := Lib.hid (h.out.after b3)
  have k3 := Lib.hid (hl.out.below b3 hl.out.lt)
  clear h hl
  go_enter Tryz.func68, Tryz.ntmps68
  go_wp2_with fail
  generalize hw3 : w.drew = w3 at *
  have W1 := Lib.hid (fun w' (hC : Below w3.heap.size w3 w') => wear_yes B w' L S hv (Lib.hid (h3.out.after hC).ch) i hi)
  have W2 := Lib.hid (fun w' (hC : Below w3.heap.size w3 w') => wear_yes B w' L S hv (Lib.hid (h3.out.after hC).ch) j hj)
  have CP := Lib.hid (fun w' (hC : Below w3.heap.size w3 w') => compare_any (S.wear i : Nat) (S.wear j : Nat) w')
  rw [hz.out] at CP
  refine wp_region_class (fun w' => Below w3.heap.size w3 w') (by kernel_rfl) (by kernel_rfl) (by rw [hw3]; exact Below.refl _ _) ?_
  refine wpQuiet_val rfl (.pointer (some ⟨lp, 0, none⟩)) (fun w' hC => by
    have hc := h3.out.after hC
    have c0 := hc.l0
    have q1 := (k3.out.below hC k3.out.lt).one 0 rfl
    go_simp) ?_
  simp only [Act.put, List.setIfInBounds_toArray, List.set_cons_succ, List.set_cons_zero]
  refine wpQuiet_val rfl (.pointer (some ⟨lp, 0, none⟩)) (fun w' hC => by
    have hc := h3.out.after hC
    have c0 := hc.l0
    have q1 := (k3.out.below hC k3.out.lt).one 0 rfl
    go_simp) ?_
  simp only [Act.put, List.setIfInBounds_toArray, List.set_cons_succ, List.set_cons_zero]
  refine wpQuiet_val rfl (.pointer (some ⟨lp, 0, none⟩)) (fun w' hC => by
    have hc := h3.out.after hC
    have c0 := hc.l0
    have q1 := (k3.out.below hC k3.out.lt).one 0 rfl
    go_simp) ?_
  simp only [Act.put, List.setIfInBounds_toArray, List.set_cons_succ, List.set_cons_zero]
  refine wpQuiet_val rfl (.pointer (some ⟨L.cp, 0, none⟩)) (fun w' hC => by
    have hc := h3.out.after hC
    have c0 := hc.l0
    have q1 := (k3.out.below hC k3.out.lt).one 0 rfl
    go_simp) ?_
  simp only [Act.put, List.setIfInBounds_toArray, List.set_cons_succ, List.set_cons_zero]
  refine wpQuiet_val rfl (.int .i64 (i : Nat)) (fun w' hC => by
    have hc := h3.out.after hC
    have c0 := hc.l0
    have q1 := (k3.out.below hC k3.out.lt).one 0 rfl
    go_simp) ?_
  simp only [Act.put, List.setIfInBounds_toArray, List.set_cons_succ, List.set_cons_zero]
  (go_big_quiet_want; go_big_quiet_op; apply Exists.intro; refine ⟨fun w' hC => (W1.out w' hC).mono fun e w'' h => ⟨h.1, by rw [h.2]; exact hC⟩, ?_⟩; go_big_quiet_on)
  refine wpQuiet_val rfl (.pointer (some ⟨lp, 0, none⟩)) (fun w' hC => by
    have hc := h3.out.after hC
    have c0 := hc.l0
    have q1 := (k3.out.below hC k3.out.lt).one 0 rfl
    go_simp) ?_
  simp only [Act.put, List.setIfInBounds_toArray, List.set_cons_succ, List.set_cons_zero]
  refine wpQuiet_val rfl (.pointer (some ⟨lp, 0, none⟩)) (fun w' hC => by
    have hc := h3.out.after hC
    have c0 := hc.l0
    have q1 := (k3.out.below hC k3.out.lt).one 0 rfl
    go_simp) ?_
  simp only [Act.put, List.setIfInBounds_toArray, List.set_cons_succ, List.set_cons_zero]
  refine wpQuiet_val rfl (.pointer (some ⟨lp, 0, none⟩)) (fun w' hC => by
    have hc := h3.out.after hC
    have c0 := hc.l0
    have q1 := (k3.out.below hC k3.out.lt).one 0 rfl
    go_simp) ?_
  simp only [Act.put, List.setIfInBounds_toArray, List.set_cons_succ, List.set_cons_zero]
  refine wpQuiet_val rfl (.pointer (some ⟨L.cp, 0, none⟩)) (fun w' hC => by
    have hc := h3.out.after hC
    have c0 := hc.l0
    have q1 := (k3.out.below hC k3.out.lt).one 0 rfl
    go_simp) ?_
  simp only [Act.put, List.setIfInBounds_toArray, List.set_cons_succ, List.set_cons_zero]
  refine wpQuiet_val rfl (.int .i64 (j : Nat)) (fun w' hC => by
    have hc := h3.out.after hC
    have c0 := hc.l0
    have q1 := (k3.out.below hC k3.out.lt).one 0 rfl
    go_simp) ?_
  simp only [Act.put, List.setIfInBounds_toArray, List.set_cons_succ, List.set_cons_zero]
  (go_big_quiet_want; go_big_quiet_op; apply Exists.intro; refine ⟨fun w' hC => (W2.out w' hC).mono fun e w'' h => ⟨h.1, by rw [h.2]; exact hC⟩, ?_⟩; go_big_quiet_on)
  (go_big_quiet_want; go_big_quiet_op; apply Exists.intro; refine ⟨fun w' hC => (CP.out w' hC).mono fun e w'' h => ⟨h.1, by rw [h.2]; exact hC⟩, ?_⟩; go_big_quiet_on)
  refine wpQuiet_val rfl (.int .i64 z) (fun w' hC => by
    have hc := h3.out.after hC
    have c0 := hc.l0
    have q1 := (k3.out.below hC k3.out.lt).one 0 rfl
    go_simp) ?_
  simp only [Act.put, List.setIfInBounds_toArray, List.set_cons_succ, List.set_cons_zero]
  refine wpQuiet_nil fun w4 hC => ?_
  have b4 : Below w.heap.size w w4 := b3.trans (hC.mono b3.size)
  clear W1 W2 CP h3 k3 hC hw3
  go_wp2
  go_ret
  exact ⟨rfl, b4⟩

/-- The first of the first i + 1 segments that was erased least often. -/
def leastF (wear f : Nat → Nat) : Nat → Nat
  | 0 => f 0
  | i + 1 => if wear (f (i + 1)) < wear (leastF wear f i) then f (i + 1) else leastF wear f i
theorem leastF_in {wear f : Nat → Nat} {n : Nat} : ∀ i, (∀ j, j ≤ i → f j < n) → leastF wear f i < n
  | 0, h => h 0 (Nat.le_refl _)
  | i + 1, h => by
    show (if _ then _ else _) < n
    have := leastF_in (wear := wear) i (fun j hj => h j (by omega))
    have := h (i + 1) (Nat.le_refl _)
    split <;> assumption

set_option maxHeartbeats 2000000 in
set_option maxRecDepth 8000 in
theorem minFunc_any (B lp : Nat) (L : Lay) (S : St) (hv : Value) (G : Sg) (lb : Nat) (a : Option Addr) (k c : Nat) (hk0 : 0 < k) (hk : k ≤ 64) (f : Nat → Nat) (hf : Hid (∀ j, j < k → f j < L.n)) (w : World) (h : Hid (Lg B w lp L S hv G)) (hl : Hid (RowAt w lb 28 #[.pointer (some ⟨lp, 0, none⟩)])) (hs : Hid (SeesI w a k f)) :
    Calls Tryz.prog 67 #[.slice a k c, .func (.func 68) #[] #[.pointer (some ⟨lb, 0, none⟩)]] w fun e w' => e = .returned (.int .i64 (leastF S.wear f (k - 1) : Nat)) ∧ Below w.heap.size w w' := by
  have l0 : ¬ (k : Int) < 1 := by omega
  have l00 : (0 : Int) < (k : Int) := by omega
  have g0 := hs.out.cell hk0
  go_enter Tryz.func67, Tryz.ntmps67
  go_wp2_with (first | (refine wpList_known rfl (at_ints hs.out hk0 rfl rfl rfl rfl _) ?_))
  clear g0
  go_loopw [5, 6] (fun v5 v6 wr => ∃ i : Nat, 1 ≤ i ∧ i ≤ k ∧ v6 = .int .i64 (i : Int) ∧ v5 = .int .i64 ((leastF S.wear f (i - 1) : Nat) : Int) ∧ Hid (Below w.heap.size w wr)) (fun v5 v6 _ => k - (intOf v6).toNat)
  case atStart => exact ⟨1, Nat.le_refl _, by omega, rfl, rfl, Below.refl _ _⟩
  case round =>
    obtain ⟨i, hi1, hi, rfl, rfl, hb⟩ := hrel
    by_cases hik : i < k
    · have l1 : (i : Int) < (k : Int) := by omega
      have s2 := Lib.hid (hs.out.after hb.out)
      have g2 := s2.out.cell hik
      have hm := leastF_in (wear := S.wear) (i - 1) (fun j hj => hf.out j (by omega))
      have C := Lib.hid (least1_any B lp L S hv G lb (f i) (leastF S.wear f (i - 1)) (hf.out i hik) hm wr (Lib.hid (h.out.after hb.out)) (Lib.hid (hl.out.below hb.out hl.out.lt)))
      have st : Hid (leastF S.wear f i = if S.wear (f i) < S.wear (leastF S.wear f (i - 1)) then f i else leastF S.wear f (i - 1)) := by
        unfold Hid
        obtain ⟨i', rfl⟩ : ∃ i', i = i' + 1 := ⟨i - 1, by omega⟩
        rfl
      have ei : Hid (i + 1 - 1 = i) := rfl
      generalize leastF S.wear f (i - 1) = m at *
      by_cases hlt : S.wear (f i) < S.wear m
      · have ec : cmpI (S.wear (f i) : Nat) (S.wear m : Nat) = -1 := by unfold cmpI; rw [if_pos (by omega)]
        rw [ec] at C
        rw [if_pos hlt] at st
        clear hlt ec hm
        go_wp2_with (first | (refine wpList_known rfl (at_ints s2.out hik rfl rfl rfl rfl _) ?_))
        refine C.out.mono ?_
        rintro e w3 ⟨rfl, b3⟩
        have s3 := Lib.hid (s2.out.after b3)
        have g3 := s3.out.cell hik
        have hb3 := Lib.hid (hb.out.trans (b3.mono hb.out.size))
        clear C s2 g2 hb b3
        go_wp2_with (first | (refine wpList_known rfl (at_ints s3.out hik rfl rfl rfl rfl _) ?_))
        go_roundw
        case rel => exact ⟨i + 1, by omega, by omega, by go_num, by rw [ei.out, st.out]; rfl, hb3⟩
        case measure => simp [intOf]; omega
      · have ec : ¬ cmpI (S.wear (f i) : Nat) (S.wear m : Nat) < 0 := by unfold cmpI; rw [if_neg (by omega)]; split <;> decide
        rw [if_neg hlt] at st
        generalize cmpI (S.wear (f i) : Nat) (S.wear m : Nat) = z at *
        clear hlt hm
        go_wp2_with (first | (refine wpList_known rfl (at_ints s2.out hik rfl rfl rfl rfl _) ?_))
        refine C.out.mono ?_
        rintro e w3 ⟨rfl, b3⟩
        have hb3 := Lib.hid (hb.out.trans (b3.mono hb.out.size))
        clear C s2 g2 hb b3
        go_wp2
        go_roundw
        case rel => exact ⟨i + 1, by omega, by omega, by go_num, by rw [ei.out, st.out], hb3⟩
        case measure => simp [intOf]; omega
    · have et : i = k := by omega
      subst et
      have l1 : ¬ (i : Int) < (i : Int) := by omega
      clear hs hf h hl
      go_wp2
      go_ret
      exact ⟨rfl, hb.out⟩

set_option maxHeartbeats 1000000 in
set_option maxRecDepth 8000 in
theorem least_any (B lp : Nat) (L : Lay) (S : St) (hv : Value) (G : Sg) (a : Option Addr) (k c : Nat) (hk0 : 0 < k) (hk : k ≤ 64) (f : Nat → Nat) (hf : Hid (∀ j, j < k → f j < L.n)) (w : World) (h : Hid (Lg B w lp L S hv G)) (hs : Hid (SeesI w a k f)) :
    Calls Tryz.prog 35 #[.pointer (some ⟨lp, 0, none⟩), .slice a k c] w fun e w' => e = .returned (.int .i64 (leastF S.wear f (k - 1) : Nat)) ∧ Below w.heap.size w w' := by
  have b1 : Below w.heap.size w (w.alloc (.cells #[.pointer (some ⟨lp, 0, none⟩)] 28)) := (Below.refl _ _).alloc (Nat.le_refl _) _
  have M := Lib.hid (minFunc_any B lp L S hv G w.heap.size a k c hk0 hk f hf _ (Lib.hid (h.out.after b1)) (Lib.hid (RowAt.new w 28 #[.pointer (some ⟨lp, 0, none⟩)])) (Lib.hid (hs.out.after b1)))
  generalize leastF S.wear f (k - 1) = z at *
  clear h hs hf
  go_enter Tryz.func35, Tryz.ntmps35
  go_wp2_with fail
  refine M.out.mono ?_
  rintro e w3 ⟨rfl, b3⟩
  have b4 := b1.trans (b3.mono b1.size)
  clear M b1 b3
  go_wp2
  go_ret
  exact ⟨rfl, b4⟩

end Go.Proofs.YtapebaoajknepaaGreatDoor
/-
  Contracts: frames, and its iterator: all pages that have a frame.
-/
namespace Go.Proofs.YtapebaoajknepaaGreatDoor
open Go.RowKit
set_option linter.unusedVariables false

/-- Has a page a frame? -/
def fB (S : St) (i j : Nat) : Bool := isB (S.page i j) && okB (S.page i j).data.toList
def pgL (S : St) (u : Nat) : Nat → List Nat
  | 0 => []
  | t + 1 => pgL S u t ++ (if fB S u t = true then [t] else [])
/-- The pages of the first segments that have frames. -/
def frL (S : St) (m : Nat) : Nat → List (Nat × Nat)
  | 0 => []
  | u + 1 => frL S m u ++ (pgL S u m).map fun j => (u, j)
def frP (S : St) (m u t : Nat) : List (Nat × Nat) := frL S m u ++ (pgL S u t).map fun j => (u, j)

theorem frP_zero (S : St) (m u : Nat) : frP S m u 0 = frL S m u := by unfold frP; simp [pgL]
theorem frP_none {S : St} {m u t : Nat} (h : fB S u t = false) : frP S m u (t + 1) = frP S m u t := by
  unfold frP
  show _ ++ (pgL S u t ++ _).map _ = _
  rw [if_neg (by rw [h]; decide), List.append_nil]
theorem frP_yes {S : St} {m u t : Nat} (h : fB S u t = true) : frP S m u (t + 1) = frP S m u t ++ [(u, t)] := by
  unfold frP
  show _ ++ (pgL S u t ++ _).map _ = _
  rw [if_pos h, List.map_append, List.append_assoc]
  rfl
theorem pgL_pre (S : St) (u t : Nat) : ∀ d, ∃ r, pgL S u (t + d) = pgL S u t ++ r
  | 0 => ⟨[], by simp⟩
  | d + 1 => by
    obtain ⟨r, hr⟩ := pgL_pre S u t d
    refine ⟨r ++ (if fB S u (t + d) = true then [t + d] else []), ?_⟩
    show pgL S u (t + d) ++ (if fB S u (t + d) = true then [t + d] else []) = _
    rw [hr, List.append_assoc]
theorem frL_pre (S : St) (m u : Nat) : ∀ d, ∃ r, frL S m (u + d) = frL S m u ++ r
  | 0 => ⟨[], by simp⟩
  | d + 1 => by
    obtain ⟨r, hr⟩ := frL_pre S m u d
    refine ⟨r ++ (pgL S (u + d) m).map (fun j => (u + d, j)), ?_⟩
    show frL S m (u + d) ++ (pgL S (u + d) m).map (fun j => (u + d, j)) = _
    rw [hr, List.append_assoc]
theorem frP_at {S : St} {m n u t : Nat} (hu : u < n) (ht : t < m) (h : fB S u t = true) : (frP S m u t).length < (frL S m n).length ∧ (frL S m n).getD (frP S m u t).length (0, 0) = (u, t) ∧ (frP S m u (t + 1)).length = (frP S m u t).length + 1 := by
  obtain ⟨r1, h1⟩ := pgL_pre S u (t + 1) (m - (t + 1))
  rw [show t + 1 + (m - (t + 1)) = m by omega] at h1
  obtain ⟨r2, h2⟩ := frL_pre S m (u + 1) (n - (u + 1))
  rw [show u + 1 + (n - (u + 1)) = n by omega] at h2
  have h3 : frL S m (u + 1) = frP S m u (t + 1) ++ r1.map (fun j => (u, j)) := by
    show frL S m u ++ _ = _
    unfold frP
    rw [h1, List.map_append, List.append_assoc]
  rw [h2, h3, frP_yes h]
  refine ⟨by simp, ?_, by simp⟩
  simp [List.getD_eq_getElem?_getD]
theorem pgL_length (S : St) (u : Nat) : ∀ t, (pgL S u t).length ≤ t
  | 0 => Nat.le_refl _
  | t + 1 => by
    show (pgL S u t ++ _).length ≤ _
    have := pgL_length S u t
    rw [List.length_append]
    split
    · simp; omega
    · simp; omega
theorem frL_length (S : St) (m : Nat) : ∀ u, (frL S m u).length ≤ u * m
  | 0 => by simp [frL]
  | u + 1 => by
    show (frL S m u ++ _).length ≤ _
    have := frL_length S m u
    have := pgL_length S u m
    rw [List.length_append, List.length_map, Nat.succ_mul]
    omega

theorem rdE_yes {S : St} {n m u t : Nat} (hu : u < n) (ht : t < m) (h : fB S u t = true) : rdE n m S u t = 0 ∧ rdV n m S u t = gotV (S.page u t).data.toList := by
  unfold fB at h
  rw [Bool.and_eq_true] at h
  have hin : (inB (u : Int) n && inB (t : Int) m) = true := by rw [inB_nat u n hu, inB_nat t m ht]; rfl
  unfold rdE rdV
  rw [if_neg (by rw [hin]; simp), if_neg (by simp [h.1]), if_pos ⟨hin, by simpa using h.1⟩]
  refine ⟨?_, rfl⟩
  show gotE (S.page u t).data.toList = 0
  unfold gotE
  rw [if_pos h.2]
theorem rdE_no {S : St} {n m u t : Nat} (hu : u < n) (ht : t < m) (h : fB S u t = false) : rdE n m S u t ≠ 0 := by
  have hin : (inB (u : Int) n && inB (t : Int) m) = true := by rw [inB_nat u n hu, inB_nat t m ht]; rfl
  unfold rdE
  rw [if_neg (by rw [hin]; simp)]
  show (if isB (S.page u t) = false then (3 : Int) else gotE (S.page u t).data.toList) ≠ 0
  split
  · decide
  · rename_i h1
    unfold fB at h
    have h2 : isB (S.page u t) = true := by simpa using h1
    rw [h2, Bool.true_and] at h
    unfold gotE
    rw [if_neg (by rw [h]; decide)]
    decide
theorem rdV_agg (n m : Nat) (S : St) (z y : Int) : ∃ a b c, rdV n m S z y = .agg #[a, b, c] := by
  unfold rdV
  split
  · exact gotV_agg _
  · exact ⟨_, _, _, rfl⟩
theorem rdV_one {n m : Nat} {S : St} {z y : Int} {a b c : Value} (h : rdV n m S z y = .agg #[a, b, c]) : #[a, b, c].toList.all (·.oneCell') = true := by
  unfold rdV at h
  split at h
  · exact gotV_one h
  · cases h
    simp [Value.oneCell']

theorem size_addr (cs : Array Value) (h : cs.size = 2) : (Tryz.prog.info? 34).map (·.size) = some cs.size := by rw [h]; kernel_rfl

set_option maxRecDepth 8000 in
theorem frames_any (lp : Nat) (w : World) :
    Calls Tryz.prog 17 #[.pointer (some ⟨lp, 0, none⟩)] w fun e w' => e = .returned (.func (.func 29) #[] #[.pointer (some ⟨w.heap.size, 0, none⟩)]) ∧
      Hid (RowAt w' w.heap.size 28 #[.pointer (some ⟨lp, 0, none⟩)]) ∧ w'.heap.size = w.heap.size + 1 ∧ Below w.heap.size w w' := by
  have b0 := (Below.refl w.heap.size w).alloc (Nat.le_refl _) (.cells #[.pointer (some ⟨lp, 0, none⟩)] 28)
  have r0 := Lib.hid (RowAt.new w 28 #[.pointer (some ⟨lp, 0, none⟩)])
  go_enter Tryz.func17, Tryz.ntmps17
  go_wp2
  go_ret
  exact ⟨rfl, r0, by simp, b0⟩

/-- What the iterator leans on, whatever a round does. -/
def CF (B lp : Nat) (L : Lay) (S : St) (hv : Value) (A : World) : Prop := KRow A ∧ ∃ G, Lg B A lp L S hv G

theorem wp_at_yield8 {P : Program} {ops : Array Oper} {Q : Exit → Act → World → Prop} {a : Act} {w : World} (h : (Code.region 8 ops false).wpIn Fence.wide 1 P (fun e a w => Hid (Q e a w)) a w) : (Code.region 8 ops false).wp P Q a w := wpIn_wide.1 (wpIn_mono h fun e a w h => h.out)

set_option maxHeartbeats 4000000 in
set_option maxRecDepth 8000 in
theorem frames_seq (B : Nat) (lp : Nat) (L : Lay) (S : St) (hv : Value) (s : Nat) (K : Nat → Prop) (w0 : World)
    (h : Hid (RowAt w0 s 28 #[.pointer (some ⟨lp, 0, none⟩)])) (hK : Hid (K s)) :
    SeqK K (CF B lp L S hv) Tryz.prog 29 #[.pointer (some ⟨s, 0, none⟩)] (frL S L.m L.n).length (fun k => #[.agg #[.int .i64 (((frL S L.m L.n).getD k (0, 0)).1 : Nat), .int .i64 (((frL S L.m L.n).getD k (0, 0)).2 : Nat)], gotV (S.page ((frL S L.m L.n).getD k (0, 0)).1 ((frL S L.m L.n).getD k (0, 0)).2).data.toList]) w0 := by
  intro l J W hW hJ hC hY h0
  have HY := Lib.hid hY
  have HJ := Lib.hid hJ
  have HC := Lib.hid hC
  have H0 := Lib.hid h0
  have I0 := Lib.hid (h.out.below hW h.out.lt)
  clear hY hJ h0 hW h hC
  show Calls _ _ #[.func (.yield l) #[] #[], .pointer (some ⟨s, 0, none⟩)] W _
  obtain ⟨kr0, G0, lg0⟩ := HC.out _ _ H0.out
  have c1 := I0.out.one 0 rfl
  have c0 := lg0.l0
  have SG := Lib.hid (segs_any B W L S hv (Lib.hid lg0.ch))
  have hn := lg0.ch.room.2.1
  have hm := lg0.ch.room.2.2.2
  clear kr0 lg0
  go_enter Tryz.func29, Tryz.ntmps29
  go_wp2_with fail
  refine SG.out.mono ?_
  rintro e w1 ⟨rfl, rfl⟩
  clear SG c1 c0
  go_wp2
  have H00 : Hid (J (frP S L.m 0 0).length w1) := H0.out
  clear H0
  go_loopw [13] (fun v wr => ∃ u : Nat, u ≤ L.n ∧ v = .int .i64 (u : Int) ∧ Hid (J (frP S L.m u 0).length wr) ∧ Hid (RowAt wr s 28 #[.pointer (some ⟨lp, 0, none⟩)])) (fun v _ => L.n - (intOf v).toNat)
  case atStart => exact ⟨0, Nat.zero_le _, rfl, H00, I0⟩
  case round =>
    clear H00 I0
    obtain ⟨u, hu, rfl, hj, hI⟩ := hrel
    by_cases hun : u < L.n
    · have l0 : (u : Int) < (L.n : Int) := by omega
      obtain ⟨kr1, G1, lg1⟩ := HC.out _ _ hj.out
      have c1 := hI.out.one 0 rfl
      have c0 := lg1.l0
      have PG := Lib.hid (pages_any B wr L S hv (Lib.hid lg1.ch))
      clear kr1 lg1
      go_wp2_with fail
      refine PG.out.mono ?_
      rintro e w2 ⟨rfl, rfl⟩
      clear PG c1 c0
      go_wp2
      go_loopw [21] (fun v wr => ∃ t : Nat, t ≤ L.m ∧ v = .int .i64 (t : Int) ∧ Hid (J (frP S L.m u t).length wr) ∧ Hid (RowAt wr s 28 #[.pointer (some ⟨lp, 0, none⟩)])) (fun v _ => L.m - (intOf v).toNat)
      case atStart => exact ⟨0, Nat.zero_le _, rfl, hj, hI⟩
      case round =>
        clear hj hI
        obtain ⟨t, ht, rfl, hj, hI⟩ := hrel
        by_cases htm : t < L.m
        · have l1 : (t : Int) < (L.m : Int) := by omega
          have b3 : Below wr.heap.size wr (wr.alloc (.cells #[.int .i64 (u : Int), .int .i64 (t : Int)] 34)) := (Below.refl _ _).alloc (Nat.le_refl _) _
          have r3 := Lib.hid (RowAt.new wr 34 #[.int .i64 (u : Int), .int .i64 (t : Int)])
          have j3 := Lib.hid (HJ.out _ _ _ hj.out b3)
          have I3 := Lib.hid (hI.out.below b3 hI.out.lt)
          have c1 := I3.out.one 0 rfl
          obtain ⟨kr3, G3, lg3⟩ := HC.out _ _ j3.out
          have RD := Lib.hid (lread_any B _ lp L S hv G3 (Lib.hid lg3) (Lib.hid kr3) (u : Int) (t : Int))
          have a0 := r3.out.one 0 rfl
          have a1 := r3.out.one 1 rfl
          clear hj hI b3 kr3 lg3
          go_wp2_with (first | (refine wpList_store_row rfl 34 _ _ rfl wr.heap.size #[.int .i64 (u : Int), .int .i64 (t : Int)] rfl rfl 34 _ (RowAt.new _ _ _) (size_addr _ rfl) rfl (by simp [Value.oneCell']) ?_; rw [World.setRow_alloc_new]; generalize wr.alloc (.cells #[.int .i64 (u : Int), .int .i64 (t : Int)] 34) = w3 at *) | (refine wpList_load_row rfl 34 _ rfl wr.heap.size rfl 34 _ (0, 0) _ r3.out Tryz.underlying34 rfl (size_addr _ rfl) ?_))
          refine RD.out.mono ?_
          rintro e w4 ⟨rfl, b4⟩
          have r4 := Lib.hid (r3.out.below b4 r3.out.lt)
          have j4 := Lib.hid (HJ.out _ _ _ j3.out b4)
          have I4 := Lib.hid (I3.out.below b4 I3.out.lt)
          clear RD r3 j3 I3 c1 a0 a1 b4
          obtain ⟨f1, f2, f3, hf⟩ := rdV_agg L.n L.m S (u : Int) (t : Int)
          have hF : Hid (#[f1, f2, f3].toList.all (·.oneCell') = true) := rdV_one hf
          rw [hf]
          have b5 : Below w4.heap.size w4 (w4.alloc (.cells #[f1, f2, f3] 41)) := (Below.refl _ _).alloc (Nat.le_refl _) _
          have r5 := Lib.hid (r4.out.below b5 r4.out.lt)
          have j5 := Lib.hid (HJ.out _ _ _ j4.out b5)
          have I5 := Lib.hid (I4.out.below b5 I4.out.lt)
          have p5 := Lib.hid (RowAt.new w4 41 #[f1, f2, f3])
          obtain ⟨q, hq⟩ : ∃ q, q = wr.heap.size := ⟨_, rfl⟩
          rw [← hq] at r5 ⊢
          clear r4 hq
          clear j4 I4 b5
          cases hfb : fB S u t
          · have hne := rdE_no hun htm hfb
            have hz : (rdE L.n L.m S (u : Int) (t : Int) == 0) = false := by simpa using hne
            have j6 : Hid (J (frP S L.m u (t + 1)).length (w4.alloc (.cells #[f1, f2, f3] 41))) := by unfold Hid; rw [frP_none hfb]; exact j5.out
            clear hne hfb j5 hf
            generalize rdE L.n L.m S (u : Int) (t : Int) = z at *
            go_wp2_with (refine wpList_store_row rfl 41 _ _ rfl w4.heap.size #[f1, f2, f3] rfl rfl 41 _ (RowAt.new _ _ _) (size_frame _ rfl) rfl (by simpa using hF.out) ?_; rw [World.setRow_alloc_new]; generalize w4.alloc (.cells #[f1, f2, f3] 41) = w5 at *)
            go_roundw
            case rel => exact ⟨t + 1, by omega, by go_num, j6, I5⟩
            case measure => simp [intOf]; omega
          · obtain ⟨e0, ev⟩ := rdE_yes hun htm hfb
            rw [e0]
            rw [ev] at hf
            obtain ⟨dk, dg, dn⟩ := frP_at hun htm hfb
            have Y := HY.out _ _ j5.out dk
            rw [dg] at Y
            dsimp only at Y
            rw [hf] at Y
            obtain ⟨fn, tm, asg, bd, hy, hR⟩ := Y
            have hR' := Lib.hid hR
            have dn' := Lib.hid dn
            have a0 := r5.out.one 0 rfl
            have a1 := r5.out.one 1 rfl
            have g0 := p5.out.one 0 rfl
            have g1 := p5.out.one 1 rfl
            have g2 := p5.out.one 2 rfl
            clear hR hfb dk dg dn j5 e0 ev hf
            go_wp2_with (refine wpList_store_row rfl 41 _ _ rfl w4.heap.size #[f1, f2, f3] rfl rfl 41 _ (RowAt.new _ _ _) (size_frame _ rfl) rfl (by simpa using hF.out) ?_; rw [World.setRow_alloc_new]; generalize w4.alloc (.cells #[f1, f2, f3] 41) = w5 at *; refine Hid.out ?_)
            unfold Hid
            repeat (first | (with_reducible refine wp_at_yield8 ?_) | go_values | go_skip | go_guarded | go_step | go_upon | go_back)
            gi_wp2
            refine hR'.out.mono ?_
            rintro e w6 ⟨rfl, j6, o6⟩
            have I6 := Lib.hid (o6.row I5.out hK.out)
            rw [← dn'.out] at j6
            replace j6 := Lib.hid j6
            clear hR' hy I5 o6 r5 p5 a0 a1 g0 g1 g2
            gi_wp2
            refine Lib.hid ?_
            go_wp2
            go_roundw
            case rel => exact ⟨t + 1, by omega, by go_num, j6, I6⟩
            case measure => simp [intOf]; omega
        · have et : t = L.m := by omega
          subst et
          have l1 : ¬ (L.m : Int) < (L.m : Int) := by omega
          have j5 : Hid (J (frP S L.m (u + 1) 0).length wr) := by unfold Hid; rw [frP_zero]; exact hj.out
          go_wp2
          go_roundw
          case rel => exact ⟨u + 1, by omega, by go_num, j5, hI⟩
          case measure => simp [intOf]; omega
    · have et : u = L.n := by omega
      subst et
      have l1 : ¬ (L.n : Int) < (L.n : Int) := by omega
      have j5 : J (frL S L.m L.n).length wr := by have := hj.out; rwa [frP_zero] at this
      go_wp2
      go_end0
      exact ⟨⟨_, rfl⟩, j5⟩

end Go.Proofs.YtapebaoajknepaaGreatDoor
/-
  Contracts: slices.AppendSeq, slices.Collect of pages.
-/
namespace Go.Proofs.YtapebaoajknepaaGreatDoor
open Go.RowKit
set_option linter.unusedVariables false

theorem cellL_two (n : Nat) (F : Nat → Value) : cellL (n * 2) F ++ [F (n * 2), F (n * 2 + 1)] = cellL ((n + 1) * 2) F := by
  rw [show (n + 1) * 2 = n * 2 + 1 + 1 by omega, ← cellL_succ, ← cellL_succ]
  simp
theorem infoAddr : (Tryz.prog.info? 34).map (fun i => (i.zero, i.size, i.bytes)) = some (some (.agg #[.int .i64 0, .int .i64 0]), 2, 16) := by kernel_rfl

/-- Pages, one behind the other. -/
def addrV (A : Nat → Int × Int) : Nat → Value := fun m => if m % 2 = 0 then .int .i64 (A (m / 2)).1 else .int .i64 (A (m / 2)).2
theorem addrV_0 (A : Nat → Int × Int) (k : Nat) : addrV A (k * 2) = .int .i64 (A k).1 := by unfold addrV; rw [if_pos (by omega), show k * 2 / 2 = k by omega]
theorem addrV_1 (A : Nat → Int × Int) (k : Nat) : addrV A (k * 2 + 1) = .int .i64 (A k).2 := by unfold addrV; rw [if_neg (by omega), show (k * 2 + 1) / 2 = k by omega]
/-- Pages that are told. -/
def AddrsEnd (N : Nat) (A : Nat → Int × Int) (w : World) (e : Ending) (w' : World) : Prop := ∃ a c, e = .returned (.slice a N c) ∧ Hid (SeesV w' a (N * 2) (addrV A)) ∧ Below w.heap.size w w'

/-- A row that is owned lies in no block for deferred calls. -/
theorem own_not {W : World} {base : Nat} {e : TypeId} {size : Nat} {v : Value} {k : Nat} {xs : List Value} (h : W.ownsRow base e size v k xs) {D : Nat} {cs : Option (List Deferred)} (hd : W.heap[D]? = some (.deferred cs)) : v.ownBlock ≠ some D := by
  rcases h.2 with ⟨rfl, _⟩ | ⟨g, cap, cur, rfl, _, hg, _⟩
  · intro e; cases e
  · intro e
    obtain rfl : g = D := by simpa [Value.ownBlock] using e
    rw [hd] at hg
    cases hg

/-- The variable at B has a row of the first k pages; below n0 all is as in w; the row lies from n1 on. -/
structure ColA (n0 n1 B : Nat) (w : World) (A : Nat → Int × Int) (k : Nat) (W : World) : Prop where
  row : ∃ v, Boxed W B 32 v ∧ W.ownsRow n1 34 2 v k (cellL (k * 2) (addrV A))
  low : Below n0 w W
  hB : n0 ≤ B ∧ B < n1
  h1 : n1 ≤ W.heap.size
section
variable {n0 n1 B m : Nat} {w W W' : World} {A : Nat → Int × Int} {k : Nat}
theorem ColA.cel (h : ColA n0 n1 B w A k W) (c : Cel m W W') (hm : n0 ≤ m) : ColA n0 n1 B w A k W' := by
  obtain ⟨v, hv, hr⟩ := h.row
  exact ⟨⟨v, RowAt.cel (t := 32) hv c, own_cel hr c⟩, h.low.trans (c.below hm (by have := h.hB; have := h.h1; omega)), h.hB, Nat.le_trans h.h1 c.size⟩
theorem ColA.append (h : ColA n0 n1 B w A k W) {w1 : World} {v v' : Value} (hv : Boxed W B 32 v) (hr : W.ownsRow n1 34 2 v k (cellL (k * 2) (addrV A)))
    (hown : w1.ownsRow n1 34 2 v' (k + 1) (cellL ((k + 1) * 2) (addrV A))) (hgrow : W.grownBy w1 v.ownBlock) :
    ColA n0 n1 B w A (k + 1) (w1.setCell ⟨B, 0, none⟩ v') ∧ OuterK (fun j => j < n1 ∧ j ≠ B) W (w1.setCell ⟨B, 0, none⟩ v') ∧ Boxed w1 B 32 v := by
  have hv1 : Boxed w1 B 32 v := hv.kept hgrow (hv.not_row (by decide) hr)
  have hv2 := hv1.set v'
  have hr2 := hown.kept (grownBy_setCell' w1 B v') (.inr (hv1.not_row (by decide) hown).symm)
  have hb2 : Below n0 W (w1.setCell ⟨B, 0, none⟩ v') := by
    refine ((Below.refl n0 W).grown hgrow (by have := h.hB; have := h.h1; omega) fun j ej => ?_).setCell (p := ⟨B, 0, none⟩) h.hB.1 v'
    have := (hr.lt j ej).1
    have := h.hB
    omega
  have hout : OuterK (fun j => j < n1 ∧ j ≠ B) W (w1.setCell ⟨B, 0, none⟩ v') := by
    refine ⟨hb2.os, hb2.tape, hb2.output, hb2.size, fun j o hj ho => ?_⟩
    have hlt := (Array.getElem?_eq_some_iff.1 hj).1
    have nB : j ≠ B := by
      rintro rfl
      rcases ho with ho | ho
      · exact ho.2 rfl
      · have hv' : W.heap[j]? = _ := hv
        rw [hv'] at hj
        cases hj
        cases ho
    rw [Below.heap_setCell _ _ _ _ nB, hgrow.block j hlt (fun e => ?_)]
    · exact hj
    · rcases ho with ho | ho
      · have := (hr.lt j e.symm).1
        omega
      · rcases hr.2 with ⟨rfl, _⟩ | ⟨g, cap, cur, rfl, _, hg, _⟩
        · simp [Value.ownBlock] at e
        · obtain rfl : j = g := by simpa [Value.ownBlock] using e
          rw [hg] at hj
          cases hj
          cases ho
  have hsz : n1 ≤ (w1.setCell ⟨B, 0, none⟩ v').heap.size := Nat.le_trans h.h1 hb2.size
  exact ⟨⟨⟨v', hv2, hr2⟩, h.low.trans hb2, h.hB, hsz⟩, hout, hv1⟩
end

set_option maxHeartbeats 4000000 in
set_option maxRecDepth 8000 in
theorem appendSeq_any (gf : Nat) (lb : Array Value) (N : Nat) (A : Nat → Int × Int) (hN : N ≤ 2000) (eg : Hid (∀ args w, (callFunc gf args).run Tryz.prog w = .ok (.enter gf args) w)) (w : World)
    (hseq : Hid (∀ w1, Below w.heap.size w w1 → SeqK (fun j => j < w.heap.size + 1 ∧ j ≠ w.heap.size) (fun _ => True) Tryz.prog gf lb N (fun k => #[.agg #[.int .i64 (A k).1, .int .i64 (A k).2]]) w1)) :
    Calls Tryz.prog 71 #[.slice none 0 0, .func (.func gf) #[] lb] w (AddrsEnd N A w) := by
  refine (callsIn_wide (n := 1)).1 (callsIn_of_wp_marks Tryz.func71 rfl trivial (wpIn_wide.2 ?_) rfl)
  simp only [Tryz.ntmps71, List.size_toArray, List.length_cons, List.length_nil, Nat.reduceAdd, Nat.reduceSub, Array.replicate_succ, Array.replicate_zero, List.push_toArray, List.append_toArray, List.nil_append, List.cons_append]
  have b1 : Below w.heap.size w (w.alloc (.cells #[.slice none 0 0] 32)) := (Below.refl _ _).alloc (Nat.le_refl _) _
  have x1 := Boxed.new w 32 (.slice none 0 0)
  have I1 : Hid (ColA w.heap.size (w.heap.size + 1) w.heap.size w A 0 (w.alloc (.cells #[.slice none 0 0] 32))) := ⟨⟨_, x1, World.ownsRow_nil _ _ _ _⟩, b1, ⟨Nat.le_refl _, Nat.lt_succ_self _⟩, by rw [World.size_alloc]; exact Nat.le_refl _⟩
  have SQ := hseq.out _ b1
  have hz : Hid ((w.alloc (.cells #[.slice none 0 0] 32)).heap.size = w.heap.size + 1) := World.size_alloc _ _
  go_wp2
  generalize w.alloc (.cells #[.slice none 0 0] 32) = w1 at *
  clear x1 b1 hseq
  refine wp_rangeFunc_k (K := fun j => j < w.heap.size + 1 ∧ j ≠ w.heap.size) (C := fun _ => True) (w0 := w1) rfl eg.out SQ (Below.refl _ _) (fun _ => rfl)
    (fun k W => ColA w.heap.size (w.heap.size + 1) w.heap.size w A k W) (fun k X Y h c => h.cel c (by rw [hz.out]; omega)) (fun _ _ _ => trivial) I1.out
    (fun k a1 W => (∃ p, a1 = { tmps := #[.slice none 0 0, .func (.func gf) #[] lb, .pointer (some ⟨w.heap.size, 0, none⟩), undef, .slice none 0 0, .pointer (some ⟨p, 0, none⟩), .func (.func gf) #[] lb, .agg #[.int .i64 (A k).1, .int .i64 (A k).2], undef, undef, undef, undef, undef], defers := [] } ∧ RowAt W p 34 #[.int .i64 (A k).1, .int .i64 (A k).2]) ∧ ColA w.heap.size (w.heap.size + 1) w.heap.size w A k W)
    (fun k a1 X Y h c => ⟨by obtain ⟨p, e, hp⟩ := h.1; exact ⟨p, e, hp.cel c⟩, h.2.cel c (by rw [hz.out]; omega)⟩) ?assign ?body ?done
  case assign =>
    intro l k W Kk hI hk hKk
    refine wpIn_round_list' l (by kernel_rfl) (fun ⟨_, _, h⟩ => h) ?_
    simp only [List.zip_toArray, List.zip_cons_cons, List.zip_nil_right, List.foldl_toArray, List.foldl_cons, List.foldl_nil, List.setIfInBounds_toArray, List.set_cons_succ, List.set_cons_zero]
    have hK' := Lib.hid hKk
    have b2 : Below W.heap.size W (W.alloc (.cells #[.int .i64 (A k).1, .int .i64 (A k).2] 34)) := (Below.refl _ _).alloc (Nat.le_refl _) _
    have I2 := Lib.hid (hI.cel (m := w.heap.size) (Cel.of_below b2) (Nat.le_refl _))
    have r2 := Lib.hid (RowAt.new W 34 #[.int .i64 (A k).1, .int .i64 (A k).2])
    have o2 : Hid (OuterK (fun j => j < w.heap.size + 1 ∧ j ≠ w.heap.size) W (W.alloc (.cells #[.int .i64 (A k).1, .int .i64 (A k).2] 34))) := OuterK.of_below b2
    clear hI hKk b2
    go_wp2_with (refine wpList_store_row rfl 34 _ _ rfl W.heap.size #[.int .i64 (A k).1, .int .i64 (A k).2] rfl rfl 34 _ (RowAt.new _ _ _) (size_addr _ rfl) rfl (by simp [Value.oneCell']) ?_; rw [World.setRow_alloc_new])
    exact hK'.out _ _ ⟨⟨_, rfl, r2.out⟩, I2.out⟩ o2.out
  case body =>
    rintro l k a1 W ⟨⟨p, rfl, hp⟩, hI⟩ hk
    obtain ⟨v0, hv0, hr0⟩ := hI.row
    have hI' := Lib.hid hI
    have hp' := Lib.hid hp
    have hc0 := hv0.cell
    have hv0' := Lib.hid hv0
    have hr0' := Lib.hid hr0
    have hsz := hI.h1
    have hk2 : k ≤ 1000000 := by omega
    clear hI hp hv0 hr0
    refine wpIn_block (wpIn_round_list' l (by kernel_rfl) roundPostK_block ?_)
    go_wp2_with (first | (refine wpList_load_row rfl 34 _ rfl p rfl 34 _ (0, 0) _ hp'.out Tryz.underlying34 rfl (size_addr _ rfl) ?_) | (at_builtin; refine wpList_append_cs Tryz.underlying32 infoAddr rfl (by decide) (by decide) rfl _ _ rfl (w.heap.size + 1) _ k _ [.int .i64 (A k).1, .int .i64 (A k).2] rfl W hr0'.out rfl rfl rfl rfl (fun u hu => by simp at hu; rcases hu with rfl | rfl <;> rfl) hk2 hsz ?_; intro v1 w4 hown hgrow hb4; refine Hid.out ?_))
    unfold Hid
    have hown' : w4.ownsRow (w.heap.size + 1) 34 2 v1 (k + 1) (cellL ((k + 1) * 2) (addrV A)) := by
      have h1 := hown.out
      rwa [← addrV_0 A k, ← addrV_1 A k, cellL_two] at h1
    have AP := hI'.out.append hv0'.out hr0'.out hown' hgrow.out
    obtain ⟨g4, c4, rfl⟩ := ownsRow_succ hown'
    have hc4 := AP.2.2.cell
    have hf4 := AP.2.2.frozen
    have AP1 := Lib.hid AP
    clear hown hown' hgrow hb4 AP
    go_wp2
    exact ⟨rfl, AP1.out.1, AP1.out.2.1⟩
  case done =>
    intro D W hD hI hKd
    obtain ⟨v, hv, hr⟩ := hI.row
    have hc := hv.cell
    obtain ⟨a, c, rfl, hs, _, _, ha⟩ := own_seesV hr (F := addrV A) (fun m hm => cellL_get _ _ m hm)
    have hne : Hid (∀ ad, a = some ad → ad.block ≠ D) := fun ad e e2 => own_not hr hKd (by rw [← e2]; exact (ha ad e).2.1)
    have hs' := Lib.hid hs
    have hKd' := Lib.hid hKd
    have hlow := Lib.hid hI.low
    have hle : w.heap.size ≤ D := by have := hz.out; omega
    clear hI hKd hv hr hs ha
    go_wp2
    refine ⟨by simp, .inl ⟨_, _, rfl, run_takeDeferred hKd'.out, ?_⟩⟩
    refine ⟨_, results_tmp rfl _ _ _, ?_⟩
    have bd : Below w.heap.size W (W.putObj D (.deferred none)) := ⟨rfl, rfl, rfl, by rw [World.putObj_size]; exact Nat.le_refl _, fun k hk => World.putObj_heap_other (by omega)⟩
    refine ⟨a, c, rfl, hs'.out.kept fun ad e hl => ⟨by rw [World.putObj_size]; exact hl, World.putObj_heap_other fun e' => ?_⟩, hlow.out.trans bd⟩
    exact hne.out ad e e'

set_option maxHeartbeats 4000000 in
set_option maxRecDepth 8000 in
theorem collect_any (gf : Nat) (lb : Array Value) (N : Nat) (A : Nat → Int × Int) (hN : N ≤ 2000) (eg : Hid (∀ args w, (callFunc gf args).run Tryz.prog w = .ok (.enter gf args) w)) (w : World)
    (hseq : Hid (∀ w1, Below w.heap.size w w1 → SeqK (fun j => j < w.heap.size + 1 ∧ j ≠ w.heap.size) (fun _ => True) Tryz.prog gf lb N (fun k => #[.agg #[.int .i64 (A k).1, .int .i64 (A k).2]]) w1)) :
    Calls Tryz.prog 36 #[.func (.func gf) #[] lb] w (AddrsEnd N A w) := by
  have P := Lib.hid (appendSeq_any gf lb N A hN eg w hseq)
  clear hseq
  go_enter Tryz.func36, Tryz.ntmps36
  go_wp2_with fail
  refine P.out.mono ?_
  rintro e w1 ⟨a, c, rfl, hs, b1⟩
  clear P
  go_wp2
  go_ret
  exact ⟨a, c, rfl, hs, b1⟩

end Go.Proofs.YtapebaoajknepaaGreatDoor
/-
  An element of several cells, loaded whole at the operation.
-/
namespace Go.Proofs.YtapebaoajknepaaGreatDoor
open Go.RowKit
set_option linter.unusedVariables false

section
variable {P : Program} {S T : TypeId}
/-- An element, loaded whole at the operation. -/
theorem run_load_many {w : World} {ad : Option Addr} {n k i : Nat} {F : Nat → Value} {d : TypeDesc} (vs : List Value) (hk : vs.length = k) (hk0 : 0 < k) (hvs : ∀ j v, vs[j]? = some v → v = F (i * k + j)) (h : SeesV w ad (n * k) F) (hi : i < n) (hu : P.underlying T = some d) (hd : (match d with | .struct _ | .array _ _ => true | _ => false) = true) (hs : (P.info? T).map (·.size) = some k)
    {o : Oper} {a : Act} {x : Operand} (ho : o.op = .load T x) (hx : a.eval x = .pointer (some (elV ad (i * k)))) : (execOp a.eval o).run P w = .ok (.value (.agg vs.toArray)) w := by
  have hagg : (isAgg T).run P w = .ok true w := by
    unfold isAgg
    rw [Sem.run_bind, run_underlying hu w]
    cases d <;> simp_all
  obtain ⟨ad', rfl, _⟩ := h.some (Nat.mul_pos (by omega) hk0)
  have hle : ∀ j, j < k → i * k + j < n * k := fun j hj => by
    have : (i + 1) * k ≤ n * k := Nat.mul_le_mul_right k (by omega)
    rw [Nat.succ_mul] at this
    omega
  have hl := run_loadCells_list (P := P) w (elV (some ad') (i * k)) vs (fun j v hv => by
    have hj : j < k := by rw [← hk]; exact (List.getElem?_eq_some_iff.1 hv).1
    have e : (elV (some ad') (i * k)).add j = ad'.add (i * k + j) := Deep.add_add _ _ _
    obtain ⟨ad2, e2, _, hc⟩ := h (i * k + j) (hle j hj)
    cases e2
    rw [e, hc, hvs j v hv])
  rw [hk] at hl
  unfold execOp
  simp only [ho, hx, Instr.loadAt, Instr.sureAddr, Sem.run_bind, Sem.run_pure, Result.andThen_ok]
  have e3 : (loadVar T (elV (some ad') (i * k))).run P w = .ok (.agg vs.toArray) w := by
    simp [loadVar, Sem.run_bind, hagg, sizeOf_k hs, hl]
  simp [e3]

end

end Go.Proofs.YtapebaoajknepaaGreatDoor
/-
  Contract: next: the page that comes next.
-/
namespace Go.Proofs.YtapebaoajknepaaGreatDoor
open Go.RowKit
set_option linter.unusedVariables false

theorem el_addrs : Tryz.prog.elem 32 = 34 := by kernel_rfl
theorem sz_addr : (Tryz.prog.info? 34).map (·.size) = some 2 := by kernel_rfl
theorem at_addrs {w0 : World} {ad : Option Addr} {n c i : Nat} {F : Nat → Value} (h : SeesV w0 ad (n * 2) F) (hi : i < n) {o : Oper} {a : Act} {x y : Operand} (ho : o.op = .indexAddr 32 x y) (hx : a.eval x = .slice ad n c) {z : Int} (hy : a.eval y = .int .i64 z) (hz : z = (i : Int)) (w : World) :
    (execOp a.eval o).run Tryz.prog w = .ok (.value (.pointer (some (elV ad (i * 2))))) w := run_index_v Tryz.underlying32 el_addrs sz_addr h (by decide) hi ho hx hy hz w
theorem get_addr {w : World} {ad : Option Addr} {n i : Nat} {A : Nat → Int × Int} (h : SeesV w ad (n * 2) (addrV A)) (hi : i < n) {o : Oper} {a : Act} {x : Operand} (ho : o.op = .load 34 x) (hx : a.eval x = .pointer (some (elV ad (i * 2)))) :
    (execOp a.eval o).run Tryz.prog w = .ok (.value (.agg #[.int .i64 (A i).1, .int .i64 (A i).2])) w :=
  run_load_many (k := 2) [.int .i64 (A i).1, .int .i64 (A i).2] rfl (show 0 < 2 by decide) (fun j v hv => by
    match j, hv with
    | 0, hv => cases hv; rw [Nat.add_zero, addrV_0]
    | 1, hv => cases hv; rw [addrV_1]) h hi Tryz.underlying34 rfl sz_addr ho hx

/-! What next comes to. -/
def freesL (L : Lay) (S : St) (G : Sg) : List Nat := sgL (freeB L S G) L.n
def needsB (L : Lay) (S : St) (G : Sg) : Bool := (G.op == -1) || ((blL S G.op.toNat L.m).length == 0)
def fullB (L : Lay) (S : St) (G : Sg) (r : Int) : Bool := decide (((freesL L S G).length : Int) ≤ max r 0)
def newOp (L : Lay) (S : St) (G : Sg) : Nat := leastF S.wear (fun j => (freesL L S G).getD j 0) ((freesL L S G).length - 1)
def nextG (L : Lay) (S : St) (G : Sg) (r : Int) : Sg := if needsB L S G = true then (if fullB L S G r = true then G else { G with op := (newOp L S G : Nat) }) else G
def nextE (L : Lay) (S : St) (G : Sg) (r : Int) : Int := if needsB L S G = true then (if fullB L S G r = true then 2 else 0) else 0
/-- The first blank page of a segment. -/
def firstB (L : Lay) (S : St) (s : Nat) : Nat := (blL S s L.m).getD 0 0

theorem sgL_mem (p : Nat → Bool) : ∀ t x, x ∈ sgL p t ↔ x < t ∧ p x = true
  | 0, x => by simp [sgL]
  | t + 1, x => by
    show x ∈ sgL p t ++ _ ↔ _
    rw [List.mem_append, sgL_mem p t x]
    by_cases h : p t = true
    · rw [if_pos h, List.mem_singleton]
      constructor
      · rintro (⟨h1, h2⟩ | rfl)
        · exact ⟨by omega, h2⟩
        · exact ⟨by omega, h⟩
      · rintro ⟨h1, h2⟩
        by_cases e : x = t
        · exact .inr e
        · exact .inl ⟨by omega, h2⟩
    · rw [if_neg h]
      constructor
      · rintro (⟨h1, h2⟩ | h1)
        · exact ⟨by omega, h2⟩
        · cases h1
      · rintro ⟨h1, h2⟩
        refine .inl ⟨?_, h2⟩
        by_cases e : x = t
        · subst e; exact absurd h2 h
        · omega
theorem sgL_get {p : Nat → Bool} {t j : Nat} (h : j < (sgL p t).length) : (sgL p t).getD j 0 < t ∧ p ((sgL p t).getD j 0) = true := by
  refine (sgL_mem p t _).1 ?_
  rw [List.getD_eq_getElem?_getD, List.getElem?_eq_getElem h]
  exact List.getElem_mem h
/-- The one that is opened is free. -/
theorem newOp_free {L : Lay} {S : St} {G : Sg} (h : 0 < (freesL L S G).length) : newOp L S G < L.n ∧ freeB L S G (newOp L S G) = true := by
  have key : ∀ i, i < (freesL L S G).length → leastF S.wear (fun j => (freesL L S G).getD j 0) i < L.n ∧ freeB L S G (leastF S.wear (fun j => (freesL L S G).getD j 0) i) = true := by
    intro i
    induction i with
    | zero => exact fun hi => sgL_get hi
    | succ i ih =>
      intro hi
      show (if _ then _ else _) < L.n ∧ freeB L S G (if _ then _ else _) = true
      split
      · exact sgL_get hi
      · exact ih (by omega)
  exact key _ (by omega)
theorem free_blanks {L : Lay} {S : St} {G : Sg} {s : Nat} (h : freeB L S G s = true) : (blL S s L.m).length = L.m := by
  unfold freeB at h
  rw [Bool.and_eq_true, beq_iff_eq] at h
  exact_mod_cast h.2

theorem Lg.besides {B : Nat} {w w' : World} {lp : Nat} {L : Lay} {S : St} {hv : Value} {G : Sg} {F : Nat → Prop} (h : Lg B w lp L S hv G) (hs : Beside F w w') (hF : ∀ k, footG lp L hv k → ¬ F k) : Lg B w' lp L S hv G :=
  ⟨⟨h.ch.pow.beside hs (hF _ (.inr (.inl rfl))), h.ch.chip.beside hs (hF _ (.inr (.inr (.inl rfl)))), h.ch.segs.beside hs (hF _ (.inr (.inr (.inr (.inl rfl))))), fun i hi => (h.ch.pages i hi).beside hs (hF _ (.inr (.inr (.inr (.inr (.inl ⟨i, hi, rfl⟩)))))), own_beside h.ch.hist hs (fun k e => hF k (.inr (.inr (.inr (.inr (.inr e)))))), h.ch.inj, h.ch.far, h.ch.low, h.ch.room, h.ch.byte, h.ch.tall⟩, h.log.beside hs (hF _ (.inl rfl)), h.lo, h.up, h.wide, h.opn⟩
theorem addr_zero_row (w : World) : RowAt (w.alloc (.cells #[.int .i64 0, .int .i64 0] 34)) w.heap.size 34 #[.int .i64 0, .int .i64 0] := RowAt.new _ _ _

set_option maxHeartbeats 2000000 in
set_option maxRecDepth 8000 in
theorem next_fullA (B lp : Nat) (L : Lay) (S : St) (hv : Value) (G : Sg) (r : Int) (w : World) (h : Hid (Lg B w lp L S hv G)) (hop : G.op = -1) (hf : fullB L S G r = true) :
    Calls Tryz.prog 19 #[.pointer (some ⟨lp, 0, none⟩), .int .i64 r] w fun e w' => e = .returned (.tuple #[.agg #[.int .i64 0, .int .i64 0], .int .i64 2]) ∧ Below w.heap.size w w' := by
  have b1 : Below w.heap.size w (w.alloc (.cells #[.int .i64 0, .int .i64 0] 34)) := (Below.refl _ _).alloc (Nat.le_refl _) _
  have r1 := Lib.hid (RowAt.new w 34 #[.int .i64 0, .int .i64 0])
  have h1 := Lib.hid (h.out.after b1)
  obtain ⟨q, hq⟩ : ∃ q, Hid (q = w.heap.size) := ⟨_, rfl⟩
  rw [← hq.out] at r1 b1
  have c2 := h1.out.l2
  rw [hop] at c2
  have SG := Lib.hid (segs_free B lp L S hv G _ h1)
  go_enter Tryz.func19, Tryz.ntmps19
  go_wp2_with fail
  rw [← hq.out]
  generalize w.alloc (.cells #[.int .i64 0, .int .i64 0] 34) = w1 at *
  have h2 := h1
  have r2 := r1
  have b2 := b1
  clear h1 r1 b1 c2 h
  refine SG.out.mono ?_
  rintro e w3 ⟨a, c, rfl, hs3, b3⟩
  have r3 := Lib.hid (r2.out.below b3 r2.out.lt)
  have b4 := b2.trans (b3.mono (by have := b2.size; have := hq.out; omega))
  clear SG h2 r2 b2 b3 hs3
  have hfl : decide ((((sgL (freeB L S G) L.n).length : Nat) : Int) ≤ max r 0) = true := hf
  clear hf
  generalize (sgL (freeB L S G) L.n).length = k at *
  go_wp2_with (first | (refine wpList_store_row rfl 34 _ _ rfl q #[.int .i64 0, .int .i64 0] rfl rfl 34 _ r3.out (size_addr _ rfl) rfl (by simp [Value.oneCell']) ?_))
  refine bodyPost_ret (v := .tuple #[.agg #[.int .i64 0, .int .i64 0], .int .i64 2]) ?_ rfl ⟨rfl, by rw [← hq.out]; exact below_setRow' b4 (Nat.le_refl _) _⟩
  exact results_row_one Tryz.results19 _ _ q 34 #[.int .i64 0, .int .i64 0] (0, 0) _ rfl (r3.out.setRow _) Tryz.underlying34 rfl (size_addr _ rfl)

set_option maxHeartbeats 2000000 in
set_option maxRecDepth 8000 in
theorem next_fullB (B lp : Nat) (L : Lay) (S : St) (hv : Value) (G : Sg) (r : Int) (w : World) (h : Hid (Lg B w lp L S hv G)) (s : Nat) (hs : s < L.n) (hop : G.op = (s : Int)) (hl : (blL S s L.m).length = 0) (hf : fullB L S G r = true) :
    Calls Tryz.prog 19 #[.pointer (some ⟨lp, 0, none⟩), .int .i64 r] w fun e w' => e = .returned (.tuple #[.agg #[.int .i64 0, .int .i64 0], .int .i64 2]) ∧ Below w.heap.size w w' := by
  have b1 : Below w.heap.size w (w.alloc (.cells #[.int .i64 0, .int .i64 0] 34)) := (Below.refl _ _).alloc (Nat.le_refl _) _
  have r1 := Lib.hid (RowAt.new w 34 #[.int .i64 0, .int .i64 0])
  have h1 := Lib.hid (h.out.after b1)
  obtain ⟨q, hq⟩ : ∃ q, Hid (q = w.heap.size) := ⟨_, rfl⟩
  rw [← hq.out] at r1 b1
  have c2 := h1.out.l2
  rw [hop] at c2
  have LF := Lib.hid (left_any B lp L S hv G s hs _ h1)
  rw [hl] at LF
  have nm : ((s : Int) == -1) = false := by rw [beq_eq_false_iff_ne]; omega
  go_enter Tryz.func19, Tryz.ntmps19
  go_wp2_with fail
  rw [← hq.out]
  generalize w.alloc (.cells #[.int .i64 0, .int .i64 0] 34) = w1 at *
  refine LF.out.mono ?_
  rintro e w2 ⟨rfl, bl⟩
  have h2 := Lib.hid (h1.out.after bl)
  have r2 := Lib.hid (r1.out.below bl r1.out.lt)
  have b2 := b1.trans (bl.mono (by have := b1.size; have := hq.out; omega))
  have SG := Lib.hid (segs_free B lp L S hv G w2 h2)
  clear LF h1 r1 b1 bl c2 h nm
  go_wp2_with fail
  refine SG.out.mono ?_
  rintro e w3 ⟨a, c, rfl, hs3, b3⟩
  have r3 := Lib.hid (r2.out.below b3 r2.out.lt)
  have b4 := b2.trans (b3.mono (by have := b2.size; have := hq.out; omega))
  clear SG h2 r2 b2 b3 hs3
  have hfl : decide ((((sgL (freeB L S G) L.n).length : Nat) : Int) ≤ max r 0) = true := hf
  clear hf
  generalize (sgL (freeB L S G) L.n).length = k at *
  go_wp2_with (first | (refine wpList_store_row rfl 34 _ _ rfl q #[.int .i64 0, .int .i64 0] rfl rfl 34 _ r3.out (size_addr _ rfl) rfl (by simp [Value.oneCell']) ?_))
  refine bodyPost_ret (v := .tuple #[.agg #[.int .i64 0, .int .i64 0], .int .i64 2]) ?_ rfl ⟨rfl, by rw [← hq.out]; exact below_setRow' b4 (Nat.le_refl _) _⟩
  exact results_row_one Tryz.results19 _ _ q 34 #[.int .i64 0, .int .i64 0] (0, 0) _ rfl (r3.out.setRow _) Tryz.underlying34 rfl (size_addr _ rfl)

set_option maxHeartbeats 2000000 in
set_option maxRecDepth 8000 in
theorem next_same (B lp : Nat) (L : Lay) (S : St) (hv : Value) (G : Sg) (r : Int) (w : World) (h : Hid (Lg B w lp L S hv G)) (s : Nat) (hs : s < L.n) (hop : G.op = (s : Int)) (hl : (blL S s L.m).length ≠ 0) :
    Calls Tryz.prog 19 #[.pointer (some ⟨lp, 0, none⟩), .int .i64 r] w fun e w' => e = .returned (.tuple #[.agg #[.int .i64 (s : Int), .int .i64 (firstB L S s : Int)], .int .i64 0]) ∧ Hid (Lg B w' lp L S hv (G)) ∧ GoesG lp L hv w hv w' := by
  have b1 : Below w.heap.size w (w.alloc (.cells #[.int .i64 0, .int .i64 0] 34)) := (Below.refl _ _).alloc (Nat.le_refl _) _
  have r1 := Lib.hid (RowAt.new w 34 #[.int .i64 0, .int .i64 0])
  have h1 := Lib.hid (h.out.after b1)
  obtain ⟨q, hq⟩ : ∃ q, Hid (q = w.heap.size) := ⟨_, rfl⟩
  rw [← hq.out] at r1 b1
  have c2 := h1.out.l2
  rw [hop] at c2
  have LF := Lib.hid (left_any B lp L S hv G s hs _ h1)
  obtain ⟨k1, hk1⟩ : ∃ k1, Hid ((blL S s L.m).length = k1) := ⟨_, rfl⟩
  have hkp : ((k1 : Int) == 0) = false := by rw [beq_eq_false_iff_ne]; have := hk1.out; omega
  rw [hk1.out] at LF
  have nm : ((s : Int) == -1) = false := by rw [beq_eq_false_iff_ne]; omega
  go_enter Tryz.func19, Tryz.ntmps19
  go_wp2_with fail
  rw [← hq.out]
  generalize w.alloc (.cells #[.int .i64 0, .int .i64 0] 34) = w1 at *
  refine LF.out.mono ?_
  rintro e w5 ⟨rfl, bl⟩
  have h5 := Lib.hid (h1.out.after bl)
  have r5 := Lib.hid (r1.out.below bl r1.out.lt)
  have u5' : Below q w w5 := b1.trans (bl.mono (by have := b1.size; have := hq.out; omega))
  have g5 : GoesG lp L hv w hv w5 := .of_below (by rw [← hq.out]; exact u5')
  have u5 : q ≤ w5.heap.size := by have := u5'.size; have := hq.out; omega
  clear u5'
  have c2 := h5.out.l2
  rw [hop] at c2
  clear LF h1 r1 b1 bl
  obtain ⟨G', hG'⟩ : ∃ G', Hid (G = G') := ⟨_, rfl⟩
  rw [hG'.out] at h5
  obtain ⟨k0, hk0⟩ : ∃ k0, Hid ((blL S s L.m).length = k0) := ⟨_, rfl⟩
  obtain ⟨t, ht⟩ : ∃ t, Hid (firstB L S s = t) := ⟨_, rfl⟩
  have BL := Lib.hid (blanks_any lp (s : Int) w5)
  go_wp2_with fail
  refine BL.out.mono ?_
  rintro e w6 ⟨rfl, x1, x2, z6, b6⟩
  have h6 := Lib.hid (h5.out.after b6)
  have r6 := Lib.hid (r5.out.below b6 r5.out.lt)
  have g6 := g5.below b6
  have u6 := Nat.le_trans u5 b6.size
  clear BL h5 r5 g5 u5 c2
  obtain ⟨A, hA⟩ : ∃ A : Nat → Int × Int, Hid (A = fun j => ((s : Int), (((blL S s L.m).getD j 0 : Nat) : Int))) := ⟨_, rfl⟩
  have z6' := Lib.hid z6
  have CO := Lib.hid (collect_any 72 #[.pointer (some ⟨w5.heap.size, 0, none⟩), .pointer (some ⟨w5.heap.size + 1, 0, none⟩)] (blL S s L.m).length A (by have := blL_length S s L.m; have := h6.out.ch.room.2.2.2; omega) (Lib.hid (enters_of Tryz.func72 (by kernel_rfl) rfl)) w6 (fun w1 hb1 => by
    rw [hA.out]
    exact blanks_seq B lp L S hv G' s hs w5.heap.size _ _ w1 ⟨h6.out.after hb1, x1.out.below hb1 x1.out.lt, x2.out.below hb1 x2.out.lt⟩ ⟨⟨by have := x1.out.lt; omega, by have := x1.out.lt; omega⟩, ⟨by have := x2.out.lt; omega, by have := x2.out.lt; omega⟩, fun j hj => by have := (h6.out.base j hj).2; exact ⟨by omega, by omega⟩⟩))
  rw [hk0.out] at CO hl
  clear x1 x2 z6
  go_wp2_with fail
  refine CO.out.mono ?_
  rintro e w7 ⟨a7, c7, rfl, s7, b7⟩
  have r7 := Lib.hid (r6.out.below b7 r6.out.lt)
  have h7 := Lib.hid (h6.out.after b7)
  have g7 := g6.below b7
  have k0p : 0 < k0 := by omega
  have e0 : Hid (A 0 = ((s : Int), (t : Int))) := by
    unfold Hid
    rw [hA.out, ← ht.out]
    rfl
  have GA := fun (o : Oper) (a : Act) (x : Operand) (ho : o.op = .load 34 x) (hx : a.eval x = .pointer (some (elV a7 (0 * 2)))) => get_addr s7.out k0p ho hx
  rw [e0.out] at GA
  replace GA := Lib.hid GA
  clear CO h6 r6 g6 u6 b7
  have l0 : (0 : Int) < (k0 : Int) := by omega
  go_wp2_with (first | (refine wpList_known rfl (at_addrs s7.out k0p rfl rfl rfl rfl _) ?_) | (refine wpList_known rfl (GA.out _ _ _ rfl rfl) ?_) | (refine wpList_store_row rfl 34 _ _ rfl q #[.int .i64 (s : Int), .int .i64 (t : Int)] rfl rfl 34 _ r7.out (size_addr _ rfl) rfl (by simp [Value.oneCell']) ?_))
  have h8 : Lg B (w7.setRow q #[.int .i64 (s : Int), .int .i64 (t : Int)]) lp L S hv G' := h7.out.besides (F := fun k => k = q) ((Beside.refl (fun k => k = q) w7).setRow (p := q) (.inl rfl) _) (fun k hk e => by have := (h.out.base k hk).2; have := hq.out; have e' : k = q := e; omega)
  have g8 : GoesG lp L hv w hv (w7.setRow q #[.int .i64 (s : Int), .int .i64 (t : Int)]) := ⟨g7.side.setRow (.inr (by rw [hq.out]; exact Nat.le_refl _)) _, g7.mine⟩
  refine bodyPost_ret (v := .tuple #[.agg #[.int .i64 (s : Int), .int .i64 (t : Int)], .int .i64 0]) ?_ rfl ⟨by rw [ht.out], by rw [hG'.out]; exact h8, g8⟩
  exact results_row_one Tryz.results19 _ _ q 34 #[.int .i64 (s : Int), .int .i64 (t : Int)] (0, 0) _ rfl (r7.out.setRow _) Tryz.underlying34 rfl (size_addr _ rfl)

set_option maxHeartbeats 2000000 in
set_option maxRecDepth 8000 in
theorem next_openA (B lp : Nat) (L : Lay) (S : St) (hv : Value) (G : Sg) (r : Int) (w : World) (h : Hid (Lg B w lp L S hv G)) (hop : G.op = -1) (hf : fullB L S G r = false) :
    Calls Tryz.prog 19 #[.pointer (some ⟨lp, 0, none⟩), .int .i64 r] w fun e w' => e = .returned (.tuple #[.agg #[.int .i64 (newOp L S G : Int), .int .i64 (firstB L S (newOp L S G) : Int)], .int .i64 0]) ∧ Hid (Lg B w' lp L S hv ({ G with op := (newOp L S G : Nat) })) ∧ GoesG lp L hv w hv w' := by
  have b1 : Below w.heap.size w (w.alloc (.cells #[.int .i64 0, .int .i64 0] 34)) := (Below.refl _ _).alloc (Nat.le_refl _) _
  have r1 := Lib.hid (RowAt.new w 34 #[.int .i64 0, .int .i64 0])
  have h1 := Lib.hid (h.out.after b1)
  obtain ⟨q, hq⟩ : ∃ q, Hid (q = w.heap.size) := ⟨_, rfl⟩
  rw [← hq.out] at r1 b1
  have c2 := h1.out.l2
  rw [hop] at c2
  have SG := Lib.hid (segs_free B lp L S hv G _ h1)
  go_enter Tryz.func19, Tryz.ntmps19
  go_wp2_with fail
  rw [← hq.out]
  generalize w.alloc (.cells #[.int .i64 0, .int .i64 0] 34) = w1 at *
  have h2 := h1
  have r2 := r1
  have b2 := b1
  clear h1 r1 b1 c2
  refine SG.out.mono ?_
  rintro e w3 ⟨a, c, rfl, hs3, b3⟩
  have h3 := Lib.hid (h2.out.after b3)
  have r3 := Lib.hid (r2.out.below b3 r2.out.lt)
  have b4 := b2.trans (b3.mono (by have := b2.size; have := hq.out; omega))
  have hfl : decide ((((sgL (freeB L S G) L.n).length : Nat) : Int) ≤ max r 0) = false := hf
  have hk0 : 0 < (freesL L S G).length := by
    have h1 := of_decide_eq_false hf
    omega
  have nf := newOp_free hk0
  have LE := Lib.hid (least_any B lp L S hv G a (freesL L S G).length c hk0 (by have := sgL_length (freeB L S G) L.n; have := h.out.ch.room.2.1; unfold freesL; omega) (fun j => (freesL L S G).getD j 0) (Lib.hid fun j hj => (sgL_get hj).1) w3 h3 hs3)
  obtain ⟨s, hse⟩ : ∃ s, Hid (s = newOp L S G) := ⟨_, rfl⟩
  rw [show leastF S.wear (fun j => (freesL L S G).getD j 0) ((freesL L S G).length - 1) = newOp L S G from rfl, ← hse.out] at LE
  rw [← hse.out] at nf
  have hs := nf.1
  have hl : (blL S s L.m).length ≠ 0 := by rw [free_blanks nf.2]; have := h.out.ch.room.2.2.1; omega
  clear SG h2 r2 b2 b3 hs3 nf hf hk0
  unfold freesL at LE
  generalize (sgL (freeB L S G) L.n).length = k at *
  have c2 := h3.out.l2
  have f3 := h3.out.log.free 2
  go_wp2_with fail
  refine LE.out.mono ?_
  rintro e w4 ⟨rfl, b5⟩
  have h4 := Lib.hid (h3.out.after b5)
  have r4 := Lib.hid (r3.out.below b5 r3.out.lt)
  have b6 := b4.trans (b5.mono (by have := b4.size; have := hq.out; omega))
  have f4 := h4.out.log.free 2
  have c4 := h4.out.l2
  have ap : Apart lp w4 (w4.setCell ⟨lp, 2, none⟩ (.int .i64 (s : Int))) := (Apart.refl _ _).setCell h4.out.log _
  have rw4 := h4.out.log.set 2 (.int .i64 (s : Int))
  rw [logV_op] at rw4
  have TR := h4.out.turn (G' := { G with op := (s : Int) }) ap rw4 (.inr ⟨s, hs, rfl⟩)
  have r5 : Hid (RowAt (w4.setCell ⟨lp, 2, none⟩ (.int .i64 (s : Int))) q 34 #[.int .i64 0, .int .i64 0]) := ap.row r4.out (by have := (h.out.base lp (.inl rfl)).2; have := hq.out; omega)
  have g5 : GoesG lp L hv w hv (w4.setCell ⟨lp, 2, none⟩ (.int .i64 (s : Int))) := (GoesG.of_below (by rw [← hq.out]; exact b6)).trans TR.2
  obtain ⟨G', hG'⟩ : ∃ G' : Sg, Hid (({ G with op := (s : Int) } : Sg) = G') := ⟨_, Lib.hid rfl⟩
  have h5 := Lib.hid TR.1
  rw [hG'.out] at h5
  have cz : (w4.setCell ⟨lp, 2, none⟩ (.int .i64 (s : Int))).cell? ⟨lp, 2, none⟩ = some (.int .i64 (s : Int)) := by
    have := h5.out.l2
    rwa [← hG'.out] at this
  have hz5 : (w4.setCell ⟨lp, 2, none⟩ (.int .i64 (s : Int))).heap.size = w4.heap.size := by simp [World.setCell]
  have u5z : q ≤ (w4.setCell ⟨lp, 2, none⟩ (.int .i64 (s : Int))).heap.size := by rw [hz5]; have := b6.size; have := hq.out; omega
  clear LE h3 r3 b4 b5 c2 f3 ap rw4 TR h4 r4 b6
  go_wp2_with fail
  generalize w4.setCell ⟨lp, 2, none⟩ (.int .i64 (s : Int)) = w5 at *
  have u5 := u5z
  clear u5z hz5 f4 c4
  obtain ⟨k0, hk0⟩ : ∃ k0, Hid ((blL S s L.m).length = k0) := ⟨_, rfl⟩
  obtain ⟨t, ht⟩ : ∃ t, Hid (firstB L S s = t) := ⟨_, rfl⟩
  have BL := Lib.hid (blanks_any lp (s : Int) w5)
  refine BL.out.mono ?_
  rintro e w6 ⟨rfl, x1, x2, z6, b6⟩
  have h6 := Lib.hid (h5.out.after b6)
  have r6 := Lib.hid (r5.out.below b6 r5.out.lt)
  have g6 := g5.below b6
  have u6 := Nat.le_trans u5 b6.size
  clear BL h5 r5 g5 u5 cz
  obtain ⟨A, hA⟩ : ∃ A : Nat → Int × Int, Hid (A = fun j => ((s : Int), (((blL S s L.m).getD j 0 : Nat) : Int))) := ⟨_, rfl⟩
  have z6' := Lib.hid z6
  have CO := Lib.hid (collect_any 72 #[.pointer (some ⟨w5.heap.size, 0, none⟩), .pointer (some ⟨w5.heap.size + 1, 0, none⟩)] (blL S s L.m).length A (by have := blL_length S s L.m; have := h6.out.ch.room.2.2.2; omega) (Lib.hid (enters_of Tryz.func72 (by kernel_rfl) rfl)) w6 (fun w1 hb1 => by
    rw [hA.out]
    exact blanks_seq B lp L S hv G' s hs w5.heap.size _ _ w1 ⟨h6.out.after hb1, x1.out.below hb1 x1.out.lt, x2.out.below hb1 x2.out.lt⟩ ⟨⟨by have := x1.out.lt; omega, by have := x1.out.lt; omega⟩, ⟨by have := x2.out.lt; omega, by have := x2.out.lt; omega⟩, fun j hj => by have := (h6.out.base j hj).2; exact ⟨by omega, by omega⟩⟩))
  rw [hk0.out] at CO hl
  clear x1 x2 z6
  go_wp2_with fail
  refine CO.out.mono ?_
  rintro e w7 ⟨a7, c7, rfl, s7, b7⟩
  have r7 := Lib.hid (r6.out.below b7 r6.out.lt)
  have h7 := Lib.hid (h6.out.after b7)
  have g7 := g6.below b7
  have k0p : 0 < k0 := by omega
  have e0 : Hid (A 0 = ((s : Int), (t : Int))) := by
    unfold Hid
    rw [hA.out, ← ht.out]
    rfl
  have GA := fun (o : Oper) (a : Act) (x : Operand) (ho : o.op = .load 34 x) (hx : a.eval x = .pointer (some (elV a7 (0 * 2)))) => get_addr s7.out k0p ho hx
  rw [e0.out] at GA
  replace GA := Lib.hid GA
  clear CO h6 r6 g6 u6 b7
  have l0 : (0 : Int) < (k0 : Int) := by omega
  go_wp2_with (first | (refine wpList_known rfl (at_addrs s7.out k0p rfl rfl rfl rfl _) ?_) | (refine wpList_known rfl (GA.out _ _ _ rfl rfl) ?_) | (refine wpList_store_row rfl 34 _ _ rfl q #[.int .i64 (s : Int), .int .i64 (t : Int)] rfl rfl 34 _ r7.out (size_addr _ rfl) rfl (by simp [Value.oneCell']) ?_))
  have h8 : Lg B (w7.setRow q #[.int .i64 (s : Int), .int .i64 (t : Int)]) lp L S hv G' := h7.out.besides (F := fun k => k = q) ((Beside.refl (fun k => k = q) w7).setRow (p := q) (.inl rfl) _) (fun k hk e => by have := (h.out.base k hk).2; have := hq.out; have e' : k = q := e; omega)
  have g8 : GoesG lp L hv w hv (w7.setRow q #[.int .i64 (s : Int), .int .i64 (t : Int)]) := ⟨g7.side.setRow (.inr (by rw [hq.out]; exact Nat.le_refl _)) _, g7.mine⟩
  refine bodyPost_ret (v := .tuple #[.agg #[.int .i64 (s : Int), .int .i64 (t : Int)], .int .i64 0]) ?_ rfl ⟨by rw [← hse.out, ht.out], by rw [← hse.out, hG'.out]; exact h8, g8⟩
  exact results_row_one Tryz.results19 _ _ q 34 #[.int .i64 (s : Int), .int .i64 (t : Int)] (0, 0) _ rfl (r7.out.setRow _) Tryz.underlying34 rfl (size_addr _ rfl)

set_option maxHeartbeats 2000000 in
set_option maxRecDepth 8000 in
theorem next_openB (B lp : Nat) (L : Lay) (S : St) (hv : Value) (G : Sg) (r : Int) (w : World) (h : Hid (Lg B w lp L S hv G)) (s0 : Nat) (hs0 : s0 < L.n) (hop : G.op = (s0 : Int)) (hl0 : (blL S s0 L.m).length = 0) (hf : fullB L S G r = false) :
    Calls Tryz.prog 19 #[.pointer (some ⟨lp, 0, none⟩), .int .i64 r] w fun e w' => e = .returned (.tuple #[.agg #[.int .i64 (newOp L S G : Int), .int .i64 (firstB L S (newOp L S G) : Int)], .int .i64 0]) ∧ Hid (Lg B w' lp L S hv ({ G with op := (newOp L S G : Nat) })) ∧ GoesG lp L hv w hv w' := by
  have b1 : Below w.heap.size w (w.alloc (.cells #[.int .i64 0, .int .i64 0] 34)) := (Below.refl _ _).alloc (Nat.le_refl _) _
  have r1 := Lib.hid (RowAt.new w 34 #[.int .i64 0, .int .i64 0])
  have h1 := Lib.hid (h.out.after b1)
  obtain ⟨q, hq⟩ : ∃ q, Hid (q = w.heap.size) := ⟨_, rfl⟩
  rw [← hq.out] at r1 b1
  have c2 := h1.out.l2
  rw [hop] at c2
  have LF := Lib.hid (left_any B lp L S hv G s0 hs0 _ h1)
  rw [hl0] at LF
  have nm : ((s0 : Int) == -1) = false := by rw [beq_eq_false_iff_ne]; omega
  go_enter Tryz.func19, Tryz.ntmps19
  go_wp2_with fail
  rw [← hq.out]
  generalize w.alloc (.cells #[.int .i64 0, .int .i64 0] 34) = w1 at *
  refine LF.out.mono ?_
  rintro e w2 ⟨rfl, bl⟩
  have h2 := Lib.hid (h1.out.after bl)
  have r2 := Lib.hid (r1.out.below bl r1.out.lt)
  have b2 := b1.trans (bl.mono (by have := b1.size; have := hq.out; omega))
  have SG := Lib.hid (segs_free B lp L S hv G w2 h2)
  clear LF h1 r1 b1 bl c2 nm
  go_wp2_with fail
  refine SG.out.mono ?_
  rintro e w3 ⟨a, c, rfl, hs3, b3⟩
  have h3 := Lib.hid (h2.out.after b3)
  have r3 := Lib.hid (r2.out.below b3 r2.out.lt)
  have b4 := b2.trans (b3.mono (by have := b2.size; have := hq.out; omega))
  have hfl : decide ((((sgL (freeB L S G) L.n).length : Nat) : Int) ≤ max r 0) = false := hf
  have hk0 : 0 < (freesL L S G).length := by
    have h1 := of_decide_eq_false hf
    omega
  have nf := newOp_free hk0
  have LE := Lib.hid (least_any B lp L S hv G a (freesL L S G).length c hk0 (by have := sgL_length (freeB L S G) L.n; have := h.out.ch.room.2.1; unfold freesL; omega) (fun j => (freesL L S G).getD j 0) (Lib.hid fun j hj => (sgL_get hj).1) w3 h3 hs3)
  obtain ⟨s, hse⟩ : ∃ s, Hid (s = newOp L S G) := ⟨_, rfl⟩
  rw [show leastF S.wear (fun j => (freesL L S G).getD j 0) ((freesL L S G).length - 1) = newOp L S G from rfl, ← hse.out] at LE
  rw [← hse.out] at nf
  have hs := nf.1
  have hl : (blL S s L.m).length ≠ 0 := by rw [free_blanks nf.2]; have := h.out.ch.room.2.2.1; omega
  clear SG h2 r2 b2 b3 hs3 nf hf hk0
  unfold freesL at LE
  generalize (sgL (freeB L S G) L.n).length = k at *
  have c2 := h3.out.l2
  have f3 := h3.out.log.free 2
  go_wp2_with fail
  refine LE.out.mono ?_
  rintro e w4 ⟨rfl, b5⟩
  have h4 := Lib.hid (h3.out.after b5)
  have r4 := Lib.hid (r3.out.below b5 r3.out.lt)
  have b6 := b4.trans (b5.mono (by have := b4.size; have := hq.out; omega))
  have f4 := h4.out.log.free 2
  have c4 := h4.out.l2
  have ap : Apart lp w4 (w4.setCell ⟨lp, 2, none⟩ (.int .i64 (s : Int))) := (Apart.refl _ _).setCell h4.out.log _
  have rw4 := h4.out.log.set 2 (.int .i64 (s : Int))
  rw [logV_op] at rw4
  have TR := h4.out.turn (G' := { G with op := (s : Int) }) ap rw4 (.inr ⟨s, hs, rfl⟩)
  have r5 : Hid (RowAt (w4.setCell ⟨lp, 2, none⟩ (.int .i64 (s : Int))) q 34 #[.int .i64 0, .int .i64 0]) := ap.row r4.out (by have := (h.out.base lp (.inl rfl)).2; have := hq.out; omega)
  have g5 : GoesG lp L hv w hv (w4.setCell ⟨lp, 2, none⟩ (.int .i64 (s : Int))) := (GoesG.of_below (by rw [← hq.out]; exact b6)).trans TR.2
  obtain ⟨G', hG'⟩ : ∃ G' : Sg, Hid (({ G with op := (s : Int) } : Sg) = G') := ⟨_, Lib.hid rfl⟩
  have h5 := Lib.hid TR.1
  rw [hG'.out] at h5
  have cz : (w4.setCell ⟨lp, 2, none⟩ (.int .i64 (s : Int))).cell? ⟨lp, 2, none⟩ = some (.int .i64 (s : Int)) := by
    have := h5.out.l2
    rwa [← hG'.out] at this
  have hz5 : (w4.setCell ⟨lp, 2, none⟩ (.int .i64 (s : Int))).heap.size = w4.heap.size := by simp [World.setCell]
  have u5z : q ≤ (w4.setCell ⟨lp, 2, none⟩ (.int .i64 (s : Int))).heap.size := by rw [hz5]; have := b6.size; have := hq.out; omega
  clear LE h3 r3 b4 b5 c2 f3 ap rw4 TR h4 r4 b6
  go_wp2_with fail
  generalize w4.setCell ⟨lp, 2, none⟩ (.int .i64 (s : Int)) = w5 at *
  have u5 := u5z
  clear u5z hz5 f4 c4
  obtain ⟨k0, hk0⟩ : ∃ k0, Hid ((blL S s L.m).length = k0) := ⟨_, rfl⟩
  obtain ⟨t, ht⟩ : ∃ t, Hid (firstB L S s = t) := ⟨_, rfl⟩
  have BL := Lib.hid (blanks_any lp (s : Int) w5)
  refine BL.out.mono ?_
  rintro e w6 ⟨rfl, x1, x2, z6, b6⟩
  have h6 := Lib.hid (h5.out.after b6)
  have r6 := Lib.hid (r5.out.below b6 r5.out.lt)
  have g6 := g5.below b6
  have u6 := Nat.le_trans u5 b6.size
  clear BL h5 r5 g5 u5 cz
  obtain ⟨A, hA⟩ : ∃ A : Nat → Int × Int, Hid (A = fun j => ((s : Int), (((blL S s L.m).getD j 0 : Nat) : Int))) := ⟨_, rfl⟩
  have z6' := Lib.hid z6
  have CO := Lib.hid (collect_any 72 #[.pointer (some ⟨w5.heap.size, 0, none⟩), .pointer (some ⟨w5.heap.size + 1, 0, none⟩)] (blL S s L.m).length A (by have := blL_length S s L.m; have := h6.out.ch.room.2.2.2; omega) (Lib.hid (enters_of Tryz.func72 (by kernel_rfl) rfl)) w6 (fun w1 hb1 => by
    rw [hA.out]
    exact blanks_seq B lp L S hv G' s hs w5.heap.size _ _ w1 ⟨h6.out.after hb1, x1.out.below hb1 x1.out.lt, x2.out.below hb1 x2.out.lt⟩ ⟨⟨by have := x1.out.lt; omega, by have := x1.out.lt; omega⟩, ⟨by have := x2.out.lt; omega, by have := x2.out.lt; omega⟩, fun j hj => by have := (h6.out.base j hj).2; exact ⟨by omega, by omega⟩⟩))
  rw [hk0.out] at CO hl
  clear x1 x2 z6
  go_wp2_with fail
  refine CO.out.mono ?_
  rintro e w7 ⟨a7, c7, rfl, s7, b7⟩
  have r7 := Lib.hid (r6.out.below b7 r6.out.lt)
  have h7 := Lib.hid (h6.out.after b7)
  have g7 := g6.below b7
  have k0p : 0 < k0 := by omega
  have e0 : Hid (A 0 = ((s : Int), (t : Int))) := by
    unfold Hid
    rw [hA.out, ← ht.out]
    rfl
  have GA := fun (o : Oper) (a : Act) (x : Operand) (ho : o.op = .load 34 x) (hx : a.eval x = .pointer (some (elV a7 (0 * 2)))) => get_addr s7.out k0p ho hx
  rw [e0.out] at GA
  replace GA := Lib.hid GA
  clear CO h6 r6 g6 u6 b7
  have l0 : (0 : Int) < (k0 : Int) := by omega
  go_wp2_with (first | (refine wpList_known rfl (at_addrs s7.out k0p rfl rfl rfl rfl _) ?_) | (refine wpList_known rfl (GA.out _ _ _ rfl rfl) ?_) | (refine wpList_store_row rfl 34 _ _ rfl q #[.int .i64 (s : Int), .int .i64 (t : Int)] rfl rfl 34 _ r7.out (size_addr _ rfl) rfl (by simp [Value.oneCell']) ?_))
  have h8 : Lg B (w7.setRow q #[.int .i64 (s : Int), .int .i64 (t : Int)]) lp L S hv G' := h7.out.besides (F := fun k => k = q) ((Beside.refl (fun k => k = q) w7).setRow (p := q) (.inl rfl) _) (fun k hk e => by have := (h.out.base k hk).2; have := hq.out; have e' : k = q := e; omega)
  have g8 : GoesG lp L hv w hv (w7.setRow q #[.int .i64 (s : Int), .int .i64 (t : Int)]) := ⟨g7.side.setRow (.inr (by rw [hq.out]; exact Nat.le_refl _)) _, g7.mine⟩
  refine bodyPost_ret (v := .tuple #[.agg #[.int .i64 (s : Int), .int .i64 (t : Int)], .int .i64 0]) ?_ rfl ⟨by rw [← hse.out, ht.out], by rw [← hse.out, hG'.out]; exact h8, g8⟩
  exact results_row_one Tryz.results19 _ _ q 34 #[.int .i64 (s : Int), .int .i64 (t : Int)] (0, 0) _ rfl (r7.out.setRow _) Tryz.underlying34 rfl (size_addr _ rfl)

end Go.Proofs.YtapebaoajknepaaGreatDoor
/-
  Contract: Append.
-/
namespace Go.Proofs.YtapebaoajknepaaGreatDoor
open Go.RowKit
set_option linter.unusedVariables false

/-- Which segment the next page is in, if there is one. -/
def nextS (L : Lay) (S : St) (G : Sg) (r : Int) : Option Nat := if needsB L S G = true then (if fullB L S G r = true then none else some (newOp L S G)) else some G.op.toNat

theorem next_no {B lp : Nat} {L : Lay} {S : St} {hv : Value} {G : Sg} {r : Int} (hx : nextS L S G r = none) (w : World) (h : Hid (Lg B w lp L S hv G)) :
    Calls Tryz.prog 19 #[.pointer (some ⟨lp, 0, none⟩), .int .i64 r] w fun e w' => e = .returned (.tuple #[.agg #[.int .i64 0, .int .i64 0], .int .i64 2]) ∧ Below w.heap.size w w' := by
  unfold nextS at hx
  split at hx
  · rename_i hn
    split at hx
    · rename_i hf
      rcases h.out.opn with ho | ⟨s, hs, ho⟩
      · exact next_fullA B lp L S hv G r w h ho hf
      · refine next_fullB B lp L S hv G r w h s hs ho ?_ hf
        unfold needsB at hn
        rw [ho, Bool.or_eq_true, beq_iff_eq, beq_iff_eq] at hn
        rcases hn with hn | hn
        · omega
        · exact hn
    · cases hx
  · cases hx
theorem next_yes {B lp : Nat} {L : Lay} {S : St} {hv : Value} {G : Sg} {r : Int} {s : Nat} (hx : nextS L S G r = some s) (w : World) (h : Hid (Lg B w lp L S hv G)) :
    Calls Tryz.prog 19 #[.pointer (some ⟨lp, 0, none⟩), .int .i64 r] w fun e w' => e = .returned (.tuple #[.agg #[.int .i64 (s : Int), .int .i64 (firstB L S s : Int)], .int .i64 0]) ∧ Hid (Lg B w' lp L S hv { G with op := (s : Int) }) ∧ GoesG lp L hv w hv w' := by
  unfold nextS at hx
  split at hx
  · rename_i hn
    split at hx
    · cases hx
    · rename_i hf
      obtain rfl := Option.some.inj hx
      have hf' : fullB L S G r = false := by simpa using hf
      rcases h.out.opn with ho | ⟨s, hs, ho⟩
      · exact next_openA B lp L S hv G r w h ho hf'
      · refine next_openB B lp L S hv G r w h s hs ho ?_ hf'
        unfold needsB at hn
        rw [ho, Bool.or_eq_true, beq_iff_eq, beq_iff_eq] at hn
        rcases hn with hn | hn
        · omega
        · exact hn
  · rename_i hn
    obtain rfl := Option.some.inj hx
    unfold needsB at hn
    rw [Bool.or_eq_true, beq_iff_eq, beq_iff_eq] at hn
    rcases h.out.opn with ho | ⟨s, hs, ho⟩
    · exact absurd (.inl ho) hn
    · have e1 : G.op.toNat = s := by omega
      rw [e1] at hn ⊢
      have e2 : ({ G with op := (s : Int) } : Sg) = G := by rw [← ho]
      rw [e2]
      exact next_same B lp L S hv G r w h s hs ho (fun e => hn (.inr e))

/-- Where the next page is: in a segment that there is, not programmed. -/
theorem nextS_at {L : Lay} {S : St} {G : Sg} {r : Int} {s : Nat} (hx : nextS L S G r = some s) (ho : G.op = -1 ∨ ∃ s, s < L.n ∧ G.op = (s : Int)) (hm : 0 < L.m) : s < L.n ∧ 0 < (blL S s L.m).length := by
  unfold nextS at hx
  split at hx
  · split at hx
    · cases hx
    · rename_i hf
      obtain rfl := Option.some.inj hx
      have hf' : fullB L S G r = false := by simpa using hf
      have h1 := of_decide_eq_false hf'
      have h2 := newOp_free (L := L) (S := S) (G := G) (by omega)
      exact ⟨h2.1, by rw [free_blanks h2.2]; exact hm⟩
  · rename_i hn
    obtain rfl := Option.some.inj hx
    unfold needsB at hn
    rw [Bool.or_eq_true, beq_iff_eq, beq_iff_eq] at hn
    rcases ho with ho | ⟨s, hs, ho⟩
    · exact absurd (.inl ho) hn
    · have e1 : G.op.toNat = s := by omega
      rw [e1] at hn ⊢
      exact ⟨hs, Nat.pos_of_ne_zero fun e => hn (.inr e)⟩
theorem blL_mem (S : St) (s : Nat) : ∀ t x, x ∈ blL S s t ↔ x < t ∧ isB (S.page s x) = false
  | 0, x => by simp [blL]
  | t + 1, x => by
    show x ∈ blL S s t ++ _ ↔ _
    rw [List.mem_append, blL_mem S s t x]
    by_cases h : isB (S.page s t) = true
    · rw [if_pos h]
      constructor
      · rintro (⟨h1, h2⟩ | h1)
        · exact ⟨by omega, h2⟩
        · cases h1
      · rintro ⟨h1, h2⟩
        refine .inl ⟨?_, h2⟩
        by_cases e : x = t
        · subst e; rw [h] at h2; cases h2
        · omega
    · rw [if_neg h, List.mem_singleton]
      have h' : isB (S.page s t) = false := by simpa using h
      constructor
      · rintro (⟨h1, h2⟩ | rfl)
        · exact ⟨by omega, h2⟩
        · exact ⟨by omega, h'⟩
      · rintro ⟨h1, h2⟩
        by_cases e : x = t
        · exact .inr e
        · exact .inl ⟨by omega, h2⟩
theorem firstB_at {L : Lay} {S : St} {s : Nat} (h : 0 < (blL S s L.m).length) : firstB L S s < L.m ∧ isB (S.page s (firstB L S s)) = false := by
  refine (blL_mem S s L.m _).1 ?_
  unfold firstB
  rw [List.getD_eq_getElem?_getD, List.getElem?_eq_getElem h]
  exact List.getElem_mem h

/-- A whole page is programmed as it is. -/
theorem pageT_whole {l : List UInt8} (h : l.length = 256) : pageT (bs l) 9223372036854775807 0 = bs l := by
  unfold pageT
  congr 1
  apply List.ext_getElem
  · rw [listB_length, h]
  · intro j h1 h2
    rw [listB_length] at h1
    have e : (bs l).data.toList = l := by simp [bs]
    simp only [listB, List.getElem_map, List.getElem_range]
    unfold pageN
    rw [if_pos (by omega), e]
    unfold byteL
    rw [List.getD_eq_getElem?_getD, List.getElem?_eq_getElem h2, Option.getD_some]
    exact UInt8.ofNat_toNat

theorem page_upd (P : Nat → Nat → ByteArray) (s f : Nat) (x : ByteArray) (i j : Nat) : updP P s (updS (P s) f x) i j = if i = s ∧ j = f then x else P i j := by
  unfold updP updS
  by_cases hi : i = s
  · subst hi
    by_cases hj : j = f
    · subst hj
      simp
    · simp [hj]
  · simp [hi]

/-- What Append leaves behind it. -/
def appS (L : Lay) (S : St) (k n s : Nat) (t : ByteArray) : St := prS (cntP (actS S true (S.left - 1))) s (firstB L S s) (bs (pageL k n t.data.toList))
def appG (G : Sg) (s : Nat) : Sg := { seq := G.seq + 1, op := (s : Int), worn := G.worn }

set_option maxHeartbeats 2000000 in
set_option maxRecDepth 8000 in
theorem app_kind (B lp : Nat) (L : Lay) (S : St) (hv : Value) (G : Sg) (k : Nat) (hk : k < 256) (t : ByteArray) (r : Int) (hq : Hid (G.seq < 18446744073709551615)) (w : World) (h : Hid (Lg B w lp L S hv G)) (hkr : Hid (KRow w)) (h0 : Hid (k = 0)) (ht : t.size ≤ 1000000) :
    Calls Tryz.prog 8 #[.pointer (some ⟨lp, 0, none⟩), .int .u8 (k : Int), .string t, .int .i64 r] w fun e w' => e = .returned (.tuple #[.agg #[.int .i64 0, .int .i64 0], .int .i64 1]) ∧ Below w.heap.size w w' := by
  have b1 : Below w.heap.size w (w.alloc (.cells #[.int .i64 0, .int .i64 0] 34)) := (Below.refl _ _).alloc (Nat.le_refl _) _
  have r1 := Lib.hid (RowAt.new w 34 #[.int .i64 0, .int .i64 0])
  have h1 := Lib.hid (h.out.after b1)
  obtain ⟨q, hqe⟩ : ∃ q, Hid (q = w.heap.size) := ⟨_, rfl⟩
  have k1 : Hid (KRow (w.alloc (.cells #[.int .i64 0, .int .i64 0] 34))) := hkr.out.below b1 hkr.out.1 b1.size
  rw [← hqe.out] at r1 b1
  have c1 := h1.out.l1
  have qlt : ∀ j, footG lp L hv j → j < q := fun j hj => by have := (h.out.base j hj).2; have := hqe.out; omega
  replace qlt := Lib.hid qlt
  have P := Lib.hid (put_any k G.seq hk (Lib.hid (by have := hq.out; omega)) t ht _ k1)
  have eS : Hid (putS k G.seq t = bs []) := by unfold Hid putS; rw [if_pos h0.out]
  have eE : Hid (putE k t = 1) := by unfold Hid putE; rw [if_pos h0.out]
  rw [eS.out, eE.out] at P
  clear eS eE hkr
  go_enter Tryz.func8, Tryz.ntmps8
  go_wp2_with fail
  rw [← hqe.out]
  generalize w.alloc (.cells #[.int .i64 0, .int .i64 0] 34) = w1 at *
  refine P.out.mono ?_
  rintro e w2 ⟨rfl, b2⟩
  have h2 := Lib.hid (h1.out.after b2)
  have r2 := Lib.hid (r1.out.below b2 r1.out.lt)
  have b3 := b1.trans (b2.mono (by have := b1.size; have := hqe.out; omega))
  clear P h1 r1 b1 b2 c1 k1
  clear h2
  go_wp2_with (refine wpList_store_row rfl 34 _ _ rfl q #[.int .i64 0, .int .i64 0] rfl rfl 34 _ r2.out (size_addr _ rfl) rfl (by simp [Value.oneCell']) ?_)
  refine bodyPost_ret (v := .tuple #[.agg #[.int .i64 0, .int .i64 0], .int .i64 1]) ?_ rfl ⟨rfl, by rw [← hqe.out]; exact below_setRow' b3 (Nat.le_refl _) _⟩
  exact results_row_one Tryz.results8 _ _ q 34 #[.int .i64 0, .int .i64 0] (0, 0) _ rfl (r2.out.setRow _) Tryz.underlying34 rfl (size_addr _ rfl)

set_option maxHeartbeats 2000000 in
set_option maxRecDepth 8000 in
theorem app_wide (B lp : Nat) (L : Lay) (S : St) (hv : Value) (G : Sg) (k : Nat) (hk : k < 256) (t : ByteArray) (r : Int) (hq : Hid (G.seq < 18446744073709551615)) (w : World) (h : Hid (Lg B w lp L S hv G)) (hkr : Hid (KRow w)) (h0 : k ≠ 0) (ht : t.size ≤ 1000000) (hw : 229 < t.size) :
    Calls Tryz.prog 8 #[.pointer (some ⟨lp, 0, none⟩), .int .u8 (k : Int), .string t, .int .i64 r] w fun e w' => e = .returned (.tuple #[.agg #[.int .i64 0, .int .i64 0], .int .i64 11]) ∧ Below w.heap.size w w' := by
  have b1 : Below w.heap.size w (w.alloc (.cells #[.int .i64 0, .int .i64 0] 34)) := (Below.refl _ _).alloc (Nat.le_refl _) _
  have r1 := Lib.hid (RowAt.new w 34 #[.int .i64 0, .int .i64 0])
  have h1 := Lib.hid (h.out.after b1)
  obtain ⟨q, hqe⟩ : ∃ q, Hid (q = w.heap.size) := ⟨_, rfl⟩
  have k1 : Hid (KRow (w.alloc (.cells #[.int .i64 0, .int .i64 0] 34))) := hkr.out.below b1 hkr.out.1 b1.size
  rw [← hqe.out] at r1 b1
  have c1 := h1.out.l1
  have qlt : ∀ j, footG lp L hv j → j < q := fun j hj => by have := (h.out.base j hj).2; have := hqe.out; omega
  replace qlt := Lib.hid qlt
  have P := Lib.hid (put_any k G.seq hk (Lib.hid (by have := hq.out; omega)) t ht _ k1)
  have eS : Hid (putS k G.seq t = bs []) := by unfold Hid putS; rw [if_neg h0, if_pos hw]
  have eE : Hid (putE k t = 11) := by unfold Hid putE; rw [if_neg h0, if_pos hw]
  rw [eS.out, eE.out] at P
  clear eS eE hkr
  go_enter Tryz.func8, Tryz.ntmps8
  go_wp2_with fail
  rw [← hqe.out]
  generalize w.alloc (.cells #[.int .i64 0, .int .i64 0] 34) = w1 at *
  refine P.out.mono ?_
  rintro e w2 ⟨rfl, b2⟩
  have h2 := Lib.hid (h1.out.after b2)
  have r2 := Lib.hid (r1.out.below b2 r1.out.lt)
  have b3 := b1.trans (b2.mono (by have := b1.size; have := hqe.out; omega))
  clear P h1 r1 b1 b2 c1 k1
  clear h2
  go_wp2_with (refine wpList_store_row rfl 34 _ _ rfl q #[.int .i64 0, .int .i64 0] rfl rfl 34 _ r2.out (size_addr _ rfl) rfl (by simp [Value.oneCell']) ?_)
  refine bodyPost_ret (v := .tuple #[.agg #[.int .i64 0, .int .i64 0], .int .i64 11]) ?_ rfl ⟨rfl, by rw [← hqe.out]; exact below_setRow' b3 (Nat.le_refl _) _⟩
  exact results_row_one Tryz.results8 _ _ q 34 #[.int .i64 0, .int .i64 0] (0, 0) _ rfl (r2.out.setRow _) Tryz.underlying34 rfl (size_addr _ rfl)

set_option maxHeartbeats 2000000 in
set_option maxRecDepth 8000 in
theorem app_full (B lp : Nat) (L : Lay) (S : St) (hv : Value) (G : Sg) (k : Nat) (hk : k < 256) (t : ByteArray) (r : Int) (hq : Hid (G.seq < 18446744073709551615)) (w : World) (h : Hid (Lg B w lp L S hv G)) (hkr : Hid (KRow w)) (h0 : k ≠ 0) (ht : t.size ≤ 229) (hx : nextS L S G r = none) :
    Calls Tryz.prog 8 #[.pointer (some ⟨lp, 0, none⟩), .int .u8 (k : Int), .string t, .int .i64 r] w fun e w' => e = .returned (.tuple #[.agg #[.int .i64 0, .int .i64 0], .int .i64 2]) ∧ Below w.heap.size w w' := by
  have b1 : Below w.heap.size w (w.alloc (.cells #[.int .i64 0, .int .i64 0] 34)) := (Below.refl _ _).alloc (Nat.le_refl _) _
  have r1 := Lib.hid (RowAt.new w 34 #[.int .i64 0, .int .i64 0])
  have h1 := Lib.hid (h.out.after b1)
  obtain ⟨q, hqe⟩ : ∃ q, Hid (q = w.heap.size) := ⟨_, rfl⟩
  have k1 : Hid (KRow (w.alloc (.cells #[.int .i64 0, .int .i64 0] 34))) := hkr.out.below b1 hkr.out.1 b1.size
  rw [← hqe.out] at r1 b1
  have c1 := h1.out.l1
  have qlt : ∀ j, footG lp L hv j → j < q := fun j hj => by have := (h.out.base j hj).2; have := hqe.out; omega
  replace qlt := Lib.hid qlt
  have P := Lib.hid (put_any k G.seq hk (Lib.hid (by have := hq.out; omega)) t (by omega) _ k1)
  have eS : Hid (putS k G.seq t = bs (pageL k G.seq t.data.toList)) := by unfold Hid putS; rw [if_neg h0, if_neg (by omega)]
  have eE : Hid (putE k t = 0) := by unfold Hid putE; rw [if_neg h0, if_neg (by omega)]
  rw [eS.out, eE.out] at P
  clear eS eE hkr
  go_enter Tryz.func8, Tryz.ntmps8
  go_wp2_with fail
  rw [← hqe.out]
  generalize w.alloc (.cells #[.int .i64 0, .int .i64 0] 34) = w1 at *
  refine P.out.mono ?_
  rintro e w2 ⟨rfl, b2⟩
  have h2 := Lib.hid (h1.out.after b2)
  have r2 := Lib.hid (r1.out.below b2 r1.out.lt)
  have b3 := b1.trans (b2.mono (by have := b1.size; have := hqe.out; omega))
  clear P h1 r1 b1 b2 c1 k1
  have N := Lib.hid (next_no hx w2 h2)
  generalize bs (pageL k G.seq t.data.toList) = pg at *
  go_wp2_with fail
  refine N.out.mono ?_
  rintro e w3 ⟨rfl, b4⟩
  have r3 := Lib.hid (r2.out.below b4 r2.out.lt)
  have b5 := b3.trans (b4.mono (by have := b3.size; have := hqe.out; omega))
  have b6 := b5.alloc (by have := b5.size; have := r3.out.lt; omega) (.cells #[.int .i64 0, .int .i64 0] 34)
  have r6 := Lib.hid (r3.out.alloc (.cells #[.int .i64 0, .int .i64 0] 34))
  clear N h2 r2 b3 b4 b5
  go_wp2_with (first | (refine wpList_store_row rfl 34 _ _ rfl w3.heap.size #[.int .i64 0, .int .i64 0] rfl rfl 34 _ (RowAt.new _ _ _) (size_addr _ rfl) rfl (by simp [Value.oneCell']) ?_; rw [World.setRow_alloc_new]) | (refine wpList_store_row rfl 34 _ _ rfl q #[.int .i64 0, .int .i64 0] rfl rfl 34 _ r6.out (size_addr _ rfl) rfl (by simp [Value.oneCell']) ?_))
  refine bodyPost_ret (v := .tuple #[.agg #[.int .i64 0, .int .i64 0], .int .i64 2]) ?_ rfl ⟨rfl, by rw [← hqe.out]; exact below_setRow' b6 (Nat.le_refl _) _⟩
  exact results_row_one Tryz.results8 _ _ q 34 #[.int .i64 0, .int .i64 0] (0, 0) _ rfl (r6.out.setRow _) Tryz.underlying34 rfl (size_addr _ rfl)

set_option maxHeartbeats 2000000 in
set_option maxRecDepth 8000 in
theorem app_yes (B lp : Nat) (L : Lay) (S : St) (hv : Value) (G : Sg) (k : Nat) (hk : k < 256) (t : ByteArray) (r : Int) (hq : Hid (G.seq < 18446744073709551615)) (w : World) (h : Hid (Lg B w lp L S hv G)) (hkr : Hid (KRow w)) (h0 : k ≠ 0) (ht : t.size ≤ 229) (s : Nat) (hx : nextS L S G r = some s) (lw : Low S) (hl : S.left ≠ 1) :
    Calls Tryz.prog 8 #[.pointer (some ⟨lp, 0, none⟩), .int .u8 (k : Int), .string t, .int .i64 r] w fun e w' => e = .returned (.tuple #[.agg #[.int .i64 (s : Int), .int .i64 (firstB L S s : Int)], .int .i64 0]) ∧ ∃ hv', Hid (Lg B w' lp L (appS L S k G.seq s t) hv' (appG G s)) ∧ GoesG lp L hv w hv' w' := by
  have b1 : Below w.heap.size w (w.alloc (.cells #[.int .i64 0, .int .i64 0] 34)) := (Below.refl _ _).alloc (Nat.le_refl _) _
  have r1 := Lib.hid (RowAt.new w 34 #[.int .i64 0, .int .i64 0])
  have h1 := Lib.hid (h.out.after b1)
  obtain ⟨q, hqe⟩ : ∃ q, Hid (q = w.heap.size) := ⟨_, rfl⟩
  have k1 : Hid (KRow (w.alloc (.cells #[.int .i64 0, .int .i64 0] 34))) := hkr.out.below b1 hkr.out.1 b1.size
  rw [← hqe.out] at r1 b1
  have c1 := h1.out.l1
  have qlt : ∀ j, footG lp L hv j → j < q := fun j hj => by have := (h.out.base j hj).2; have := hqe.out; omega
  replace qlt := Lib.hid qlt
  have P := Lib.hid (put_any k G.seq hk (Lib.hid (by have := hq.out; omega)) t (by omega) _ k1)
  have eS : Hid (putS k G.seq t = bs (pageL k G.seq t.data.toList)) := by unfold Hid putS; rw [if_neg h0, if_neg (by omega)]
  have eE : Hid (putE k t = 0) := by unfold Hid putE; rw [if_neg h0, if_neg (by omega)]
  rw [eS.out, eE.out] at P
  clear eS eE hkr
  go_enter Tryz.func8, Tryz.ntmps8
  go_wp2_with fail
  rw [← hqe.out]
  generalize w.alloc (.cells #[.int .i64 0, .int .i64 0] 34) = w1 at *
  refine P.out.mono ?_
  rintro e w2 ⟨rfl, b2⟩
  have h2 := Lib.hid (h1.out.after b2)
  have r2 := Lib.hid (r1.out.below b2 r1.out.lt)
  have b3 := b1.trans (b2.mono (by have := b1.size; have := hqe.out; omega))
  clear P h1 r1 b1 b2 c1 k1
  have N := Lib.hid (next_yes hx w2 h2)
  have sa := nextS_at hx h.out.opn h.out.ch.room.2.2.1
  have fb := firstB_at sa.2
  have hs := sa.1
  have pl : (bs (pageL k G.seq t.data.toList)).size = 256 := by rw [bs_size, pageL_length (by rw [ba_sizeL]; omega)]
  have PW := pageT_whole (pageL_length (k := k) (n := G.seq) (T := t.data.toList) (by rw [ba_sizeL]; omega))
  have PO := prog_ok (n := L.n) (m := L.m) (i := s) (j := firstB L S s) (S := S) (s := bs (pageL k G.seq t.data.toList)) h.out.up hs fb.1 (by omega) fb.2 hl
  rw [PW] at PO
  have eA : Hid (progS L.n L.m S (s : Int) (firstB L S s : Int) (bs (pageL k G.seq t.data.toList)) = appS L S k G.seq s t) := PO.2
  have eE : Hid (progE L.n L.m S (s : Int) (firstB L S s : Int) (bs (pageL k G.seq t.data.toList)) = 0) := PO.1
  obtain ⟨S', hS'⟩ : ∃ S', Hid (appS L S k G.seq s t = S') := ⟨_, rfl⟩
  have up' : Hid (S'.up = true) := by unfold Hid; rw [← hS'.out]; rfl
  have wd' : Hid (∀ i j, (S'.page i j).size ≤ 256) := by
    rw [← hS'.out]
    intro i j
    show ((updP S.page s (updS (S.page s) (firstB L S s) (bs (pageL k G.seq t.data.toList)))) i j).size ≤ 256
    rw [page_upd]
    split
    · omega
    · exact h.out.wide _ _
  rw [hS'.out] at eA
  generalize hfe : firstB L S s = f at *
  replace hfe := Lib.hid hfe
  generalize bs (pageL k G.seq t.data.toList) = pg at *
  clear PW PO pl fb sa
  go_wp2_with fail
  refine N.out.mono ?_
  rintro e w3 ⟨rfl, h3, g3⟩
  have r3 : Hid (RowAt w3 q 34 #[.int .i64 0, .int .i64 0]) := r2.out.beside g3.side (fun hf => by have := qlt.out q hf; omega)
  have b7 : Below w3.heap.size w3 (w3.alloc (.cells #[.int .i64 (s : Int), .int .i64 (f : Int)] 34)) := (Below.refl _ _).alloc (Nat.le_refl _) _
  have h7 := Lib.hid (h3.out.after b7)
  have r7 := Lib.hid (r3.out.below b7 r3.out.lt)
  have p7 := Lib.hid (RowAt.new w3 34 #[.int .i64 (s : Int), .int .i64 (f : Int)])
  have g7 : GoesG lp L hv w hv (w3.alloc (.cells #[.int .i64 (s : Int), .int .i64 (f : Int)] 34)) := ((GoesG.of_below (by rw [← hqe.out]; exact b3)).trans g3).below b7
  have c7 := h7.out.l1
  have f7 := h7.out.log.free 1
  have qs : Hid (q < w3.heap.size) := r3.out.lt
  clear N h2 r2 b3 r3 h3 g3 b7
  have wrap1 : Hid (IntKind.u64.wrap ((G.seq : Int) + 1) = ((G.seq + 1 : Nat) : Int)) := by
    have := hq.out
    unfold Hid
    simp [IntKind.wrap, IntKind.bits, IntKind.signed]
    omega
  have sq : (G.seq : Int) < 18446744073709551615 := by have := hq.out; omega
  go_wp2_with (first | (refine wpList_store_row rfl 34 _ _ rfl w3.heap.size #[.int .i64 (s : Int), .int .i64 (f : Int)] rfl rfl 34 _ (RowAt.new _ _ _) (size_addr _ rfl) rfl (by simp [Value.oneCell']) ?_; rw [World.setRow_alloc_new]))
  have rs := h7.out.log.set 1 (.int .u64 ((G.seq + 1 : Nat) : Int))
  have ap := (Apart.refl lp (w3.alloc (.cells #[.int .i64 (s : Int), .int .i64 (f : Int)] 34))).setCell h7.out.log (i := 1) (.int .u64 ((G.seq + 1 : Nat) : Int))
  rw [logV_seq] at rs
  have TR := h7.out.turn (G' := appG G s) ap rs (.inr ⟨s, hs, rfl⟩)
  have nlp : q ≠ lp := by have := qlt.out lp (.inl rfl); omega
  have r8 := Lib.hid (ap.row r7.out nlp)
  have p8 := Lib.hid (ap.row p7.out (by have := qlt.out lp (.inl rfl); have := qs.out; omega))
  have h8 := Lib.hid TR.1
  have g8 := g7.trans TR.2
  have hz : ((w3.alloc (.cells #[.int .i64 (s : Int), .int .i64 (f : Int)] 34)).setCell ⟨lp, 1, none⟩ (.int .u64 ((G.seq + 1 : Nat) : Int))).heap.size = w3.heap.size + 1 := by simp [World.setCell]
  clear rs ap TR h7 r7 p7 g7 c7 f7
  replace hz := Lib.hid hz
  obtain ⟨p, hp⟩ : ∃ p, Hid (p = w3.heap.size) := ⟨_, rfl⟩
  rw [← hp.out] at p8 hz qs ⊢
  rw [show ((G.seq : Int) + 1) = ((G.seq + 1 : Nat) : Int) by omega]
  have bd : ∀ x : World, Below x.heap.size x x.drew := fun x => (Below.refl _ x).drew
  generalize (w3.alloc (.cells #[.int .i64 (s : Int), .int .i64 (f : Int)] 34)).setCell ⟨lp, 1, none⟩ (.int .u64 ((G.seq + 1 : Nat) : Int)) = w8 at *
  refine wp_region_still_tail 9 (by kernel_rfl) (by kernel_rfl) ?_
  change wpStill _ _ (World.drew _) (fun a' => wpList _ _ _ _ a' (World.drew _)) _ _
  have h9 := Lib.hid (h8.out.after (bd w8))
  have r9 := Lib.hid (r8.out.below (bd w8) r8.out.lt)
  have p9 := Lib.hid (p8.out.below (bd w8) p8.out.lt)
  have g9 := g8.below (bd w8)
  clear h8 r8 p8 g8 hz bd
  generalize w8.drew = w9 at *
  have c0 := h9.out.l0
  have a0 := p9.out.one 0 rfl
  have a1 := p9.out.one 1 rfl
  have PR := prog_any B w9 L S hv (Lib.hid h9.out.ch) (s : Int) (f : Int) pg lw
  rw [eA.out, eE.out] at PR
  replace PR := Lib.hid PR
  simp only [List.take_succ_cons, List.take_zero, List.drop_succ_cons, List.drop_zero]
  refine wpStill_of_quiet _ _ ?_
  repeat (first | go_big_quiet_skip | (go_big_quiet_want; go_big_quiet_op; go_big_quiet_on))
  refine wpQuiet_nil ?_
  go_wp2_with fail
  refine PR.out.mono ?_
  rintro e w10 ⟨rfl, hv', C10, g10⟩
  have h10 := h9.out.chip g10 C10.out up'.out wd'.out
  have g11 := g9.trans (GoesG.of_goes g10)
  have nf : ∀ j, w.heap.size ≤ j → ¬ Go.Proofs.YtapebaoajknepaaGreatDoor.foot L hv j := fun j hj hf => by have := (h.out.base j (.inr hf)).2; omega
  have r10 := Lib.hid (r9.out.beside g10.side (nf q (by rw [hqe.out]; exact Nat.le_refl _)))
  have p10 := Lib.hid (p9.out.beside g10.side (nf p (by have := qs.out; have := hqe.out; omega)))
  clear PR h9 r9 p9 g9 c0 a0 a1 C10 nf
  replace h10 := Lib.hid h10
  go_wp2_with (first | (refine wpList_load_row rfl 34 _ rfl p rfl 34 _ (0, 0) _ p10.out Tryz.underlying34 rfl (size_addr _ rfl) ?_) | (refine wpList_store_row rfl 34 _ _ rfl q #[.int .i64 (s : Int), .int .i64 (f : Int)] rfl rfl 34 _ r10.out (size_addr _ rfl) rfl (by simp [Value.oneCell']) ?_))
  have hq2 : ∀ j, footG lp L hv' j → ¬ j = q := by
    rintro j hj rfl
    rcases hj with e | e | e | e | ⟨i, hi, e⟩ | e
    · have := qlt.out _ (.inl e); omega
    · have := qlt.out _ (.inr (.inl e)); omega
    · have := qlt.out _ (.inr (.inr (.inl e))); omega
    · have := qlt.out _ (.inr (.inr (.inr (.inl e)))); omega
    · have := qlt.out _ (.inr (.inr (.inr (.inr (.inl ⟨i, hi, e⟩))))); omega
    · exact r10.out.not_own h10.out.ch.hist (by decide) e
  have h11 := h10.out.besides (F := fun k => k = q) ((Beside.refl (fun k => k = q) w10).setRow (p := q) (.inl rfl) #[.int .i64 (s : Int), .int .i64 (f : Int)]) hq2
  have g12 : GoesG lp L hv w hv' (w10.setRow q #[.int .i64 (s : Int), .int .i64 (f : Int)]) := ⟨g11.side.setRow (.inr (by rw [hqe.out]; exact Nat.le_refl _)) _, g11.mine⟩
  refine bodyPost_ret (v := .tuple #[.agg #[.int .i64 (s : Int), .int .i64 (f : Int)], .int .i64 0]) ?_ rfl ⟨by rw [hfe.out], hv', by rw [hS'.out]; exact h11, g12⟩
  exact results_row_one Tryz.results8 _ _ q 34 #[.int .i64 (s : Int), .int .i64 (f : Int)] (0, 0) _ rfl (r10.out.setRow _) Tryz.underlying34 rfl (size_addr _ rfl)

end Go.Proofs.YtapebaoajknepaaGreatDoor
/-
  Contract: Erase.
-/
namespace Go.Proofs.YtapebaoajknepaaGreatDoor
open Go.RowKit
set_option linter.unusedVariables false

/-- What Erase leaves behind it. -/
def lerS (S : St) (i : Nat) : St := erS (cntE (actS S true (S.left - 1))) i 9223372036854775807
def closeG (G : Sg) (i : Nat) : Sg := { G with op := if (i : Int) = G.op then -1 else G.op }
def wornG (G : Sg) (i : Nat) : Sg := closeG { G with worn := updB G.worn i } i
theorem closeG_yes {G : Sg} {i : Nat} (h : (i : Int) = G.op) : closeG G i = { G with op := -1 } := by unfold closeG; rw [if_pos h]
theorem closeG_no {G : Sg} {i : Nat} (h : ¬ (i : Int) = G.op) : closeG G i = G := by unfold closeG; rw [if_neg h]

theorem clr_wide {S : St} (h : ∀ i j, (S.page i j).size ≤ 256) (i k : Nat) : ∀ a b, ((erS (cntE (actS S true (S.left - 1))) i k).page a b).size ≤ 256 := by
  intro a b
  show ((updP S.page i (clr k (S.page i))) a b).size ≤ 256
  unfold updP clr
  by_cases e : a = i
  · rw [if_pos e]
    try (split)
    all_goals first | exact h _ _ | decide
  · rw [if_neg e]
    exact h _ _

set_option maxHeartbeats 2000000 in
set_option maxRecDepth 8000 in
theorem erase_okY (B lp : Nat) (L : Lay) (S : St) (hv : Value) (G : Sg) (i : Nat) (hi : i < L.n) (w : World) (h : Hid (Lg B w lp L S hv G)) (hw : wornB S i = false) (hl : S.left ≠ 1) (ho : Hid ((i : Int) = G.op)) (lw : Low S) :
    Calls Tryz.prog 10 #[.pointer (some ⟨lp, 0, none⟩), .int .i64 (i : Nat)] w fun e w' => e = .returned (.int .i64 0) ∧ ∃ hv', Hid (Lg B w' lp L (lerS S i) hv' (closeG G i)) ∧ GoesG lp L hv w hv' w' := by
  have c0 := h.out.l0
  have SG := Lib.hid (segs_any B w L S hv (Lib.hid h.out.ch))
  have ER := erase_any B w L S hv (Lib.hid h.out.ch) (i : Int) lw
  obtain ⟨e1, e2⟩ := erase_ok (n := L.n) h.out.up hi hw hl
  rw [e1, e2] at ER
  obtain ⟨S', hS'⟩ : ∃ S', Hid (lerS S i = S') := ⟨_, rfl⟩
  rw [show erS (cntE (actS S true (S.left - 1))) i 9223372036854775807 = S' from hS'.out] at ER
  have up' : Hid (S'.up = true) := by unfold Hid; rw [← hS'.out]; rfl
  have wd' : Hid (∀ a b, (S'.page a b).size ≤ 256) := by
    rw [← hS'.out]
    exact clr_wide h.out.wide i _
  rw [hS'.out]
  replace ER := Lib.hid ER
  clear e1 e2 hw hl
  have eG : Hid (closeG G i = { G with op := -1 }) := closeG_yes ho.out
  have d0 : decide ((i : Int) < 0) = false := decide_eq_false (by omega)
  have d1 : decide ((i : Int) ≥ (L.n : Int)) = false := decide_eq_false (by omega)
  have i64 : i < 64 := by have := h.out.ch.room.2.1; omega
  have i0 : (i : Int) < 64 := by omega
  go_enter Tryz.func10, Tryz.ntmps10
  go_wp2_with fail
  refine SG.out.mono ?_
  rintro e w1 ⟨rfl, rfl⟩
  clear SG
  go_wp2_with fail
  refine ER.out.mono ?_
  rintro e w2 ⟨rfl, hv', C2, g2⟩
  have h2 := Lib.hid (h.out.chip g2 C2.out up'.out wd'.out)
  have gg2 : GoesG lp L hv w1 hv' w2 := .of_goes g2
  clear ER C2 g2 c0
  have c2 := h2.out.l2
  have f2' := h2.out.log.free 2
  have ap2 := (Apart.refl lp w2).setCell h2.out.log (i := 2) (.int .i64 (-1))
  have rs2 := h2.out.log.set 2 (.int .i64 (-1))
  rw [logV_op] at rs2
  have TR2 := h2.out.turn (G' := { G with op := -1 }) ap2 rs2 (.inl rfl)
  have h5 := Lib.hid TR2.1
  have g5 := gg2.trans TR2.2
  clear ap2 rs2 TR2
  have eo : ((i : Int) == G.op) = true := by rw [beq_iff_eq]; exact ho.out
  clear ho
  go_wp2
  go_ret
  exact ⟨rfl, hv', by rw [eG.out]; exact h5, g5⟩

set_option maxHeartbeats 2000000 in
set_option maxRecDepth 8000 in
theorem erase_okN (B lp : Nat) (L : Lay) (S : St) (hv : Value) (G : Sg) (i : Nat) (hi : i < L.n) (w : World) (h : Hid (Lg B w lp L S hv G)) (hw : wornB S i = false) (hl : S.left ≠ 1) (ho : Hid (¬ (i : Int) = G.op)) (lw : Low S) :
    Calls Tryz.prog 10 #[.pointer (some ⟨lp, 0, none⟩), .int .i64 (i : Nat)] w fun e w' => e = .returned (.int .i64 0) ∧ ∃ hv', Hid (Lg B w' lp L (lerS S i) hv' (closeG G i)) ∧ GoesG lp L hv w hv' w' := by
  have c0 := h.out.l0
  have SG := Lib.hid (segs_any B w L S hv (Lib.hid h.out.ch))
  have ER := erase_any B w L S hv (Lib.hid h.out.ch) (i : Int) lw
  obtain ⟨e1, e2⟩ := erase_ok (n := L.n) h.out.up hi hw hl
  rw [e1, e2] at ER
  obtain ⟨S', hS'⟩ : ∃ S', Hid (lerS S i = S') := ⟨_, rfl⟩
  rw [show erS (cntE (actS S true (S.left - 1))) i 9223372036854775807 = S' from hS'.out] at ER
  have up' : Hid (S'.up = true) := by unfold Hid; rw [← hS'.out]; rfl
  have wd' : Hid (∀ a b, (S'.page a b).size ≤ 256) := by
    rw [← hS'.out]
    exact clr_wide h.out.wide i _
  rw [hS'.out]
  replace ER := Lib.hid ER
  clear e1 e2 hw hl
  have eG : Hid (closeG G i = G) := closeG_no ho.out
  have d0 : decide ((i : Int) < 0) = false := decide_eq_false (by omega)
  have d1 : decide ((i : Int) ≥ (L.n : Int)) = false := decide_eq_false (by omega)
  have i64 : i < 64 := by have := h.out.ch.room.2.1; omega
  have i0 : (i : Int) < 64 := by omega
  go_enter Tryz.func10, Tryz.ntmps10
  go_wp2_with fail
  refine SG.out.mono ?_
  rintro e w1 ⟨rfl, rfl⟩
  clear SG
  go_wp2_with fail
  refine ER.out.mono ?_
  rintro e w2 ⟨rfl, hv', C2, g2⟩
  have h2 := Lib.hid (h.out.chip g2 C2.out up'.out wd'.out)
  have gg2 : GoesG lp L hv w1 hv' w2 := .of_goes g2
  clear ER C2 g2 c0
  have c2 := h2.out.l2
  have f2' := h2.out.log.free 2
  have eo : ((i : Int) == G.op) = false := by rw [beq_eq_false_iff_ne]; exact ho.out
  clear ho
  go_wp2
  go_ret
  exact ⟨rfl, hv', by rw [eG.out]; exact h2, gg2⟩

set_option maxHeartbeats 2000000 in
set_option maxRecDepth 8000 in
theorem erase_noY (B lp : Nat) (L : Lay) (S : St) (hv : Value) (G : Sg) (i : Nat) (hi : i < L.n) (w : World) (h : Hid (Lg B w lp L S hv G)) (hw : wornB S i = true) (ho : Hid ((i : Int) = G.op)) (lw : Low S) :
    Calls Tryz.prog 10 #[.pointer (some ⟨lp, 0, none⟩), .int .i64 (i : Nat)] w fun e w' => e = .returned (.int .i64 101) ∧ ∃ hv', Hid (Lg B w' lp L (S) hv' (wornG G i)) ∧ GoesG lp L hv w hv' w' := by
  have c0 := h.out.l0
  have SG := Lib.hid (segs_any B w L S hv (Lib.hid h.out.ch))
  have ER := erase_any B w L S hv (Lib.hid h.out.ch) (i : Int) lw
  obtain ⟨e1, e2⟩ := erase_no (n := L.n) h.out.up hi hw
  rw [e1, e2] at ER
  have up' : Hid (S.up = true) := h.out.up
  have wd' : Hid (∀ a b, (S.page a b).size ≤ 256) := h.out.wide
  replace ER := Lib.hid ER
  clear e1 e2 hw
  have eG : Hid (wornG G i = { G with worn := updB G.worn i, op := -1 }) := closeG_yes (G := { G with worn := updB G.worn i }) ho.out
  have d0 : decide ((i : Int) < 0) = false := decide_eq_false (by omega)
  have d1 : decide ((i : Int) ≥ (L.n : Int)) = false := decide_eq_false (by omega)
  have i64 : i < 64 := by have := h.out.ch.room.2.1; omega
  have i0 : (i : Int) < 64 := by omega
  go_enter Tryz.func10, Tryz.ntmps10
  go_wp2_with fail
  refine SG.out.mono ?_
  rintro e w1 ⟨rfl, rfl⟩
  clear SG
  go_wp2_with fail
  refine ER.out.mono ?_
  rintro e w2 ⟨rfl, hv', C2, g2⟩
  have h2 := Lib.hid (h.out.chip g2 C2.out up'.out wd'.out)
  have gg2 : GoesG lp L hv w1 hv' w2 := .of_goes g2
  clear ER C2 g2 c0
  have c2 := h2.out.l2
  have f3 := h2.out.log.free (3 + i)
  have ap := (Apart.refl lp w2).setCell h2.out.log (i := 3 + i) (.bool true)
  have rs := h2.out.log.set (3 + i) (.bool true)
  rw [logV_worn] at rs
  have TR := h2.out.turn (G' := { G with worn := updB G.worn i }) ap rs h2.out.opn
  have h3 := Lib.hid TR.1
  have g3 := gg2.trans TR.2
  have c2' := h3.out.l2
  change (w2.setCell ⟨lp, 3 + i, none⟩ (.bool true)).cell? ⟨lp, 2, none⟩ = some (.int .i64 G.op) at c2'
  have c3 := h2.out.l3 i64
  have f2' := h3.out.log.free 2
  clear ap rs TR gg2
  have ap2 := (Apart.refl lp (w2.setCell ⟨lp, 3 + i, none⟩ (.bool true))).setCell h3.out.log (i := 2) (.int .i64 (-1))
  have rs2 := h3.out.log.set 2 (.int .i64 (-1))
  rw [logV_op] at rs2
  have TR2 := h3.out.turn (G' := { G with worn := updB G.worn i, op := -1 }) ap2 rs2 (.inl rfl)
  have h5 := Lib.hid TR2.1
  have g5 := g3.trans TR2.2
  clear ap2 rs2 TR2
  have eo : ((i : Int) == G.op) = true := by rw [beq_iff_eq]; exact ho.out
  clear ho
  go_wp2
  go_ret
  exact ⟨rfl, hv', by rw [eG.out]; exact h5, g5⟩

set_option maxHeartbeats 2000000 in
set_option maxRecDepth 8000 in
theorem erase_noN (B lp : Nat) (L : Lay) (S : St) (hv : Value) (G : Sg) (i : Nat) (hi : i < L.n) (w : World) (h : Hid (Lg B w lp L S hv G)) (hw : wornB S i = true) (ho : Hid (¬ (i : Int) = G.op)) (lw : Low S) :
    Calls Tryz.prog 10 #[.pointer (some ⟨lp, 0, none⟩), .int .i64 (i : Nat)] w fun e w' => e = .returned (.int .i64 101) ∧ ∃ hv', Hid (Lg B w' lp L (S) hv' (wornG G i)) ∧ GoesG lp L hv w hv' w' := by
  have c0 := h.out.l0
  have SG := Lib.hid (segs_any B w L S hv (Lib.hid h.out.ch))
  have ER := erase_any B w L S hv (Lib.hid h.out.ch) (i : Int) lw
  obtain ⟨e1, e2⟩ := erase_no (n := L.n) h.out.up hi hw
  rw [e1, e2] at ER
  have up' : Hid (S.up = true) := h.out.up
  have wd' : Hid (∀ a b, (S.page a b).size ≤ 256) := h.out.wide
  replace ER := Lib.hid ER
  clear e1 e2 hw
  have eG : Hid (wornG G i = { G with worn := updB G.worn i }) := closeG_no (G := { G with worn := updB G.worn i }) ho.out
  have d0 : decide ((i : Int) < 0) = false := decide_eq_false (by omega)
  have d1 : decide ((i : Int) ≥ (L.n : Int)) = false := decide_eq_false (by omega)
  have i64 : i < 64 := by have := h.out.ch.room.2.1; omega
  have i0 : (i : Int) < 64 := by omega
  go_enter Tryz.func10, Tryz.ntmps10
  go_wp2_with fail
  refine SG.out.mono ?_
  rintro e w1 ⟨rfl, rfl⟩
  clear SG
  go_wp2_with fail
  refine ER.out.mono ?_
  rintro e w2 ⟨rfl, hv', C2, g2⟩
  have h2 := Lib.hid (h.out.chip g2 C2.out up'.out wd'.out)
  have gg2 : GoesG lp L hv w1 hv' w2 := .of_goes g2
  clear ER C2 g2 c0
  have c2 := h2.out.l2
  have f3 := h2.out.log.free (3 + i)
  have ap := (Apart.refl lp w2).setCell h2.out.log (i := 3 + i) (.bool true)
  have rs := h2.out.log.set (3 + i) (.bool true)
  rw [logV_worn] at rs
  have TR := h2.out.turn (G' := { G with worn := updB G.worn i }) ap rs h2.out.opn
  have h3 := Lib.hid TR.1
  have g3 := gg2.trans TR.2
  have c2' := h3.out.l2
  change (w2.setCell ⟨lp, 3 + i, none⟩ (.bool true)).cell? ⟨lp, 2, none⟩ = some (.int .i64 G.op) at c2'
  have c3 := h2.out.l3 i64
  have f2' := h3.out.log.free 2
  clear ap rs TR gg2
  have eo : ((i : Int) == G.op) = false := by rw [beq_eq_false_iff_ne]; exact ho.out
  clear ho
  go_wp2
  go_ret
  exact ⟨rfl, hv', by rw [eG.out]; exact h3, g3⟩

theorem lerase_ok {B lp : Nat} {L : Lay} {S : St} {hv : Value} {G : Sg} {i : Nat} (hi : i < L.n) (hw : wornB S i = false) (hl : S.left ≠ 1) (lw : Low S) (w : World) (h : Hid (Lg B w lp L S hv G)) :
    Calls Tryz.prog 10 #[.pointer (some ⟨lp, 0, none⟩), .int .i64 (i : Nat)] w fun e w' => e = .returned (.int .i64 0) ∧ ∃ hv', Hid (Lg B w' lp L (lerS S i) hv' (closeG G i)) ∧ GoesG lp L hv w hv' w' := by
  by_cases ho : (i : Int) = G.op
  · exact erase_okY B lp L S hv G i hi w h hw hl ho lw
  · exact erase_okN B lp L S hv G i hi w h hw hl ho lw
theorem lerase_no {B lp : Nat} {L : Lay} {S : St} {hv : Value} {G : Sg} {i : Nat} (hi : i < L.n) (hw : wornB S i = true) (lw : Low S) (w : World) (h : Hid (Lg B w lp L S hv G)) :
    Calls Tryz.prog 10 #[.pointer (some ⟨lp, 0, none⟩), .int .i64 (i : Nat)] w fun e w' => e = .returned (.int .i64 101) ∧ ∃ hv', Hid (Lg B w' lp L S hv' (wornG G i)) ∧ GoesG lp L hv w hv' w' := by
  by_cases ho : (i : Int) = G.op
  · exact erase_noY B lp L S hv G i hi w h hw ho lw
  · exact erase_noN B lp L S hv G i hi w h hw ho lw

end Go.Proofs.YtapebaoajknepaaGreatDoor
