/-
  The walk of NandArgs.
-/
import Derived.Test.YtogeccmeaacgnaaNandShown
import Derived.Test.YtogeccmeaacgnaaNandBytes
import Derived.Test.YtogeccmeaacgnaaOpen
namespace Go.Proofs.Ytogeccmeaacgnaa
open Go.RowKit
set_option linter.unusedVariables false

set_option maxRecDepth 8000 in
theorem numberB_any (b : Bool) (w : World) : Calls Try.prog 32 #[.bool b] w fun e w' => e = .returned (.int .i64 (if b = true then 1 else 0)) ∧ w' = w := by
  cases b with
  | false =>
    go_enter Try.func32, Try.ntmps32
    go_wp2
    go_ret
    exact ⟨rfl, rfl⟩
  | true =>
    go_enter Try.func32, Try.ntmps32
    go_wp2
    go_ret
    exact ⟨rfl, rfl⟩

/-- What Program and Erase come to, one behind the other. -/
structure ArgsRes (S : St) (seg page : Int) (s : ByteArray) (W X : Int) (p e : Nat) (u : Bool) : Prop where
  prog : progE 3 4 S seg page s = W
  erase : eraseE 3 (progS 3 4 S seg page s) seg = X
  progs : (eraseS 3 (progS 3 4 S seg page s) seg).progs = p
  erases : (eraseS 3 (progS 3 4 S seg page s) seg).erases = e
  up : (eraseS 3 (progS 3 4 S seg page s) seg).up = u

def argsS (u : Bool) : St := newS u 0 0 0 1 (badN 3 (fun _ => 2) 1)
theorem args_off (seg page : Int) (s : ByteArray) : ArgsRes (argsS false) seg page s 4 4 0 0 false := by
  have e1 : progS 3 4 (argsS false) seg page s = argsS false := progS_same (.inl rfl)
  have e2 : eraseS 3 (argsS false) seg = argsS false := eraseS_same (.inl rfl)
  constructor
  · rfl
  · rw [e1]; rfl
  · rw [e1, e2]; rfl
  · rw [e1, e2]; rfl
  · rw [e1, e2]; rfl
theorem args_out {seg page : Int} {s : ByteArray} (h : inB seg 3 = false) : ArgsRes (argsS true) seg page s 1 1 0 0 true := by
  have p1 : progE 3 4 (argsS true) seg page s = 1 := by
    unfold progE
    rw [if_neg (show ¬ (argsS true).up = false by decide), h]
    rfl
  have e1 : progS 3 4 (argsS true) seg page s = argsS true := progS_same (.inr (.inl p1))
  have x1 : eraseE 3 (argsS true) seg = 1 := by
    unfold eraseE
    rw [if_neg (show ¬ (argsS true).up = false by decide), if_pos h]
  have e2 : eraseS 3 (argsS true) seg = argsS true := eraseS_same (.inr (.inl x1))
  constructor
  · exact p1
  · rw [e1]; exact x1
  · rw [e1, e2]; rfl
  · rw [e1, e2]; rfl
  · rw [e1, e2]; rfl
theorem bad2 : badN 3 (fun _ => 2) 1 2 = true := by kernel_rfl
theorem bad0 : badN 3 (fun _ => 2) 1 0 = false := by kernel_rfl
theorem bad1 : badN 3 (fun _ => 2) 1 1 = false := by kernel_rfl
theorem bad01 {i : Nat} (h : i < 2) : badN 3 (fun _ => 2) 1 i = false := by
  have : i = 0 ∨ i = 1 := by omega
  rcases this with rfl | rfl
  · exact bad0
  · exact bad1
/-- The page is none, or the text too long: seg is 2, or less. -/
theorem args_two {page : Int} {s : ByteArray} (h : inB page 4 = false ∨ 256 < s.size) : ArgsRes (argsS true) ((2 : Nat) : Int) page s 1 101 0 0 true := by
  have p1 : progE 3 4 (argsS true) ((2 : Nat) : Int) page s = 1 := by
    unfold progE
    rw [if_neg (show ¬ (argsS true).up = false by decide)]
    by_cases c : (inB ((2 : Nat) : Int) 3 && inB page 4) = false
    · rw [if_pos c]
    · rw [if_neg c]
      rcases h with h | h
      · rw [h, Bool.and_false] at c
        exact absurd rfl c
      · rw [if_pos h]
  have e1 : progS 3 4 (argsS true) ((2 : Nat) : Int) page s = argsS true := progS_same (.inr (.inl p1))
  obtain ⟨x1, e2⟩ := erase_no (n := 3) (i := 2) (S := argsS true) rfl (by decide) (by unfold wornB; rw [show (argsS true).bad 2 = true from bad2]; rfl)
  constructor
  · exact p1
  · rw [e1]; exact x1
  · rw [e1, e2]; rfl
  · rw [e1, e2]; rfl
  · rw [e1, e2]; rfl
theorem args_low {i : Nat} (hi : i < 2) {page : Int} {s : ByteArray} (h : inB page 4 = false ∨ 256 < s.size) : ArgsRes (argsS true) (i : Int) page s 1 0 0 1 true := by
  have p1 : progE 3 4 (argsS true) (i : Int) page s = 1 := by
    unfold progE
    rw [if_neg (show ¬ (argsS true).up = false by decide)]
    by_cases c : (inB (i : Int) 3 && inB page 4) = false
    · rw [if_pos c]
    · rw [if_neg c]
      rcases h with h | h
      · rw [h, Bool.and_false] at c
        exact absurd rfl c
      · rw [if_pos h]
  have e1 : progS 3 4 (argsS true) (i : Int) page s = argsS true := progS_same (.inr (.inl p1))
  obtain ⟨x1, e2⟩ := erase_ok (n := 3) (i := i) (S := argsS true) rfl (by omega) (by unfold wornB; rw [show (argsS true).bad i = false from bad01 hi]; rfl) (by decide)
  constructor
  · exact p1
  · rw [e1]; exact x1
  · rw [e1, e2]; rfl
  · rw [e1, e2]; rfl
  · rw [e1, e2]; rfl
theorem args_ok2 {j : Nat} (hj : j < 4) {s : ByteArray} (hs : s.size ≤ 256) : ArgsRes (argsS true) ((2 : Nat) : Int) (j : Int) s 0 101 1 0 true := by
  obtain ⟨p1, e1⟩ := prog_ok (n := 3) (m := 4) (i := 2) (j := j) (S := argsS true) (s := s) rfl (by decide) hj hs (by kernel_rfl) (by decide)
  rw [show ((2 : Nat) : Int) = ((2 : Nat) : Int) from rfl]
  obtain ⟨x1, e2⟩ := erase_no (n := 3) (i := 2) (S := prS (cntP (actS (argsS true) true ((argsS true).left - 1))) 2 j (pageT s 9223372036854775807 0)) rfl (by decide) (by unfold wornB; rw [show (prS (cntP (actS (argsS true) true ((argsS true).left - 1))) 2 j (pageT s 9223372036854775807 0)).bad 2 = true from bad2]; rfl)
  constructor
  · exact p1
  · rw [e1]; exact x1
  · rw [e1, e2]; rfl
  · rw [e1, e2]; rfl
  · rw [e1, e2]; rfl
theorem args_ok {i j : Nat} (hi : i < 2) (hj : j < 4) {s : ByteArray} (hs : s.size ≤ 256) : ArgsRes (argsS true) (i : Int) (j : Int) s 0 0 1 1 true := by
  obtain ⟨p1, e1⟩ := prog_ok (n := 3) (m := 4) (i := i) (j := j) (S := argsS true) (s := s) rfl (by omega) hj hs (by kernel_rfl) (by decide)
  obtain ⟨x1, e2⟩ := erase_ok (n := 3) (i := i) (S := prS (cntP (actS (argsS true) true ((argsS true).left - 1))) i j (pageT s 9223372036854775807 0)) rfl (by omega) (by unfold wornB; rw [show (prS (cntP (actS (argsS true) true ((argsS true).left - 1))) i j (pageT s 9223372036854775807 0)).bad i = false from bad01 hi]; rfl) (by show (-1 : Int) ≠ 1; decide)
  constructor
  · exact p1
  · rw [e1]; exact x1
  · rw [e1, e2]; rfl
  · rw [e1, e2]; rfl
  · rw [e1, e2]; rfl

theorem argsS_low {u : Bool} : LowT (argsS u) 0 := ⟨Nat.le_refl _, Nat.le_refl _, fun _ => Nat.le_refl _, Nat.le_refl _, Int.le_refl _, by show (0 : Int) < _; decide⟩

set_option maxHeartbeats 4000000 in
set_option maxRecDepth 8000 in
theorem args_off_neg (seg page : Int) (n m : Nat) (hm : (n : Int).tmod 300 = (m : Int)) (hm3 : m < 300) (hn : n < 65536) (s0 : decide (seg ≥ 0) = false) (R : Hid (ArgsRes (argsS false) seg page (bs (listB m zeroN)) 4 4 0 0 false)) (w : World) :
    Calls Try.prog 6 #[.int .i64 seg, .int .i64 page, .int .u16 (n : Nat), .bool true] w fun e w' => e = .returned (.bool true) ∧ Below w.heap.size w w' := by
  have SH : Hid (∀ w', _) := fun w' => shown10_any w'
  have NP : Hid (∀ w', _) := fun w' => newPower_any w'
  have NN : Hid (∀ w', _) := fun w' => new_nil w' 3 4 1 (.slice none 0 0)
  have NB : Hid (∀ b w', _) := fun b w' => numberB_any b w'
  go_enter Try.func6, Try.ntmps6
  go_wp2_with fail
  refine (NP.out w).mono ?_
  rintro e w1 ⟨rfl, r1, b1⟩
  have b2 := b1.alloc b1.size (.cells #[.int .i64 2] 3)
  have r2 := Lib.hid (r1.out.alloc (.cells #[.int .i64 2] 3))
  have s2 : Hid (SeesZ (w1.alloc (.cells #[.int .i64 2] 3)) (some ⟨w1.heap.size, 0, none⟩) 1 (fun _ => 2)) := fun k hk => by
    have e : k = 0 := by omega
    subst e
    have r := RowAt.new w1 3 #[.int .i64 2]
    exact ⟨_, rfl, r.lt, by rw [addr_add, cell_of_row _ _ _ _ _ _ r]; rfl⟩
  have NW := Lib.hid (new_yes w.heap.size w.heap.size 3 4 1 true 0 0 0 (some ⟨w1.heap.size, 0, none⟩) 1 1 (fun _ => 2) _ r2 s2 (Nat.le_refl _) (Lib.hid (by decide)) (Lib.hid (by decide)) (by decide) (by decide) (by decide) (by decide) (by decide) (by decide))
  clear r1 r2 s2 b1
  go_wp2_with fail
  generalize w1.alloc (.cells #[.int .i64 2] 3) = w2 at *
  refine NW.out.mono ?_
  rintro e w3 ⟨L, rfl, hpp, hn', hm', h3, bn⟩
  change Hid (Ch w.heap.size w3 L (argsS true) _) at h3
  have b3 := b2.trans (bn.mono b2.size)
  clear NW b2 bn
  go_wp2_with fail
  refine (SH.out w3).mono ?_
  rintro e w4 ⟨rfl, bs4⟩
  have h4 := Lib.hid (h3.out.after bs4)
  have b4 := b3.trans (bs4.mono b3.size)
  clear h3 b3 bs4 SH
  go_wp2_with fail
  refine (NN.out w4).mono ?_
  rintro e w5 ⟨rfl, rfl⟩
  clear NN
  have CU := Lib.hid (powCut_any w.heap.size true 0 0 0 w5 (by have := h4.out.pow; rw [hpp] at this; exact this))
  go_wp2_with fail
  refine CU.out.mono ?_
  rintro e w6 ⟨rfl, r6, a6⟩
  obtain ⟨h6, g6⟩ := h4.out.power (by rw [hpp]; exact a6) (up := false) (left := 0) (keep := 0) (junk := 0) (by rw [hpp]; exact r6.out) (by decide) (by decide)
  have b6 := b4.trans (g6.under h4.out b4.size)
  change Ch w.heap.size w6 L (argsS false) _ at h6
  replace h6 := Lib.hid h6
  clear CU r6 a6 g6 h4 b4
  obtain ⟨w7, ew⟩ : ∃ w7, w7 = w6 := ⟨_, rfl⟩
  rw [← ew] at h6 b6
  have cv : Hid (∀ w' g, RowAt w' g 5 (rowOf m (w8 zeroN)) → (convert 65 9 (.slice (some ⟨g, 0, none⟩) m m)).run Try.prog w' = .ok (.string (bs (listB m zeroN))) w') := fun w' g h => block_string (fun _ => by unfold zeroN; decide) Try.underlying65 Try.underlying5 Try.underlying9 h
  have m6 : Hid (m ≤ 1000000) := by unfold Hid; omega
  have zs : (bs (listB m zeroN)).size = m := by rw [bs_size, listB_length]
  generalize bs (listB m zeroN) = z at *
  have r9 := RowAt.new w7 5 (rowOf m (w8 zeroN))
  have cv9 := cv.out _ _ r9
  have b9 := b6.alloc b6.size (.cells (rowOf m (w8 zeroN)) 5)
  have h9 := Lib.hid (h6.out.after ((Below.refl _ w7).alloc (Nat.le_refl _) (.cells (rowOf m (w8 zeroN)) 5)))
  subst ew
  clear r9 h6 b6 cv
  go_wp2_with (first | (refine wpList_make_row (m := m) Try.underlying65 Try.info5 (by rw [Nat.mul_one]; exact zero_bytes m) m6.out (by decide) (by decide) rfl rfl rfl rfl ?_; rw [Nat.mul_one]))
  clear cv9 m6
  generalize World.alloc _ _ = w10 at *
  have P1 := Lib.hid (prog_any w.heap.size w10 L _ _ h9 seg page z (argsS_low.low (by decide)))
  rw [hn', hm', R.out.prog] at P1
  refine P1.out.mono ?_
  rintro e w11 ⟨rfl, hv11, h11, g11⟩
  have b11 := b9.trans (g11.under h9.out b9.size)
  have E1 := Lib.hid (erase_any w.heap.size w11 L _ _ h11 seg ((argsS_low.prog 3 4 seg page z).low (by decide)))
  rw [hn', R.out.erase] at E1
  clear P1 h9 b9 g11
  go_wp2_with fail
  refine E1.out.mono ?_
  rintro e w12 ⟨rfl, hv12, h12, g12⟩
  have b12 := b11.trans (g12.under h11.out b11.size)
  have CT := Lib.hid (counts_any w.heap.size w12 L _ _ h12)
  rw [R.out.progs, R.out.erases] at CT
  clear E1 h11 b11 g12
  go_wp2_with fail
  refine CT.out.mono ?_
  rintro e w13 ⟨rfl, bb⟩
  have h13 := Lib.hid (h12.out.after bb)
  have b13 := b12.trans (bb.mono b12.size)
  have UP := Lib.hid (powUp_any L.pp _ _ _ _ w13 (Lib.hid h13.out.pow))
  rw [R.out.up, hpp] at UP
  clear CT h12 b12 bb R
  go_wp2_with fail
  refine (NB.out _ w13).mono ?_
  rintro e w14 ⟨rfl, rfl⟩
  go_wp2_with fail
  refine (NB.out _ w14).mono ?_
  rintro e w15 ⟨rfl, rfl⟩
  go_wp2_with fail
  refine UP.out.mono ?_
  rintro e w16 ⟨rfl, rfl⟩
  go_wp2
  go_ret
  exact ⟨rfl, b13⟩

set_option maxHeartbeats 4000000 in
set_option maxRecDepth 8000 in
theorem args_off_big (seg page : Int) (n m : Nat) (hm : (n : Int).tmod 300 = (m : Int)) (hm3 : m < 300) (hn : n < 65536) (s0 : decide (seg ≥ 0) = true) (s1 : decide (seg < 3) = false) (R : Hid (ArgsRes (argsS false) seg page (bs (listB m zeroN)) 4 4 0 0 false)) (w : World) :
    Calls Try.prog 6 #[.int .i64 seg, .int .i64 page, .int .u16 (n : Nat), .bool true] w fun e w' => e = .returned (.bool true) ∧ Below w.heap.size w w' := by
  have SH : Hid (∀ w', _) := fun w' => shown10_any w'
  have NP : Hid (∀ w', _) := fun w' => newPower_any w'
  have NN : Hid (∀ w', _) := fun w' => new_nil w' 3 4 1 (.slice none 0 0)
  have NB : Hid (∀ b w', _) := fun b w' => numberB_any b w'
  go_enter Try.func6, Try.ntmps6
  go_wp2_with fail
  refine (NP.out w).mono ?_
  rintro e w1 ⟨rfl, r1, b1⟩
  have b2 := b1.alloc b1.size (.cells #[.int .i64 2] 3)
  have r2 := Lib.hid (r1.out.alloc (.cells #[.int .i64 2] 3))
  have s2 : Hid (SeesZ (w1.alloc (.cells #[.int .i64 2] 3)) (some ⟨w1.heap.size, 0, none⟩) 1 (fun _ => 2)) := fun k hk => by
    have e : k = 0 := by omega
    subst e
    have r := RowAt.new w1 3 #[.int .i64 2]
    exact ⟨_, rfl, r.lt, by rw [addr_add, cell_of_row _ _ _ _ _ _ r]; rfl⟩
  have NW := Lib.hid (new_yes w.heap.size w.heap.size 3 4 1 true 0 0 0 (some ⟨w1.heap.size, 0, none⟩) 1 1 (fun _ => 2) _ r2 s2 (Nat.le_refl _) (Lib.hid (by decide)) (Lib.hid (by decide)) (by decide) (by decide) (by decide) (by decide) (by decide) (by decide))
  clear r1 r2 s2 b1
  go_wp2_with fail
  generalize w1.alloc (.cells #[.int .i64 2] 3) = w2 at *
  refine NW.out.mono ?_
  rintro e w3 ⟨L, rfl, hpp, hn', hm', h3, bn⟩
  change Hid (Ch w.heap.size w3 L (argsS true) _) at h3
  have b3 := b2.trans (bn.mono b2.size)
  clear NW b2 bn
  go_wp2_with fail
  refine (SH.out w3).mono ?_
  rintro e w4 ⟨rfl, bs4⟩
  have h4 := Lib.hid (h3.out.after bs4)
  have b4 := b3.trans (bs4.mono b3.size)
  clear h3 b3 bs4 SH
  go_wp2_with fail
  refine (NN.out w4).mono ?_
  rintro e w5 ⟨rfl, rfl⟩
  clear NN
  have CU := Lib.hid (powCut_any w.heap.size true 0 0 0 w5 (by have := h4.out.pow; rw [hpp] at this; exact this))
  go_wp2_with fail
  refine CU.out.mono ?_
  rintro e w6 ⟨rfl, r6, a6⟩
  obtain ⟨h6, g6⟩ := h4.out.power (by rw [hpp]; exact a6) (up := false) (left := 0) (keep := 0) (junk := 0) (by rw [hpp]; exact r6.out) (by decide) (by decide)
  have b6 := b4.trans (g6.under h4.out b4.size)
  change Ch w.heap.size w6 L (argsS false) _ at h6
  replace h6 := Lib.hid h6
  clear CU r6 a6 g6 h4 b4
  obtain ⟨w7, ew⟩ : ∃ w7, w7 = w6 := ⟨_, rfl⟩
  rw [← ew] at h6 b6
  have cv : Hid (∀ w' g, RowAt w' g 5 (rowOf m (w8 zeroN)) → (convert 65 9 (.slice (some ⟨g, 0, none⟩) m m)).run Try.prog w' = .ok (.string (bs (listB m zeroN))) w') := fun w' g h => block_string (fun _ => by unfold zeroN; decide) Try.underlying65 Try.underlying5 Try.underlying9 h
  have m6 : Hid (m ≤ 1000000) := by unfold Hid; omega
  have zs : (bs (listB m zeroN)).size = m := by rw [bs_size, listB_length]
  generalize bs (listB m zeroN) = z at *
  have r9 := RowAt.new w7 5 (rowOf m (w8 zeroN))
  have cv9 := cv.out _ _ r9
  have b9 := b6.alloc b6.size (.cells (rowOf m (w8 zeroN)) 5)
  have h9 := Lib.hid (h6.out.after ((Below.refl _ w7).alloc (Nat.le_refl _) (.cells (rowOf m (w8 zeroN)) 5)))
  subst ew
  clear r9 h6 b6 cv
  go_wp2_with (first | (refine wpList_make_row (m := m) Try.underlying65 Try.info5 (by rw [Nat.mul_one]; exact zero_bytes m) m6.out (by decide) (by decide) rfl rfl rfl rfl ?_; rw [Nat.mul_one]))
  clear cv9 m6
  generalize World.alloc _ _ = w10 at *
  have P1 := Lib.hid (prog_any w.heap.size w10 L _ _ h9 seg page z (argsS_low.low (by decide)))
  rw [hn', hm', R.out.prog] at P1
  refine P1.out.mono ?_
  rintro e w11 ⟨rfl, hv11, h11, g11⟩
  have b11 := b9.trans (g11.under h9.out b9.size)
  have E1 := Lib.hid (erase_any w.heap.size w11 L _ _ h11 seg ((argsS_low.prog 3 4 seg page z).low (by decide)))
  rw [hn', R.out.erase] at E1
  clear P1 h9 b9 g11
  go_wp2_with fail
  refine E1.out.mono ?_
  rintro e w12 ⟨rfl, hv12, h12, g12⟩
  have b12 := b11.trans (g12.under h11.out b11.size)
  have CT := Lib.hid (counts_any w.heap.size w12 L _ _ h12)
  rw [R.out.progs, R.out.erases] at CT
  clear E1 h11 b11 g12
  go_wp2_with fail
  refine CT.out.mono ?_
  rintro e w13 ⟨rfl, bb⟩
  have h13 := Lib.hid (h12.out.after bb)
  have b13 := b12.trans (bb.mono b12.size)
  have UP := Lib.hid (powUp_any L.pp _ _ _ _ w13 (Lib.hid h13.out.pow))
  rw [R.out.up, hpp] at UP
  clear CT h12 b12 bb R
  go_wp2_with fail
  refine (NB.out _ w13).mono ?_
  rintro e w14 ⟨rfl, rfl⟩
  go_wp2_with fail
  refine (NB.out _ w14).mono ?_
  rintro e w15 ⟨rfl, rfl⟩
  go_wp2_with fail
  refine UP.out.mono ?_
  rintro e w16 ⟨rfl, rfl⟩
  go_wp2
  go_ret
  exact ⟨rfl, b13⟩

set_option maxHeartbeats 4000000 in
set_option maxRecDepth 8000 in
theorem args_off_in (seg page : Int) (n m : Nat) (hm : (n : Int).tmod 300 = (m : Int)) (hm3 : m < 300) (hn : n < 65536) (s0 : decide (seg ≥ 0) = true) (s1 : decide (seg < 3) = true) (R : Hid (ArgsRes (argsS false) seg page (bs (listB m zeroN)) 4 4 0 0 false)) (w : World) :
    Calls Try.prog 6 #[.int .i64 seg, .int .i64 page, .int .u16 (n : Nat), .bool true] w fun e w' => e = .returned (.bool true) ∧ Below w.heap.size w w' := by
  have SH : Hid (∀ w', _) := fun w' => shown10_any w'
  have NP : Hid (∀ w', _) := fun w' => newPower_any w'
  have NN : Hid (∀ w', _) := fun w' => new_nil w' 3 4 1 (.slice none 0 0)
  have NB : Hid (∀ b w', _) := fun b w' => numberB_any b w'
  go_enter Try.func6, Try.ntmps6
  go_wp2_with fail
  refine (NP.out w).mono ?_
  rintro e w1 ⟨rfl, r1, b1⟩
  have b2 := b1.alloc b1.size (.cells #[.int .i64 2] 3)
  have r2 := Lib.hid (r1.out.alloc (.cells #[.int .i64 2] 3))
  have s2 : Hid (SeesZ (w1.alloc (.cells #[.int .i64 2] 3)) (some ⟨w1.heap.size, 0, none⟩) 1 (fun _ => 2)) := fun k hk => by
    have e : k = 0 := by omega
    subst e
    have r := RowAt.new w1 3 #[.int .i64 2]
    exact ⟨_, rfl, r.lt, by rw [addr_add, cell_of_row _ _ _ _ _ _ r]; rfl⟩
  have NW := Lib.hid (new_yes w.heap.size w.heap.size 3 4 1 true 0 0 0 (some ⟨w1.heap.size, 0, none⟩) 1 1 (fun _ => 2) _ r2 s2 (Nat.le_refl _) (Lib.hid (by decide)) (Lib.hid (by decide)) (by decide) (by decide) (by decide) (by decide) (by decide) (by decide))
  clear r1 r2 s2 b1
  go_wp2_with fail
  generalize w1.alloc (.cells #[.int .i64 2] 3) = w2 at *
  refine NW.out.mono ?_
  rintro e w3 ⟨L, rfl, hpp, hn', hm', h3, bn⟩
  change Hid (Ch w.heap.size w3 L (argsS true) _) at h3
  have b3 := b2.trans (bn.mono b2.size)
  clear NW b2 bn
  go_wp2_with fail
  refine (SH.out w3).mono ?_
  rintro e w4 ⟨rfl, bs4⟩
  have h4 := Lib.hid (h3.out.after bs4)
  have b4 := b3.trans (bs4.mono b3.size)
  clear h3 b3 bs4 SH
  go_wp2_with fail
  refine (NN.out w4).mono ?_
  rintro e w5 ⟨rfl, rfl⟩
  clear NN
  have CU := Lib.hid (powCut_any w.heap.size true 0 0 0 w5 (by have := h4.out.pow; rw [hpp] at this; exact this))
  go_wp2_with fail
  refine CU.out.mono ?_
  rintro e w6 ⟨rfl, r6, a6⟩
  obtain ⟨h6, g6⟩ := h4.out.power (by rw [hpp]; exact a6) (up := false) (left := 0) (keep := 0) (junk := 0) (by rw [hpp]; exact r6.out) (by decide) (by decide)
  have b6 := b4.trans (g6.under h4.out b4.size)
  change Ch w.heap.size w6 L (argsS false) _ at h6
  replace h6 := Lib.hid h6
  clear CU r6 a6 g6 h4 b4
  obtain ⟨w7, ew⟩ : ∃ w7, w7 = w6 := ⟨_, rfl⟩
  rw [← ew] at h6 b6
  have cv : Hid (∀ w' g, RowAt w' g 5 (rowOf m (w8 zeroN)) → (convert 65 9 (.slice (some ⟨g, 0, none⟩) m m)).run Try.prog w' = .ok (.string (bs (listB m zeroN))) w') := fun w' g h => block_string (fun _ => by unfold zeroN; decide) Try.underlying65 Try.underlying5 Try.underlying9 h
  have m6 : Hid (m ≤ 1000000) := by unfold Hid; omega
  have zs : (bs (listB m zeroN)).size = m := by rw [bs_size, listB_length]
  generalize bs (listB m zeroN) = z at *
  have r9 := RowAt.new w7 5 (rowOf m (w8 zeroN))
  have cv9 := cv.out _ _ r9
  have b9 := b6.alloc b6.size (.cells (rowOf m (w8 zeroN)) 5)
  have h9 := Lib.hid (h6.out.after ((Below.refl _ w7).alloc (Nat.le_refl _) (.cells (rowOf m (w8 zeroN)) 5)))
  subst ew
  clear r9 h6 b6 cv
  go_wp2_with (first | (refine wpList_make_row (m := m) Try.underlying65 Try.info5 (by rw [Nat.mul_one]; exact zero_bytes m) m6.out (by decide) (by decide) rfl rfl rfl rfl ?_; rw [Nat.mul_one]))
  clear cv9 m6
  generalize World.alloc _ _ = w10 at *
  have P1 := Lib.hid (prog_any w.heap.size w10 L _ _ h9 seg page z (argsS_low.low (by decide)))
  rw [hn', hm', R.out.prog] at P1
  refine P1.out.mono ?_
  rintro e w11 ⟨rfl, hv11, h11, g11⟩
  have b11 := b9.trans (g11.under h9.out b9.size)
  have E1 := Lib.hid (erase_any w.heap.size w11 L _ _ h11 seg ((argsS_low.prog 3 4 seg page z).low (by decide)))
  rw [hn', R.out.erase] at E1
  clear P1 h9 b9 g11
  go_wp2_with fail
  refine E1.out.mono ?_
  rintro e w12 ⟨rfl, hv12, h12, g12⟩
  have b12 := b11.trans (g12.under h11.out b11.size)
  have CT := Lib.hid (counts_any w.heap.size w12 L _ _ h12)
  rw [R.out.progs, R.out.erases] at CT
  clear E1 h11 b11 g12
  go_wp2_with fail
  refine CT.out.mono ?_
  rintro e w13 ⟨rfl, bb⟩
  have h13 := Lib.hid (h12.out.after bb)
  have b13 := b12.trans (bb.mono b12.size)
  have UP := Lib.hid (powUp_any L.pp _ _ _ _ w13 (Lib.hid h13.out.pow))
  rw [R.out.up, hpp] at UP
  clear CT h12 b12 bb R
  go_wp2_with fail
  refine (NB.out _ w13).mono ?_
  rintro e w14 ⟨rfl, rfl⟩
  go_wp2_with fail
  refine (NB.out _ w14).mono ?_
  rintro e w15 ⟨rfl, rfl⟩
  go_wp2_with fail
  refine UP.out.mono ?_
  rintro e w16 ⟨rfl, rfl⟩
  go_wp2
  go_ret
  exact ⟨rfl, b13⟩

set_option maxHeartbeats 4000000 in
set_option maxRecDepth 8000 in
theorem args_out_neg (seg page : Int) (n m : Nat) (hm : (n : Int).tmod 300 = (m : Int)) (hm3 : m < 300) (hn : n < 65536) (s0 : decide (seg ≥ 0) = false) (R : Hid (ArgsRes (argsS true) seg page (bs (listB m zeroN)) 1 1 0 0 true)) (w : World) :
    Calls Try.prog 6 #[.int .i64 seg, .int .i64 page, .int .u16 (n : Nat), .bool false] w fun e w' => e = .returned (.bool true) ∧ Below w.heap.size w w' := by
  have SH : Hid (∀ w', _) := fun w' => shown10_any w'
  have NP : Hid (∀ w', _) := fun w' => newPower_any w'
  have NN : Hid (∀ w', _) := fun w' => new_nil w' 3 4 1 (.slice none 0 0)
  have NB : Hid (∀ b w', _) := fun b w' => numberB_any b w'
  go_enter Try.func6, Try.ntmps6
  go_wp2_with fail
  refine (NP.out w).mono ?_
  rintro e w1 ⟨rfl, r1, b1⟩
  have b2 := b1.alloc b1.size (.cells #[.int .i64 2] 3)
  have r2 := Lib.hid (r1.out.alloc (.cells #[.int .i64 2] 3))
  have s2 : Hid (SeesZ (w1.alloc (.cells #[.int .i64 2] 3)) (some ⟨w1.heap.size, 0, none⟩) 1 (fun _ => 2)) := fun k hk => by
    have e : k = 0 := by omega
    subst e
    have r := RowAt.new w1 3 #[.int .i64 2]
    exact ⟨_, rfl, r.lt, by rw [addr_add, cell_of_row _ _ _ _ _ _ r]; rfl⟩
  have NW := Lib.hid (new_yes w.heap.size w.heap.size 3 4 1 true 0 0 0 (some ⟨w1.heap.size, 0, none⟩) 1 1 (fun _ => 2) _ r2 s2 (Nat.le_refl _) (Lib.hid (by decide)) (Lib.hid (by decide)) (by decide) (by decide) (by decide) (by decide) (by decide) (by decide))
  clear r1 r2 s2 b1
  go_wp2_with fail
  generalize w1.alloc (.cells #[.int .i64 2] 3) = w2 at *
  refine NW.out.mono ?_
  rintro e w3 ⟨L, rfl, hpp, hn', hm', h3, bn⟩
  change Hid (Ch w.heap.size w3 L (argsS true) _) at h3
  have b3 := b2.trans (bn.mono b2.size)
  clear NW b2 bn
  go_wp2_with fail
  refine (SH.out w3).mono ?_
  rintro e w4 ⟨rfl, bs4⟩
  have h4 := Lib.hid (h3.out.after bs4)
  have b4 := b3.trans (bs4.mono b3.size)
  clear h3 b3 bs4 SH
  go_wp2_with fail
  refine (NN.out w4).mono ?_
  rintro e w5 ⟨rfl, rfl⟩
  clear NN
  have h6 := h4
  have b6 := b4
  clear h4 b4
  obtain ⟨w7, ew⟩ : ∃ w7, w7 = w5 := ⟨_, rfl⟩
  rw [← ew] at h6 b6
  have cv : Hid (∀ w' g, RowAt w' g 5 (rowOf m (w8 zeroN)) → (convert 65 9 (.slice (some ⟨g, 0, none⟩) m m)).run Try.prog w' = .ok (.string (bs (listB m zeroN))) w') := fun w' g h => block_string (fun _ => by unfold zeroN; decide) Try.underlying65 Try.underlying5 Try.underlying9 h
  have m6 : Hid (m ≤ 1000000) := by unfold Hid; omega
  have zs : (bs (listB m zeroN)).size = m := by rw [bs_size, listB_length]
  generalize bs (listB m zeroN) = z at *
  have r9 := RowAt.new w7 5 (rowOf m (w8 zeroN))
  have cv9 := cv.out _ _ r9
  have b9 := b6.alloc b6.size (.cells (rowOf m (w8 zeroN)) 5)
  have h9 := Lib.hid (h6.out.after ((Below.refl _ w7).alloc (Nat.le_refl _) (.cells (rowOf m (w8 zeroN)) 5)))
  subst ew
  clear r9 h6 b6 cv
  go_wp2_with (first | (refine wpList_make_row (m := m) Try.underlying65 Try.info5 (by rw [Nat.mul_one]; exact zero_bytes m) m6.out (by decide) (by decide) rfl rfl rfl rfl ?_; rw [Nat.mul_one]))
  clear cv9 m6
  generalize World.alloc _ _ = w10 at *
  have P1 := Lib.hid (prog_any w.heap.size w10 L _ _ h9 seg page z (argsS_low.low (by decide)))
  rw [hn', hm', R.out.prog] at P1
  refine P1.out.mono ?_
  rintro e w11 ⟨rfl, hv11, h11, g11⟩
  have b11 := b9.trans (g11.under h9.out b9.size)
  have E1 := Lib.hid (erase_any w.heap.size w11 L _ _ h11 seg ((argsS_low.prog 3 4 seg page z).low (by decide)))
  rw [hn', R.out.erase] at E1
  clear P1 h9 b9 g11
  go_wp2_with fail
  refine E1.out.mono ?_
  rintro e w12 ⟨rfl, hv12, h12, g12⟩
  have b12 := b11.trans (g12.under h11.out b11.size)
  have CT := Lib.hid (counts_any w.heap.size w12 L _ _ h12)
  rw [R.out.progs, R.out.erases] at CT
  clear E1 h11 b11 g12
  go_wp2_with fail
  refine CT.out.mono ?_
  rintro e w13 ⟨rfl, bb⟩
  have h13 := Lib.hid (h12.out.after bb)
  have b13 := b12.trans (bb.mono b12.size)
  have UP := Lib.hid (powUp_any L.pp _ _ _ _ w13 (Lib.hid h13.out.pow))
  rw [R.out.up, hpp] at UP
  clear CT h12 b12 bb R
  go_wp2_with fail
  refine (NB.out _ w13).mono ?_
  rintro e w14 ⟨rfl, rfl⟩
  go_wp2_with fail
  refine (NB.out _ w14).mono ?_
  rintro e w15 ⟨rfl, rfl⟩
  go_wp2_with fail
  refine UP.out.mono ?_
  rintro e w16 ⟨rfl, rfl⟩
  go_wp2
  go_ret
  exact ⟨rfl, b13⟩

set_option maxHeartbeats 4000000 in
set_option maxRecDepth 8000 in
theorem args_out_big (seg page : Int) (n m : Nat) (hm : (n : Int).tmod 300 = (m : Int)) (hm3 : m < 300) (hn : n < 65536) (s0 : decide (seg ≥ 0) = true) (s1 : decide (seg < 3) = false) (R : Hid (ArgsRes (argsS true) seg page (bs (listB m zeroN)) 1 1 0 0 true)) (w : World) :
    Calls Try.prog 6 #[.int .i64 seg, .int .i64 page, .int .u16 (n : Nat), .bool false] w fun e w' => e = .returned (.bool true) ∧ Below w.heap.size w w' := by
  have SH : Hid (∀ w', _) := fun w' => shown10_any w'
  have NP : Hid (∀ w', _) := fun w' => newPower_any w'
  have NN : Hid (∀ w', _) := fun w' => new_nil w' 3 4 1 (.slice none 0 0)
  have NB : Hid (∀ b w', _) := fun b w' => numberB_any b w'
  go_enter Try.func6, Try.ntmps6
  go_wp2_with fail
  refine (NP.out w).mono ?_
  rintro e w1 ⟨rfl, r1, b1⟩
  have b2 := b1.alloc b1.size (.cells #[.int .i64 2] 3)
  have r2 := Lib.hid (r1.out.alloc (.cells #[.int .i64 2] 3))
  have s2 : Hid (SeesZ (w1.alloc (.cells #[.int .i64 2] 3)) (some ⟨w1.heap.size, 0, none⟩) 1 (fun _ => 2)) := fun k hk => by
    have e : k = 0 := by omega
    subst e
    have r := RowAt.new w1 3 #[.int .i64 2]
    exact ⟨_, rfl, r.lt, by rw [addr_add, cell_of_row _ _ _ _ _ _ r]; rfl⟩
  have NW := Lib.hid (new_yes w.heap.size w.heap.size 3 4 1 true 0 0 0 (some ⟨w1.heap.size, 0, none⟩) 1 1 (fun _ => 2) _ r2 s2 (Nat.le_refl _) (Lib.hid (by decide)) (Lib.hid (by decide)) (by decide) (by decide) (by decide) (by decide) (by decide) (by decide))
  clear r1 r2 s2 b1
  go_wp2_with fail
  generalize w1.alloc (.cells #[.int .i64 2] 3) = w2 at *
  refine NW.out.mono ?_
  rintro e w3 ⟨L, rfl, hpp, hn', hm', h3, bn⟩
  change Hid (Ch w.heap.size w3 L (argsS true) _) at h3
  have b3 := b2.trans (bn.mono b2.size)
  clear NW b2 bn
  go_wp2_with fail
  refine (SH.out w3).mono ?_
  rintro e w4 ⟨rfl, bs4⟩
  have h4 := Lib.hid (h3.out.after bs4)
  have b4 := b3.trans (bs4.mono b3.size)
  clear h3 b3 bs4 SH
  go_wp2_with fail
  refine (NN.out w4).mono ?_
  rintro e w5 ⟨rfl, rfl⟩
  clear NN
  have h6 := h4
  have b6 := b4
  clear h4 b4
  obtain ⟨w7, ew⟩ : ∃ w7, w7 = w5 := ⟨_, rfl⟩
  rw [← ew] at h6 b6
  have cv : Hid (∀ w' g, RowAt w' g 5 (rowOf m (w8 zeroN)) → (convert 65 9 (.slice (some ⟨g, 0, none⟩) m m)).run Try.prog w' = .ok (.string (bs (listB m zeroN))) w') := fun w' g h => block_string (fun _ => by unfold zeroN; decide) Try.underlying65 Try.underlying5 Try.underlying9 h
  have m6 : Hid (m ≤ 1000000) := by unfold Hid; omega
  have zs : (bs (listB m zeroN)).size = m := by rw [bs_size, listB_length]
  generalize bs (listB m zeroN) = z at *
  have r9 := RowAt.new w7 5 (rowOf m (w8 zeroN))
  have cv9 := cv.out _ _ r9
  have b9 := b6.alloc b6.size (.cells (rowOf m (w8 zeroN)) 5)
  have h9 := Lib.hid (h6.out.after ((Below.refl _ w7).alloc (Nat.le_refl _) (.cells (rowOf m (w8 zeroN)) 5)))
  subst ew
  clear r9 h6 b6 cv
  go_wp2_with (first | (refine wpList_make_row (m := m) Try.underlying65 Try.info5 (by rw [Nat.mul_one]; exact zero_bytes m) m6.out (by decide) (by decide) rfl rfl rfl rfl ?_; rw [Nat.mul_one]))
  clear cv9 m6
  generalize World.alloc _ _ = w10 at *
  have P1 := Lib.hid (prog_any w.heap.size w10 L _ _ h9 seg page z (argsS_low.low (by decide)))
  rw [hn', hm', R.out.prog] at P1
  refine P1.out.mono ?_
  rintro e w11 ⟨rfl, hv11, h11, g11⟩
  have b11 := b9.trans (g11.under h9.out b9.size)
  have E1 := Lib.hid (erase_any w.heap.size w11 L _ _ h11 seg ((argsS_low.prog 3 4 seg page z).low (by decide)))
  rw [hn', R.out.erase] at E1
  clear P1 h9 b9 g11
  go_wp2_with fail
  refine E1.out.mono ?_
  rintro e w12 ⟨rfl, hv12, h12, g12⟩
  have b12 := b11.trans (g12.under h11.out b11.size)
  have CT := Lib.hid (counts_any w.heap.size w12 L _ _ h12)
  rw [R.out.progs, R.out.erases] at CT
  clear E1 h11 b11 g12
  go_wp2_with fail
  refine CT.out.mono ?_
  rintro e w13 ⟨rfl, bb⟩
  have h13 := Lib.hid (h12.out.after bb)
  have b13 := b12.trans (bb.mono b12.size)
  have UP := Lib.hid (powUp_any L.pp _ _ _ _ w13 (Lib.hid h13.out.pow))
  rw [R.out.up, hpp] at UP
  clear CT h12 b12 bb R
  go_wp2_with fail
  refine (NB.out _ w13).mono ?_
  rintro e w14 ⟨rfl, rfl⟩
  go_wp2_with fail
  refine (NB.out _ w14).mono ?_
  rintro e w15 ⟨rfl, rfl⟩
  go_wp2_with fail
  refine UP.out.mono ?_
  rintro e w16 ⟨rfl, rfl⟩
  go_wp2
  go_ret
  exact ⟨rfl, b13⟩

set_option maxHeartbeats 4000000 in
set_option maxRecDepth 8000 in
theorem args_two_neg (seg page : Int) (n m : Nat) (hm : (n : Int).tmod 300 = (m : Int)) (hm3 : m < 300) (hn : n < 65536) (s0 : decide (seg ≥ 0) = true) (s1 : decide (seg < 3) = true) (s2 : (seg == 2) = true) (p0 : decide (page < 0) = true) (R : Hid (ArgsRes (argsS true) seg page (bs (listB m zeroN)) 1 101 0 0 true)) (w : World) :
    Calls Try.prog 6 #[.int .i64 seg, .int .i64 page, .int .u16 (n : Nat), .bool false] w fun e w' => e = .returned (.bool true) ∧ Below w.heap.size w w' := by
  have SH : Hid (∀ w', _) := fun w' => shown10_any w'
  have NP : Hid (∀ w', _) := fun w' => newPower_any w'
  have NN : Hid (∀ w', _) := fun w' => new_nil w' 3 4 1 (.slice none 0 0)
  have NB : Hid (∀ b w', _) := fun b w' => numberB_any b w'
  go_enter Try.func6, Try.ntmps6
  go_wp2_with fail
  refine (NP.out w).mono ?_
  rintro e w1 ⟨rfl, r1, b1⟩
  have b2 := b1.alloc b1.size (.cells #[.int .i64 2] 3)
  have r2 := Lib.hid (r1.out.alloc (.cells #[.int .i64 2] 3))
  have s2 : Hid (SeesZ (w1.alloc (.cells #[.int .i64 2] 3)) (some ⟨w1.heap.size, 0, none⟩) 1 (fun _ => 2)) := fun k hk => by
    have e : k = 0 := by omega
    subst e
    have r := RowAt.new w1 3 #[.int .i64 2]
    exact ⟨_, rfl, r.lt, by rw [addr_add, cell_of_row _ _ _ _ _ _ r]; rfl⟩
  have NW := Lib.hid (new_yes w.heap.size w.heap.size 3 4 1 true 0 0 0 (some ⟨w1.heap.size, 0, none⟩) 1 1 (fun _ => 2) _ r2 s2 (Nat.le_refl _) (Lib.hid (by decide)) (Lib.hid (by decide)) (by decide) (by decide) (by decide) (by decide) (by decide) (by decide))
  clear r1 r2 s2 b1
  go_wp2_with fail
  generalize w1.alloc (.cells #[.int .i64 2] 3) = w2 at *
  refine NW.out.mono ?_
  rintro e w3 ⟨L, rfl, hpp, hn', hm', h3, bn⟩
  change Hid (Ch w.heap.size w3 L (argsS true) _) at h3
  have b3 := b2.trans (bn.mono b2.size)
  clear NW b2 bn
  go_wp2_with fail
  refine (SH.out w3).mono ?_
  rintro e w4 ⟨rfl, bs4⟩
  have h4 := Lib.hid (h3.out.after bs4)
  have b4 := b3.trans (bs4.mono b3.size)
  clear h3 b3 bs4 SH
  go_wp2_with fail
  refine (NN.out w4).mono ?_
  rintro e w5 ⟨rfl, rfl⟩
  clear NN
  have h6 := h4
  have b6 := b4
  clear h4 b4
  obtain ⟨w7, ew⟩ : ∃ w7, w7 = w5 := ⟨_, rfl⟩
  rw [← ew] at h6 b6
  have cv : Hid (∀ w' g, RowAt w' g 5 (rowOf m (w8 zeroN)) → (convert 65 9 (.slice (some ⟨g, 0, none⟩) m m)).run Try.prog w' = .ok (.string (bs (listB m zeroN))) w') := fun w' g h => block_string (fun _ => by unfold zeroN; decide) Try.underlying65 Try.underlying5 Try.underlying9 h
  have m6 : Hid (m ≤ 1000000) := by unfold Hid; omega
  have zs : (bs (listB m zeroN)).size = m := by rw [bs_size, listB_length]
  generalize bs (listB m zeroN) = z at *
  have r9 := RowAt.new w7 5 (rowOf m (w8 zeroN))
  have cv9 := cv.out _ _ r9
  have b9 := b6.alloc b6.size (.cells (rowOf m (w8 zeroN)) 5)
  have h9 := Lib.hid (h6.out.after ((Below.refl _ w7).alloc (Nat.le_refl _) (.cells (rowOf m (w8 zeroN)) 5)))
  subst ew
  clear r9 h6 b6 cv
  go_wp2_with (first | (refine wpList_make_row (m := m) Try.underlying65 Try.info5 (by rw [Nat.mul_one]; exact zero_bytes m) m6.out (by decide) (by decide) rfl rfl rfl rfl ?_; rw [Nat.mul_one]))
  clear cv9 m6
  generalize World.alloc _ _ = w10 at *
  have P1 := Lib.hid (prog_any w.heap.size w10 L _ _ h9 seg page z (argsS_low.low (by decide)))
  rw [hn', hm', R.out.prog] at P1
  refine P1.out.mono ?_
  rintro e w11 ⟨rfl, hv11, h11, g11⟩
  have b11 := b9.trans (g11.under h9.out b9.size)
  have E1 := Lib.hid (erase_any w.heap.size w11 L _ _ h11 seg ((argsS_low.prog 3 4 seg page z).low (by decide)))
  rw [hn', R.out.erase] at E1
  clear P1 h9 b9 g11
  go_wp2_with fail
  refine E1.out.mono ?_
  rintro e w12 ⟨rfl, hv12, h12, g12⟩
  have b12 := b11.trans (g12.under h11.out b11.size)
  have CT := Lib.hid (counts_any w.heap.size w12 L _ _ h12)
  rw [R.out.progs, R.out.erases] at CT
  clear E1 h11 b11 g12
  go_wp2_with fail
  refine CT.out.mono ?_
  rintro e w13 ⟨rfl, bb⟩
  have h13 := Lib.hid (h12.out.after bb)
  have b13 := b12.trans (bb.mono b12.size)
  have UP := Lib.hid (powUp_any L.pp _ _ _ _ w13 (Lib.hid h13.out.pow))
  rw [R.out.up, hpp] at UP
  clear CT h12 b12 bb R
  go_wp2_with fail
  refine (NB.out _ w13).mono ?_
  rintro e w14 ⟨rfl, rfl⟩
  go_wp2_with fail
  refine (NB.out _ w14).mono ?_
  rintro e w15 ⟨rfl, rfl⟩
  go_wp2_with fail
  refine UP.out.mono ?_
  rintro e w16 ⟨rfl, rfl⟩
  go_wp2
  go_ret
  exact ⟨rfl, b13⟩

set_option maxHeartbeats 4000000 in
set_option maxRecDepth 8000 in
theorem args_two_big (seg page : Int) (n m : Nat) (hm : (n : Int).tmod 300 = (m : Int)) (hm3 : m < 300) (hn : n < 65536) (s0 : decide (seg ≥ 0) = true) (s1 : decide (seg < 3) = true) (s2 : (seg == 2) = true) (p0 : decide (page < 0) = false) (p1 : decide (page > 3) = true) (R : Hid (ArgsRes (argsS true) seg page (bs (listB m zeroN)) 1 101 0 0 true)) (w : World) :
    Calls Try.prog 6 #[.int .i64 seg, .int .i64 page, .int .u16 (n : Nat), .bool false] w fun e w' => e = .returned (.bool true) ∧ Below w.heap.size w w' := by
  have SH : Hid (∀ w', _) := fun w' => shown10_any w'
  have NP : Hid (∀ w', _) := fun w' => newPower_any w'
  have NN : Hid (∀ w', _) := fun w' => new_nil w' 3 4 1 (.slice none 0 0)
  have NB : Hid (∀ b w', _) := fun b w' => numberB_any b w'
  go_enter Try.func6, Try.ntmps6
  go_wp2_with fail
  refine (NP.out w).mono ?_
  rintro e w1 ⟨rfl, r1, b1⟩
  have b2 := b1.alloc b1.size (.cells #[.int .i64 2] 3)
  have r2 := Lib.hid (r1.out.alloc (.cells #[.int .i64 2] 3))
  have s2 : Hid (SeesZ (w1.alloc (.cells #[.int .i64 2] 3)) (some ⟨w1.heap.size, 0, none⟩) 1 (fun _ => 2)) := fun k hk => by
    have e : k = 0 := by omega
    subst e
    have r := RowAt.new w1 3 #[.int .i64 2]
    exact ⟨_, rfl, r.lt, by rw [addr_add, cell_of_row _ _ _ _ _ _ r]; rfl⟩
  have NW := Lib.hid (new_yes w.heap.size w.heap.size 3 4 1 true 0 0 0 (some ⟨w1.heap.size, 0, none⟩) 1 1 (fun _ => 2) _ r2 s2 (Nat.le_refl _) (Lib.hid (by decide)) (Lib.hid (by decide)) (by decide) (by decide) (by decide) (by decide) (by decide) (by decide))
  clear r1 r2 s2 b1
  go_wp2_with fail
  generalize w1.alloc (.cells #[.int .i64 2] 3) = w2 at *
  refine NW.out.mono ?_
  rintro e w3 ⟨L, rfl, hpp, hn', hm', h3, bn⟩
  change Hid (Ch w.heap.size w3 L (argsS true) _) at h3
  have b3 := b2.trans (bn.mono b2.size)
  clear NW b2 bn
  go_wp2_with fail
  refine (SH.out w3).mono ?_
  rintro e w4 ⟨rfl, bs4⟩
  have h4 := Lib.hid (h3.out.after bs4)
  have b4 := b3.trans (bs4.mono b3.size)
  clear h3 b3 bs4 SH
  go_wp2_with fail
  refine (NN.out w4).mono ?_
  rintro e w5 ⟨rfl, rfl⟩
  clear NN
  have h6 := h4
  have b6 := b4
  clear h4 b4
  obtain ⟨w7, ew⟩ : ∃ w7, w7 = w5 := ⟨_, rfl⟩
  rw [← ew] at h6 b6
  have cv : Hid (∀ w' g, RowAt w' g 5 (rowOf m (w8 zeroN)) → (convert 65 9 (.slice (some ⟨g, 0, none⟩) m m)).run Try.prog w' = .ok (.string (bs (listB m zeroN))) w') := fun w' g h => block_string (fun _ => by unfold zeroN; decide) Try.underlying65 Try.underlying5 Try.underlying9 h
  have m6 : Hid (m ≤ 1000000) := by unfold Hid; omega
  have zs : (bs (listB m zeroN)).size = m := by rw [bs_size, listB_length]
  generalize bs (listB m zeroN) = z at *
  have r9 := RowAt.new w7 5 (rowOf m (w8 zeroN))
  have cv9 := cv.out _ _ r9
  have b9 := b6.alloc b6.size (.cells (rowOf m (w8 zeroN)) 5)
  have h9 := Lib.hid (h6.out.after ((Below.refl _ w7).alloc (Nat.le_refl _) (.cells (rowOf m (w8 zeroN)) 5)))
  subst ew
  clear r9 h6 b6 cv
  go_wp2_with (first | (refine wpList_make_row (m := m) Try.underlying65 Try.info5 (by rw [Nat.mul_one]; exact zero_bytes m) m6.out (by decide) (by decide) rfl rfl rfl rfl ?_; rw [Nat.mul_one]))
  clear cv9 m6
  generalize World.alloc _ _ = w10 at *
  have P1 := Lib.hid (prog_any w.heap.size w10 L _ _ h9 seg page z (argsS_low.low (by decide)))
  rw [hn', hm', R.out.prog] at P1
  refine P1.out.mono ?_
  rintro e w11 ⟨rfl, hv11, h11, g11⟩
  have b11 := b9.trans (g11.under h9.out b9.size)
  have E1 := Lib.hid (erase_any w.heap.size w11 L _ _ h11 seg ((argsS_low.prog 3 4 seg page z).low (by decide)))
  rw [hn', R.out.erase] at E1
  clear P1 h9 b9 g11
  go_wp2_with fail
  refine E1.out.mono ?_
  rintro e w12 ⟨rfl, hv12, h12, g12⟩
  have b12 := b11.trans (g12.under h11.out b11.size)
  have CT := Lib.hid (counts_any w.heap.size w12 L _ _ h12)
  rw [R.out.progs, R.out.erases] at CT
  clear E1 h11 b11 g12
  go_wp2_with fail
  refine CT.out.mono ?_
  rintro e w13 ⟨rfl, bb⟩
  have h13 := Lib.hid (h12.out.after bb)
  have b13 := b12.trans (bb.mono b12.size)
  have UP := Lib.hid (powUp_any L.pp _ _ _ _ w13 (Lib.hid h13.out.pow))
  rw [R.out.up, hpp] at UP
  clear CT h12 b12 bb R
  go_wp2_with fail
  refine (NB.out _ w13).mono ?_
  rintro e w14 ⟨rfl, rfl⟩
  go_wp2_with fail
  refine (NB.out _ w14).mono ?_
  rintro e w15 ⟨rfl, rfl⟩
  go_wp2_with fail
  refine UP.out.mono ?_
  rintro e w16 ⟨rfl, rfl⟩
  go_wp2
  go_ret
  exact ⟨rfl, b13⟩

set_option maxHeartbeats 4000000 in
set_option maxRecDepth 8000 in
theorem args_two_long (seg page : Int) (n m : Nat) (hm : (n : Int).tmod 300 = (m : Int)) (hm3 : m < 300) (hn : n < 65536) (s0 : decide (seg ≥ 0) = true) (s1 : decide (seg < 3) = true) (s2 : (seg == 2) = true) (p0 : decide (page < 0) = false) (p1 : decide (page > 3) = false) (p2 : decide ((m : Int) > 256) = true) (R : Hid (ArgsRes (argsS true) seg page (bs (listB m zeroN)) 1 101 0 0 true)) (w : World) :
    Calls Try.prog 6 #[.int .i64 seg, .int .i64 page, .int .u16 (n : Nat), .bool false] w fun e w' => e = .returned (.bool true) ∧ Below w.heap.size w w' := by
  have SH : Hid (∀ w', _) := fun w' => shown10_any w'
  have NP : Hid (∀ w', _) := fun w' => newPower_any w'
  have NN : Hid (∀ w', _) := fun w' => new_nil w' 3 4 1 (.slice none 0 0)
  have NB : Hid (∀ b w', _) := fun b w' => numberB_any b w'
  go_enter Try.func6, Try.ntmps6
  go_wp2_with fail
  refine (NP.out w).mono ?_
  rintro e w1 ⟨rfl, r1, b1⟩
  have b2 := b1.alloc b1.size (.cells #[.int .i64 2] 3)
  have r2 := Lib.hid (r1.out.alloc (.cells #[.int .i64 2] 3))
  have s2 : Hid (SeesZ (w1.alloc (.cells #[.int .i64 2] 3)) (some ⟨w1.heap.size, 0, none⟩) 1 (fun _ => 2)) := fun k hk => by
    have e : k = 0 := by omega
    subst e
    have r := RowAt.new w1 3 #[.int .i64 2]
    exact ⟨_, rfl, r.lt, by rw [addr_add, cell_of_row _ _ _ _ _ _ r]; rfl⟩
  have NW := Lib.hid (new_yes w.heap.size w.heap.size 3 4 1 true 0 0 0 (some ⟨w1.heap.size, 0, none⟩) 1 1 (fun _ => 2) _ r2 s2 (Nat.le_refl _) (Lib.hid (by decide)) (Lib.hid (by decide)) (by decide) (by decide) (by decide) (by decide) (by decide) (by decide))
  clear r1 r2 s2 b1
  go_wp2_with fail
  generalize w1.alloc (.cells #[.int .i64 2] 3) = w2 at *
  refine NW.out.mono ?_
  rintro e w3 ⟨L, rfl, hpp, hn', hm', h3, bn⟩
  change Hid (Ch w.heap.size w3 L (argsS true) _) at h3
  have b3 := b2.trans (bn.mono b2.size)
  clear NW b2 bn
  go_wp2_with fail
  refine (SH.out w3).mono ?_
  rintro e w4 ⟨rfl, bs4⟩
  have h4 := Lib.hid (h3.out.after bs4)
  have b4 := b3.trans (bs4.mono b3.size)
  clear h3 b3 bs4 SH
  go_wp2_with fail
  refine (NN.out w4).mono ?_
  rintro e w5 ⟨rfl, rfl⟩
  clear NN
  have h6 := h4
  have b6 := b4
  clear h4 b4
  obtain ⟨w7, ew⟩ : ∃ w7, w7 = w5 := ⟨_, rfl⟩
  rw [← ew] at h6 b6
  have cv : Hid (∀ w' g, RowAt w' g 5 (rowOf m (w8 zeroN)) → (convert 65 9 (.slice (some ⟨g, 0, none⟩) m m)).run Try.prog w' = .ok (.string (bs (listB m zeroN))) w') := fun w' g h => block_string (fun _ => by unfold zeroN; decide) Try.underlying65 Try.underlying5 Try.underlying9 h
  have m6 : Hid (m ≤ 1000000) := by unfold Hid; omega
  have zs : (bs (listB m zeroN)).size = m := by rw [bs_size, listB_length]
  generalize bs (listB m zeroN) = z at *
  have r9 := RowAt.new w7 5 (rowOf m (w8 zeroN))
  have cv9 := cv.out _ _ r9
  have b9 := b6.alloc b6.size (.cells (rowOf m (w8 zeroN)) 5)
  have h9 := Lib.hid (h6.out.after ((Below.refl _ w7).alloc (Nat.le_refl _) (.cells (rowOf m (w8 zeroN)) 5)))
  subst ew
  clear r9 h6 b6 cv
  go_wp2_with (first | (refine wpList_make_row (m := m) Try.underlying65 Try.info5 (by rw [Nat.mul_one]; exact zero_bytes m) m6.out (by decide) (by decide) rfl rfl rfl rfl ?_; rw [Nat.mul_one]))
  clear cv9 m6
  generalize World.alloc _ _ = w10 at *
  have P1 := Lib.hid (prog_any w.heap.size w10 L _ _ h9 seg page z (argsS_low.low (by decide)))
  rw [hn', hm', R.out.prog] at P1
  refine P1.out.mono ?_
  rintro e w11 ⟨rfl, hv11, h11, g11⟩
  have b11 := b9.trans (g11.under h9.out b9.size)
  have E1 := Lib.hid (erase_any w.heap.size w11 L _ _ h11 seg ((argsS_low.prog 3 4 seg page z).low (by decide)))
  rw [hn', R.out.erase] at E1
  clear P1 h9 b9 g11
  go_wp2_with fail
  refine E1.out.mono ?_
  rintro e w12 ⟨rfl, hv12, h12, g12⟩
  have b12 := b11.trans (g12.under h11.out b11.size)
  have CT := Lib.hid (counts_any w.heap.size w12 L _ _ h12)
  rw [R.out.progs, R.out.erases] at CT
  clear E1 h11 b11 g12
  go_wp2_with fail
  refine CT.out.mono ?_
  rintro e w13 ⟨rfl, bb⟩
  have h13 := Lib.hid (h12.out.after bb)
  have b13 := b12.trans (bb.mono b12.size)
  have UP := Lib.hid (powUp_any L.pp _ _ _ _ w13 (Lib.hid h13.out.pow))
  rw [R.out.up, hpp] at UP
  clear CT h12 b12 bb R
  go_wp2_with fail
  refine (NB.out _ w13).mono ?_
  rintro e w14 ⟨rfl, rfl⟩
  go_wp2_with fail
  refine (NB.out _ w14).mono ?_
  rintro e w15 ⟨rfl, rfl⟩
  go_wp2_with fail
  refine UP.out.mono ?_
  rintro e w16 ⟨rfl, rfl⟩
  go_wp2
  go_ret
  exact ⟨rfl, b13⟩

set_option maxHeartbeats 4000000 in
set_option maxRecDepth 8000 in
theorem args_two_ok (seg page : Int) (n m : Nat) (hm : (n : Int).tmod 300 = (m : Int)) (hm3 : m < 300) (hn : n < 65536) (s0 : decide (seg ≥ 0) = true) (s1 : decide (seg < 3) = true) (s2 : (seg == 2) = true) (p0 : decide (page < 0) = false) (p1 : decide (page > 3) = false) (p2 : decide ((m : Int) > 256) = false) (R : Hid (ArgsRes (argsS true) seg page (bs (listB m zeroN)) 0 101 1 0 true)) (w : World) :
    Calls Try.prog 6 #[.int .i64 seg, .int .i64 page, .int .u16 (n : Nat), .bool false] w fun e w' => e = .returned (.bool true) ∧ Below w.heap.size w w' := by
  have SH : Hid (∀ w', _) := fun w' => shown10_any w'
  have NP : Hid (∀ w', _) := fun w' => newPower_any w'
  have NN : Hid (∀ w', _) := fun w' => new_nil w' 3 4 1 (.slice none 0 0)
  have NB : Hid (∀ b w', _) := fun b w' => numberB_any b w'
  go_enter Try.func6, Try.ntmps6
  go_wp2_with fail
  refine (NP.out w).mono ?_
  rintro e w1 ⟨rfl, r1, b1⟩
  have b2 := b1.alloc b1.size (.cells #[.int .i64 2] 3)
  have r2 := Lib.hid (r1.out.alloc (.cells #[.int .i64 2] 3))
  have s2 : Hid (SeesZ (w1.alloc (.cells #[.int .i64 2] 3)) (some ⟨w1.heap.size, 0, none⟩) 1 (fun _ => 2)) := fun k hk => by
    have e : k = 0 := by omega
    subst e
    have r := RowAt.new w1 3 #[.int .i64 2]
    exact ⟨_, rfl, r.lt, by rw [addr_add, cell_of_row _ _ _ _ _ _ r]; rfl⟩
  have NW := Lib.hid (new_yes w.heap.size w.heap.size 3 4 1 true 0 0 0 (some ⟨w1.heap.size, 0, none⟩) 1 1 (fun _ => 2) _ r2 s2 (Nat.le_refl _) (Lib.hid (by decide)) (Lib.hid (by decide)) (by decide) (by decide) (by decide) (by decide) (by decide) (by decide))
  clear r1 r2 s2 b1
  go_wp2_with fail
  generalize w1.alloc (.cells #[.int .i64 2] 3) = w2 at *
  refine NW.out.mono ?_
  rintro e w3 ⟨L, rfl, hpp, hn', hm', h3, bn⟩
  change Hid (Ch w.heap.size w3 L (argsS true) _) at h3
  have b3 := b2.trans (bn.mono b2.size)
  clear NW b2 bn
  go_wp2_with fail
  refine (SH.out w3).mono ?_
  rintro e w4 ⟨rfl, bs4⟩
  have h4 := Lib.hid (h3.out.after bs4)
  have b4 := b3.trans (bs4.mono b3.size)
  clear h3 b3 bs4 SH
  go_wp2_with fail
  refine (NN.out w4).mono ?_
  rintro e w5 ⟨rfl, rfl⟩
  clear NN
  have h6 := h4
  have b6 := b4
  clear h4 b4
  obtain ⟨w7, ew⟩ : ∃ w7, w7 = w5 := ⟨_, rfl⟩
  rw [← ew] at h6 b6
  have cv : Hid (∀ w' g, RowAt w' g 5 (rowOf m (w8 zeroN)) → (convert 65 9 (.slice (some ⟨g, 0, none⟩) m m)).run Try.prog w' = .ok (.string (bs (listB m zeroN))) w') := fun w' g h => block_string (fun _ => by unfold zeroN; decide) Try.underlying65 Try.underlying5 Try.underlying9 h
  have m6 : Hid (m ≤ 1000000) := by unfold Hid; omega
  have zs : (bs (listB m zeroN)).size = m := by rw [bs_size, listB_length]
  generalize bs (listB m zeroN) = z at *
  have r9 := RowAt.new w7 5 (rowOf m (w8 zeroN))
  have cv9 := cv.out _ _ r9
  have b9 := b6.alloc b6.size (.cells (rowOf m (w8 zeroN)) 5)
  have h9 := Lib.hid (h6.out.after ((Below.refl _ w7).alloc (Nat.le_refl _) (.cells (rowOf m (w8 zeroN)) 5)))
  subst ew
  clear r9 h6 b6 cv
  go_wp2_with (first | (refine wpList_make_row (m := m) Try.underlying65 Try.info5 (by rw [Nat.mul_one]; exact zero_bytes m) m6.out (by decide) (by decide) rfl rfl rfl rfl ?_; rw [Nat.mul_one]))
  clear cv9 m6
  generalize World.alloc _ _ = w10 at *
  have P1 := Lib.hid (prog_any w.heap.size w10 L _ _ h9 seg page z (argsS_low.low (by decide)))
  rw [hn', hm', R.out.prog] at P1
  refine P1.out.mono ?_
  rintro e w11 ⟨rfl, hv11, h11, g11⟩
  have b11 := b9.trans (g11.under h9.out b9.size)
  have E1 := Lib.hid (erase_any w.heap.size w11 L _ _ h11 seg ((argsS_low.prog 3 4 seg page z).low (by decide)))
  rw [hn', R.out.erase] at E1
  clear P1 h9 b9 g11
  go_wp2_with fail
  refine E1.out.mono ?_
  rintro e w12 ⟨rfl, hv12, h12, g12⟩
  have b12 := b11.trans (g12.under h11.out b11.size)
  have CT := Lib.hid (counts_any w.heap.size w12 L _ _ h12)
  rw [R.out.progs, R.out.erases] at CT
  clear E1 h11 b11 g12
  go_wp2_with fail
  refine CT.out.mono ?_
  rintro e w13 ⟨rfl, bb⟩
  have h13 := Lib.hid (h12.out.after bb)
  have b13 := b12.trans (bb.mono b12.size)
  have UP := Lib.hid (powUp_any L.pp _ _ _ _ w13 (Lib.hid h13.out.pow))
  rw [R.out.up, hpp] at UP
  clear CT h12 b12 bb R
  go_wp2_with fail
  refine (NB.out _ w13).mono ?_
  rintro e w14 ⟨rfl, rfl⟩
  go_wp2_with fail
  refine (NB.out _ w14).mono ?_
  rintro e w15 ⟨rfl, rfl⟩
  go_wp2_with fail
  refine UP.out.mono ?_
  rintro e w16 ⟨rfl, rfl⟩
  go_wp2
  go_ret
  exact ⟨rfl, b13⟩

set_option maxHeartbeats 4000000 in
set_option maxRecDepth 8000 in
theorem args_low_neg (seg page : Int) (n m : Nat) (hm : (n : Int).tmod 300 = (m : Int)) (hm3 : m < 300) (hn : n < 65536) (s0 : decide (seg ≥ 0) = true) (s1 : decide (seg < 3) = true) (s2 : (seg == 2) = false) (p0 : decide (page < 0) = true) (R : Hid (ArgsRes (argsS true) seg page (bs (listB m zeroN)) 1 0 0 1 true)) (w : World) :
    Calls Try.prog 6 #[.int .i64 seg, .int .i64 page, .int .u16 (n : Nat), .bool false] w fun e w' => e = .returned (.bool true) ∧ Below w.heap.size w w' := by
  have SH : Hid (∀ w', _) := fun w' => shown10_any w'
  have NP : Hid (∀ w', _) := fun w' => newPower_any w'
  have NN : Hid (∀ w', _) := fun w' => new_nil w' 3 4 1 (.slice none 0 0)
  have NB : Hid (∀ b w', _) := fun b w' => numberB_any b w'
  go_enter Try.func6, Try.ntmps6
  go_wp2_with fail
  refine (NP.out w).mono ?_
  rintro e w1 ⟨rfl, r1, b1⟩
  have b2 := b1.alloc b1.size (.cells #[.int .i64 2] 3)
  have r2 := Lib.hid (r1.out.alloc (.cells #[.int .i64 2] 3))
  have s2 : Hid (SeesZ (w1.alloc (.cells #[.int .i64 2] 3)) (some ⟨w1.heap.size, 0, none⟩) 1 (fun _ => 2)) := fun k hk => by
    have e : k = 0 := by omega
    subst e
    have r := RowAt.new w1 3 #[.int .i64 2]
    exact ⟨_, rfl, r.lt, by rw [addr_add, cell_of_row _ _ _ _ _ _ r]; rfl⟩
  have NW := Lib.hid (new_yes w.heap.size w.heap.size 3 4 1 true 0 0 0 (some ⟨w1.heap.size, 0, none⟩) 1 1 (fun _ => 2) _ r2 s2 (Nat.le_refl _) (Lib.hid (by decide)) (Lib.hid (by decide)) (by decide) (by decide) (by decide) (by decide) (by decide) (by decide))
  clear r1 r2 s2 b1
  go_wp2_with fail
  generalize w1.alloc (.cells #[.int .i64 2] 3) = w2 at *
  refine NW.out.mono ?_
  rintro e w3 ⟨L, rfl, hpp, hn', hm', h3, bn⟩
  change Hid (Ch w.heap.size w3 L (argsS true) _) at h3
  have b3 := b2.trans (bn.mono b2.size)
  clear NW b2 bn
  go_wp2_with fail
  refine (SH.out w3).mono ?_
  rintro e w4 ⟨rfl, bs4⟩
  have h4 := Lib.hid (h3.out.after bs4)
  have b4 := b3.trans (bs4.mono b3.size)
  clear h3 b3 bs4 SH
  go_wp2_with fail
  refine (NN.out w4).mono ?_
  rintro e w5 ⟨rfl, rfl⟩
  clear NN
  have h6 := h4
  have b6 := b4
  clear h4 b4
  obtain ⟨w7, ew⟩ : ∃ w7, w7 = w5 := ⟨_, rfl⟩
  rw [← ew] at h6 b6
  have cv : Hid (∀ w' g, RowAt w' g 5 (rowOf m (w8 zeroN)) → (convert 65 9 (.slice (some ⟨g, 0, none⟩) m m)).run Try.prog w' = .ok (.string (bs (listB m zeroN))) w') := fun w' g h => block_string (fun _ => by unfold zeroN; decide) Try.underlying65 Try.underlying5 Try.underlying9 h
  have m6 : Hid (m ≤ 1000000) := by unfold Hid; omega
  have zs : (bs (listB m zeroN)).size = m := by rw [bs_size, listB_length]
  generalize bs (listB m zeroN) = z at *
  have r9 := RowAt.new w7 5 (rowOf m (w8 zeroN))
  have cv9 := cv.out _ _ r9
  have b9 := b6.alloc b6.size (.cells (rowOf m (w8 zeroN)) 5)
  have h9 := Lib.hid (h6.out.after ((Below.refl _ w7).alloc (Nat.le_refl _) (.cells (rowOf m (w8 zeroN)) 5)))
  subst ew
  clear r9 h6 b6 cv
  go_wp2_with (first | (refine wpList_make_row (m := m) Try.underlying65 Try.info5 (by rw [Nat.mul_one]; exact zero_bytes m) m6.out (by decide) (by decide) rfl rfl rfl rfl ?_; rw [Nat.mul_one]))
  clear cv9 m6
  generalize World.alloc _ _ = w10 at *
  have P1 := Lib.hid (prog_any w.heap.size w10 L _ _ h9 seg page z (argsS_low.low (by decide)))
  rw [hn', hm', R.out.prog] at P1
  refine P1.out.mono ?_
  rintro e w11 ⟨rfl, hv11, h11, g11⟩
  have b11 := b9.trans (g11.under h9.out b9.size)
  have E1 := Lib.hid (erase_any w.heap.size w11 L _ _ h11 seg ((argsS_low.prog 3 4 seg page z).low (by decide)))
  rw [hn', R.out.erase] at E1
  clear P1 h9 b9 g11
  go_wp2_with fail
  refine E1.out.mono ?_
  rintro e w12 ⟨rfl, hv12, h12, g12⟩
  have b12 := b11.trans (g12.under h11.out b11.size)
  have CT := Lib.hid (counts_any w.heap.size w12 L _ _ h12)
  rw [R.out.progs, R.out.erases] at CT
  clear E1 h11 b11 g12
  go_wp2_with fail
  refine CT.out.mono ?_
  rintro e w13 ⟨rfl, bb⟩
  have h13 := Lib.hid (h12.out.after bb)
  have b13 := b12.trans (bb.mono b12.size)
  have UP := Lib.hid (powUp_any L.pp _ _ _ _ w13 (Lib.hid h13.out.pow))
  rw [R.out.up, hpp] at UP
  clear CT h12 b12 bb R
  go_wp2_with fail
  refine (NB.out _ w13).mono ?_
  rintro e w14 ⟨rfl, rfl⟩
  go_wp2_with fail
  refine (NB.out _ w14).mono ?_
  rintro e w15 ⟨rfl, rfl⟩
  go_wp2_with fail
  refine UP.out.mono ?_
  rintro e w16 ⟨rfl, rfl⟩
  go_wp2
  go_ret
  exact ⟨rfl, b13⟩

set_option maxHeartbeats 4000000 in
set_option maxRecDepth 8000 in
theorem args_low_big (seg page : Int) (n m : Nat) (hm : (n : Int).tmod 300 = (m : Int)) (hm3 : m < 300) (hn : n < 65536) (s0 : decide (seg ≥ 0) = true) (s1 : decide (seg < 3) = true) (s2 : (seg == 2) = false) (p0 : decide (page < 0) = false) (p1 : decide (page > 3) = true) (R : Hid (ArgsRes (argsS true) seg page (bs (listB m zeroN)) 1 0 0 1 true)) (w : World) :
    Calls Try.prog 6 #[.int .i64 seg, .int .i64 page, .int .u16 (n : Nat), .bool false] w fun e w' => e = .returned (.bool true) ∧ Below w.heap.size w w' := by
  have SH : Hid (∀ w', _) := fun w' => shown10_any w'
  have NP : Hid (∀ w', _) := fun w' => newPower_any w'
  have NN : Hid (∀ w', _) := fun w' => new_nil w' 3 4 1 (.slice none 0 0)
  have NB : Hid (∀ b w', _) := fun b w' => numberB_any b w'
  go_enter Try.func6, Try.ntmps6
  go_wp2_with fail
  refine (NP.out w).mono ?_
  rintro e w1 ⟨rfl, r1, b1⟩
  have b2 := b1.alloc b1.size (.cells #[.int .i64 2] 3)
  have r2 := Lib.hid (r1.out.alloc (.cells #[.int .i64 2] 3))
  have s2 : Hid (SeesZ (w1.alloc (.cells #[.int .i64 2] 3)) (some ⟨w1.heap.size, 0, none⟩) 1 (fun _ => 2)) := fun k hk => by
    have e : k = 0 := by omega
    subst e
    have r := RowAt.new w1 3 #[.int .i64 2]
    exact ⟨_, rfl, r.lt, by rw [addr_add, cell_of_row _ _ _ _ _ _ r]; rfl⟩
  have NW := Lib.hid (new_yes w.heap.size w.heap.size 3 4 1 true 0 0 0 (some ⟨w1.heap.size, 0, none⟩) 1 1 (fun _ => 2) _ r2 s2 (Nat.le_refl _) (Lib.hid (by decide)) (Lib.hid (by decide)) (by decide) (by decide) (by decide) (by decide) (by decide) (by decide))
  clear r1 r2 s2 b1
  go_wp2_with fail
  generalize w1.alloc (.cells #[.int .i64 2] 3) = w2 at *
  refine NW.out.mono ?_
  rintro e w3 ⟨L, rfl, hpp, hn', hm', h3, bn⟩
  change Hid (Ch w.heap.size w3 L (argsS true) _) at h3
  have b3 := b2.trans (bn.mono b2.size)
  clear NW b2 bn
  go_wp2_with fail
  refine (SH.out w3).mono ?_
  rintro e w4 ⟨rfl, bs4⟩
  have h4 := Lib.hid (h3.out.after bs4)
  have b4 := b3.trans (bs4.mono b3.size)
  clear h3 b3 bs4 SH
  go_wp2_with fail
  refine (NN.out w4).mono ?_
  rintro e w5 ⟨rfl, rfl⟩
  clear NN
  have h6 := h4
  have b6 := b4
  clear h4 b4
  obtain ⟨w7, ew⟩ : ∃ w7, w7 = w5 := ⟨_, rfl⟩
  rw [← ew] at h6 b6
  have cv : Hid (∀ w' g, RowAt w' g 5 (rowOf m (w8 zeroN)) → (convert 65 9 (.slice (some ⟨g, 0, none⟩) m m)).run Try.prog w' = .ok (.string (bs (listB m zeroN))) w') := fun w' g h => block_string (fun _ => by unfold zeroN; decide) Try.underlying65 Try.underlying5 Try.underlying9 h
  have m6 : Hid (m ≤ 1000000) := by unfold Hid; omega
  have zs : (bs (listB m zeroN)).size = m := by rw [bs_size, listB_length]
  generalize bs (listB m zeroN) = z at *
  have r9 := RowAt.new w7 5 (rowOf m (w8 zeroN))
  have cv9 := cv.out _ _ r9
  have b9 := b6.alloc b6.size (.cells (rowOf m (w8 zeroN)) 5)
  have h9 := Lib.hid (h6.out.after ((Below.refl _ w7).alloc (Nat.le_refl _) (.cells (rowOf m (w8 zeroN)) 5)))
  subst ew
  clear r9 h6 b6 cv
  go_wp2_with (first | (refine wpList_make_row (m := m) Try.underlying65 Try.info5 (by rw [Nat.mul_one]; exact zero_bytes m) m6.out (by decide) (by decide) rfl rfl rfl rfl ?_; rw [Nat.mul_one]))
  clear cv9 m6
  generalize World.alloc _ _ = w10 at *
  have P1 := Lib.hid (prog_any w.heap.size w10 L _ _ h9 seg page z (argsS_low.low (by decide)))
  rw [hn', hm', R.out.prog] at P1
  refine P1.out.mono ?_
  rintro e w11 ⟨rfl, hv11, h11, g11⟩
  have b11 := b9.trans (g11.under h9.out b9.size)
  have E1 := Lib.hid (erase_any w.heap.size w11 L _ _ h11 seg ((argsS_low.prog 3 4 seg page z).low (by decide)))
  rw [hn', R.out.erase] at E1
  clear P1 h9 b9 g11
  go_wp2_with fail
  refine E1.out.mono ?_
  rintro e w12 ⟨rfl, hv12, h12, g12⟩
  have b12 := b11.trans (g12.under h11.out b11.size)
  have CT := Lib.hid (counts_any w.heap.size w12 L _ _ h12)
  rw [R.out.progs, R.out.erases] at CT
  clear E1 h11 b11 g12
  go_wp2_with fail
  refine CT.out.mono ?_
  rintro e w13 ⟨rfl, bb⟩
  have h13 := Lib.hid (h12.out.after bb)
  have b13 := b12.trans (bb.mono b12.size)
  have UP := Lib.hid (powUp_any L.pp _ _ _ _ w13 (Lib.hid h13.out.pow))
  rw [R.out.up, hpp] at UP
  clear CT h12 b12 bb R
  go_wp2_with fail
  refine (NB.out _ w13).mono ?_
  rintro e w14 ⟨rfl, rfl⟩
  go_wp2_with fail
  refine (NB.out _ w14).mono ?_
  rintro e w15 ⟨rfl, rfl⟩
  go_wp2_with fail
  refine UP.out.mono ?_
  rintro e w16 ⟨rfl, rfl⟩
  go_wp2
  go_ret
  exact ⟨rfl, b13⟩

set_option maxHeartbeats 4000000 in
set_option maxRecDepth 8000 in
theorem args_low_long (seg page : Int) (n m : Nat) (hm : (n : Int).tmod 300 = (m : Int)) (hm3 : m < 300) (hn : n < 65536) (s0 : decide (seg ≥ 0) = true) (s1 : decide (seg < 3) = true) (s2 : (seg == 2) = false) (p0 : decide (page < 0) = false) (p1 : decide (page > 3) = false) (p2 : decide ((m : Int) > 256) = true) (R : Hid (ArgsRes (argsS true) seg page (bs (listB m zeroN)) 1 0 0 1 true)) (w : World) :
    Calls Try.prog 6 #[.int .i64 seg, .int .i64 page, .int .u16 (n : Nat), .bool false] w fun e w' => e = .returned (.bool true) ∧ Below w.heap.size w w' := by
  have SH : Hid (∀ w', _) := fun w' => shown10_any w'
  have NP : Hid (∀ w', _) := fun w' => newPower_any w'
  have NN : Hid (∀ w', _) := fun w' => new_nil w' 3 4 1 (.slice none 0 0)
  have NB : Hid (∀ b w', _) := fun b w' => numberB_any b w'
  go_enter Try.func6, Try.ntmps6
  go_wp2_with fail
  refine (NP.out w).mono ?_
  rintro e w1 ⟨rfl, r1, b1⟩
  have b2 := b1.alloc b1.size (.cells #[.int .i64 2] 3)
  have r2 := Lib.hid (r1.out.alloc (.cells #[.int .i64 2] 3))
  have s2 : Hid (SeesZ (w1.alloc (.cells #[.int .i64 2] 3)) (some ⟨w1.heap.size, 0, none⟩) 1 (fun _ => 2)) := fun k hk => by
    have e : k = 0 := by omega
    subst e
    have r := RowAt.new w1 3 #[.int .i64 2]
    exact ⟨_, rfl, r.lt, by rw [addr_add, cell_of_row _ _ _ _ _ _ r]; rfl⟩
  have NW := Lib.hid (new_yes w.heap.size w.heap.size 3 4 1 true 0 0 0 (some ⟨w1.heap.size, 0, none⟩) 1 1 (fun _ => 2) _ r2 s2 (Nat.le_refl _) (Lib.hid (by decide)) (Lib.hid (by decide)) (by decide) (by decide) (by decide) (by decide) (by decide) (by decide))
  clear r1 r2 s2 b1
  go_wp2_with fail
  generalize w1.alloc (.cells #[.int .i64 2] 3) = w2 at *
  refine NW.out.mono ?_
  rintro e w3 ⟨L, rfl, hpp, hn', hm', h3, bn⟩
  change Hid (Ch w.heap.size w3 L (argsS true) _) at h3
  have b3 := b2.trans (bn.mono b2.size)
  clear NW b2 bn
  go_wp2_with fail
  refine (SH.out w3).mono ?_
  rintro e w4 ⟨rfl, bs4⟩
  have h4 := Lib.hid (h3.out.after bs4)
  have b4 := b3.trans (bs4.mono b3.size)
  clear h3 b3 bs4 SH
  go_wp2_with fail
  refine (NN.out w4).mono ?_
  rintro e w5 ⟨rfl, rfl⟩
  clear NN
  have h6 := h4
  have b6 := b4
  clear h4 b4
  obtain ⟨w7, ew⟩ : ∃ w7, w7 = w5 := ⟨_, rfl⟩
  rw [← ew] at h6 b6
  have cv : Hid (∀ w' g, RowAt w' g 5 (rowOf m (w8 zeroN)) → (convert 65 9 (.slice (some ⟨g, 0, none⟩) m m)).run Try.prog w' = .ok (.string (bs (listB m zeroN))) w') := fun w' g h => block_string (fun _ => by unfold zeroN; decide) Try.underlying65 Try.underlying5 Try.underlying9 h
  have m6 : Hid (m ≤ 1000000) := by unfold Hid; omega
  have zs : (bs (listB m zeroN)).size = m := by rw [bs_size, listB_length]
  generalize bs (listB m zeroN) = z at *
  have r9 := RowAt.new w7 5 (rowOf m (w8 zeroN))
  have cv9 := cv.out _ _ r9
  have b9 := b6.alloc b6.size (.cells (rowOf m (w8 zeroN)) 5)
  have h9 := Lib.hid (h6.out.after ((Below.refl _ w7).alloc (Nat.le_refl _) (.cells (rowOf m (w8 zeroN)) 5)))
  subst ew
  clear r9 h6 b6 cv
  go_wp2_with (first | (refine wpList_make_row (m := m) Try.underlying65 Try.info5 (by rw [Nat.mul_one]; exact zero_bytes m) m6.out (by decide) (by decide) rfl rfl rfl rfl ?_; rw [Nat.mul_one]))
  clear cv9 m6
  generalize World.alloc _ _ = w10 at *
  have P1 := Lib.hid (prog_any w.heap.size w10 L _ _ h9 seg page z (argsS_low.low (by decide)))
  rw [hn', hm', R.out.prog] at P1
  refine P1.out.mono ?_
  rintro e w11 ⟨rfl, hv11, h11, g11⟩
  have b11 := b9.trans (g11.under h9.out b9.size)
  have E1 := Lib.hid (erase_any w.heap.size w11 L _ _ h11 seg ((argsS_low.prog 3 4 seg page z).low (by decide)))
  rw [hn', R.out.erase] at E1
  clear P1 h9 b9 g11
  go_wp2_with fail
  refine E1.out.mono ?_
  rintro e w12 ⟨rfl, hv12, h12, g12⟩
  have b12 := b11.trans (g12.under h11.out b11.size)
  have CT := Lib.hid (counts_any w.heap.size w12 L _ _ h12)
  rw [R.out.progs, R.out.erases] at CT
  clear E1 h11 b11 g12
  go_wp2_with fail
  refine CT.out.mono ?_
  rintro e w13 ⟨rfl, bb⟩
  have h13 := Lib.hid (h12.out.after bb)
  have b13 := b12.trans (bb.mono b12.size)
  have UP := Lib.hid (powUp_any L.pp _ _ _ _ w13 (Lib.hid h13.out.pow))
  rw [R.out.up, hpp] at UP
  clear CT h12 b12 bb R
  go_wp2_with fail
  refine (NB.out _ w13).mono ?_
  rintro e w14 ⟨rfl, rfl⟩
  go_wp2_with fail
  refine (NB.out _ w14).mono ?_
  rintro e w15 ⟨rfl, rfl⟩
  go_wp2_with fail
  refine UP.out.mono ?_
  rintro e w16 ⟨rfl, rfl⟩
  go_wp2
  go_ret
  exact ⟨rfl, b13⟩

set_option maxHeartbeats 4000000 in
set_option maxRecDepth 8000 in
theorem args_low_ok (seg page : Int) (n m : Nat) (hm : (n : Int).tmod 300 = (m : Int)) (hm3 : m < 300) (hn : n < 65536) (s0 : decide (seg ≥ 0) = true) (s1 : decide (seg < 3) = true) (s2 : (seg == 2) = false) (p0 : decide (page < 0) = false) (p1 : decide (page > 3) = false) (p2 : decide ((m : Int) > 256) = false) (R : Hid (ArgsRes (argsS true) seg page (bs (listB m zeroN)) 0 0 1 1 true)) (w : World) :
    Calls Try.prog 6 #[.int .i64 seg, .int .i64 page, .int .u16 (n : Nat), .bool false] w fun e w' => e = .returned (.bool true) ∧ Below w.heap.size w w' := by
  have SH : Hid (∀ w', _) := fun w' => shown10_any w'
  have NP : Hid (∀ w', _) := fun w' => newPower_any w'
  have NN : Hid (∀ w', _) := fun w' => new_nil w' 3 4 1 (.slice none 0 0)
  have NB : Hid (∀ b w', _) := fun b w' => numberB_any b w'
  go_enter Try.func6, Try.ntmps6
  go_wp2_with fail
  refine (NP.out w).mono ?_
  rintro e w1 ⟨rfl, r1, b1⟩
  have b2 := b1.alloc b1.size (.cells #[.int .i64 2] 3)
  have r2 := Lib.hid (r1.out.alloc (.cells #[.int .i64 2] 3))
  have s2 : Hid (SeesZ (w1.alloc (.cells #[.int .i64 2] 3)) (some ⟨w1.heap.size, 0, none⟩) 1 (fun _ => 2)) := fun k hk => by
    have e : k = 0 := by omega
    subst e
    have r := RowAt.new w1 3 #[.int .i64 2]
    exact ⟨_, rfl, r.lt, by rw [addr_add, cell_of_row _ _ _ _ _ _ r]; rfl⟩
  have NW := Lib.hid (new_yes w.heap.size w.heap.size 3 4 1 true 0 0 0 (some ⟨w1.heap.size, 0, none⟩) 1 1 (fun _ => 2) _ r2 s2 (Nat.le_refl _) (Lib.hid (by decide)) (Lib.hid (by decide)) (by decide) (by decide) (by decide) (by decide) (by decide) (by decide))
  clear r1 r2 s2 b1
  go_wp2_with fail
  generalize w1.alloc (.cells #[.int .i64 2] 3) = w2 at *
  refine NW.out.mono ?_
  rintro e w3 ⟨L, rfl, hpp, hn', hm', h3, bn⟩
  change Hid (Ch w.heap.size w3 L (argsS true) _) at h3
  have b3 := b2.trans (bn.mono b2.size)
  clear NW b2 bn
  go_wp2_with fail
  refine (SH.out w3).mono ?_
  rintro e w4 ⟨rfl, bs4⟩
  have h4 := Lib.hid (h3.out.after bs4)
  have b4 := b3.trans (bs4.mono b3.size)
  clear h3 b3 bs4 SH
  go_wp2_with fail
  refine (NN.out w4).mono ?_
  rintro e w5 ⟨rfl, rfl⟩
  clear NN
  have h6 := h4
  have b6 := b4
  clear h4 b4
  obtain ⟨w7, ew⟩ : ∃ w7, w7 = w5 := ⟨_, rfl⟩
  rw [← ew] at h6 b6
  have cv : Hid (∀ w' g, RowAt w' g 5 (rowOf m (w8 zeroN)) → (convert 65 9 (.slice (some ⟨g, 0, none⟩) m m)).run Try.prog w' = .ok (.string (bs (listB m zeroN))) w') := fun w' g h => block_string (fun _ => by unfold zeroN; decide) Try.underlying65 Try.underlying5 Try.underlying9 h
  have m6 : Hid (m ≤ 1000000) := by unfold Hid; omega
  have zs : (bs (listB m zeroN)).size = m := by rw [bs_size, listB_length]
  generalize bs (listB m zeroN) = z at *
  have r9 := RowAt.new w7 5 (rowOf m (w8 zeroN))
  have cv9 := cv.out _ _ r9
  have b9 := b6.alloc b6.size (.cells (rowOf m (w8 zeroN)) 5)
  have h9 := Lib.hid (h6.out.after ((Below.refl _ w7).alloc (Nat.le_refl _) (.cells (rowOf m (w8 zeroN)) 5)))
  subst ew
  clear r9 h6 b6 cv
  go_wp2_with (first | (refine wpList_make_row (m := m) Try.underlying65 Try.info5 (by rw [Nat.mul_one]; exact zero_bytes m) m6.out (by decide) (by decide) rfl rfl rfl rfl ?_; rw [Nat.mul_one]))
  clear cv9 m6
  generalize World.alloc _ _ = w10 at *
  have P1 := Lib.hid (prog_any w.heap.size w10 L _ _ h9 seg page z (argsS_low.low (by decide)))
  rw [hn', hm', R.out.prog] at P1
  refine P1.out.mono ?_
  rintro e w11 ⟨rfl, hv11, h11, g11⟩
  have b11 := b9.trans (g11.under h9.out b9.size)
  have E1 := Lib.hid (erase_any w.heap.size w11 L _ _ h11 seg ((argsS_low.prog 3 4 seg page z).low (by decide)))
  rw [hn', R.out.erase] at E1
  clear P1 h9 b9 g11
  go_wp2_with fail
  refine E1.out.mono ?_
  rintro e w12 ⟨rfl, hv12, h12, g12⟩
  have b12 := b11.trans (g12.under h11.out b11.size)
  have CT := Lib.hid (counts_any w.heap.size w12 L _ _ h12)
  rw [R.out.progs, R.out.erases] at CT
  clear E1 h11 b11 g12
  go_wp2_with fail
  refine CT.out.mono ?_
  rintro e w13 ⟨rfl, bb⟩
  have h13 := Lib.hid (h12.out.after bb)
  have b13 := b12.trans (bb.mono b12.size)
  have UP := Lib.hid (powUp_any L.pp _ _ _ _ w13 (Lib.hid h13.out.pow))
  rw [R.out.up, hpp] at UP
  clear CT h12 b12 bb R
  go_wp2_with fail
  refine (NB.out _ w13).mono ?_
  rintro e w14 ⟨rfl, rfl⟩
  go_wp2_with fail
  refine (NB.out _ w14).mono ?_
  rintro e w15 ⟨rfl, rfl⟩
  go_wp2_with fail
  refine UP.out.mono ?_
  rintro e w16 ⟨rfl, rfl⟩
  go_wp2
  go_ret
  exact ⟨rfl, b13⟩

theorem walk_NandArgs (seg : Int) (h0 : (Lit.int .i64 seg).wf = true) (page : Int) (h1 : (Lit.int .i64 page).wf = true) (n : Int) (h2 : (Lit.int .u16 n).wf = true) (off : Bool) (w : World) :
    Calls Try.prog 6 #[.int .i64 seg, .int .i64 page, .int .u16 n, .bool off] w fun e w' => e = .returned (.bool true) ∧ Below w.heap.size w w' := by
  have a2 := wf_u16 h2
  obtain ⟨n, rfl⟩ : ∃ x : Nat, n = x := ⟨n.toNat, by omega⟩
  obtain ⟨m, em⟩ : ∃ m, n % 300 = m := ⟨_, rfl⟩
  have hm : (n : Int).tmod 300 = (m : Int) := by rw [Int.tmod_eq_emod_of_nonneg (by omega)]; omega
  have hm3 : m < 300 := by omega
  have hn : n < 65536 := by omega
  have zs : (bs (listB m zeroN)).size = m := by rw [bs_size, listB_length]
  have f0 : ∀ z : Int, z < 0 → inB z 3 = false := fun z hz => by unfold inB; rw [decide_eq_false (by omega)]; rfl
  have f3 : ∀ z : Int, ¬ z < 3 → inB z 3 = false := fun z hz => by unfold inB; rw [decide_eq_false (p := z < _) (by simpa using hz), Bool.and_false]
  have g0 : ∀ z : Int, z < 0 → inB z 4 = false := fun z hz => by unfold inB; rw [decide_eq_false (by omega)]; rfl
  have g3 : ∀ z : Int, z > 3 → inB z 4 = false := fun z hz => by unfold inB; rw [decide_eq_false (p := z < _) (show ¬ z < ((4 : Nat) : Int) by omega), Bool.and_false]
  clear em h0 h1 h2 a2
  by_cases s0 : seg ≥ 0
  · by_cases s1 : seg < 3
    · cases off with
      | true => exact args_off_in seg page n m hm hm3 hn (decide_eq_true s0) (decide_eq_true s1) (args_off _ _ _) w
      | false =>
        obtain ⟨i, rfl⟩ : ∃ i : Nat, seg = i := ⟨seg.toNat, by omega⟩
        by_cases s2 : i = 2
        · subst s2
          by_cases p0 : page < 0
          · exact args_two_neg _ page n m hm hm3 hn (decide_eq_true s0) (decide_eq_true s1) (by decide) (decide_eq_true p0) (args_two (.inl (g0 _ p0))) w
          by_cases p1 : page > 3
          · exact args_two_big _ page n m hm hm3 hn (decide_eq_true s0) (decide_eq_true s1) (by decide) (decide_eq_false p0) (decide_eq_true p1) (args_two (.inl (g3 _ p1))) w
          by_cases p2 : (m : Int) > 256
          · exact args_two_long _ page n m hm hm3 hn (decide_eq_true s0) (decide_eq_true s1) (by decide) (decide_eq_false p0) (decide_eq_false p1) (decide_eq_true p2) (args_two (.inr (by omega))) w
          obtain ⟨j, rfl⟩ : ∃ j : Nat, page = j := ⟨page.toNat, by omega⟩
          exact args_two_ok _ _ n m hm hm3 hn (decide_eq_true s0) (decide_eq_true s1) (by decide) (decide_eq_false p0) (decide_eq_false p1) (decide_eq_false p2) (args_ok2 (by omega) (by omega)) w
        · have e2 : ((i : Int) == 2) = false := by simp; omega
          by_cases p0 : page < 0
          · exact args_low_neg _ page n m hm hm3 hn (decide_eq_true s0) (decide_eq_true s1) e2 (decide_eq_true p0) (args_low (by omega) (.inl (g0 _ p0))) w
          by_cases p1 : page > 3
          · exact args_low_big _ page n m hm hm3 hn (decide_eq_true s0) (decide_eq_true s1) e2 (decide_eq_false p0) (decide_eq_true p1) (args_low (by omega) (.inl (g3 _ p1))) w
          by_cases p2 : (m : Int) > 256
          · exact args_low_long _ page n m hm hm3 hn (decide_eq_true s0) (decide_eq_true s1) e2 (decide_eq_false p0) (decide_eq_false p1) (decide_eq_true p2) (args_low (by omega) (.inr (by omega))) w
          obtain ⟨j, rfl⟩ : ∃ j : Nat, page = j := ⟨page.toNat, by omega⟩
          exact args_low_ok _ _ n m hm hm3 hn (decide_eq_true s0) (decide_eq_true s1) e2 (decide_eq_false p0) (decide_eq_false p1) (decide_eq_false p2) (args_ok (by omega) (by omega) (by omega)) w
    · cases off with
      | true => exact args_off_big seg page n m hm hm3 hn (decide_eq_true s0) (decide_eq_false s1) (args_off _ _ _) w
      | false => exact args_out_big seg page n m hm hm3 hn (decide_eq_true s0) (decide_eq_false s1) (args_out (f3 _ s1)) w
  · cases off with
    | true => exact args_off_neg seg page n m hm hm3 hn (decide_eq_false s0) (args_off _ _ _) w
    | false => exact args_out_neg seg page n m hm hm3 hn (decide_eq_false s0) (args_out (f0 _ (by omega))) w

end Go.Proofs.Ytogeccmeaacgnaa
