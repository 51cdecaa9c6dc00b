/-
  Contract: turn, all ways.
-/
import Derived.Test.YtopajipagacmkaaSlotSmall
import Derived.Test.YtopajipagacmkaaNandPower
namespace Go.Proofs.Ytopajipagacmkaa
open Go.RowKit
set_option linter.unusedVariables false

/-- An act of a cell: done or not; what the slot has then, and the answer. -/
def doneB (p : St) : Bool := (p.left - 1 != 0) || decide (p.keep % 2 = 1)
def turnS (S : SS) (i : Nat) (x : Cel) : SS := ⟨actS S.p (S.p.left - 1 != 0) (S.p.left - 1), if doneB S.p = true then updC S.c i x else S.c⟩
def turnE (p : St) : Nat := if (p.left - 1 != 0) = true then 0 else 4

/-- How a call of a slot ends. -/
def SlEnd (B pp sp : Nat) (S' : SS) (E : Nat) (w : World) (e : Ending) (w' : World) : Prop := e = .returned (.int .i64 (E : Nat)) ∧ Hid (Sl B w' pp sp S') ∧ Beside (footS pp sp) w w'

theorem foot_trans {pp sp : Nat} {a b c : World} (h : Beside (footS pp sp) a b) (k : Beside (footS pp sp) b c) : Beside (footS pp sp) a c := h.trans k

theorem turn_whole (S : SS) (i : Nat) (x : Cel) (h : (S.p.left - 1 != 0) = true) : turnS S i x = ⟨actS S.p true (S.p.left - 1), updC S.c i x⟩ := by
  unfold turnS doneB
  rw [h, Bool.true_or, if_pos rfl]
theorem turn_odd (S : SS) (i : Nat) (x : Cel) (h : (S.p.left - 1 != 0) = false) (hk : S.p.keep % 2 = 1) : turnS S i x = ⟨actS S.p false (S.p.left - 1), updC S.c i x⟩ := by
  unfold turnS doneB
  rw [h, Bool.false_or, if_pos (decide_eq_true hk)]
theorem turn_even (S : SS) (i : Nat) (x : Cel) (h : (S.p.left - 1 != 0) = false) (hk : ¬ S.p.keep % 2 = 1) : turnS S i x = ⟨actS S.p false (S.p.left - 1), S.c⟩ := by
  unfold turnS doneB
  rw [h, Bool.false_or, if_neg (by simpa using hk)]

/-- The number of a cell. -/
theorem cell_no (i : Nat) (hi : i < 2) : (0 : Int) ≤ (i : Int) ∧ (i : Int) < 2 := by omega

set_option maxHeartbeats 4000000 in
set_option maxRecDepth 8000 in
theorem slotTurn_any (B pp sp : Nat) (S : SS) (w : World) (h : Hid (Sl B w pp sp S)) (i : Nat) (hi : i < 2) (x : Cel) (hx : OkC x) (hu : S.p.up = true) (h1 : -1000000 < S.p.left) (h2 : S.p.left < 9223372036854775808) :
    Calls Try.prog 29 #[.pointer (some ⟨sp, 0, none⟩), .int .i64 (i : Nat), .agg (rowOf 18 (celF x))] w (SlEnd B pp sp (turnS S i x) (turnE S.p) w) := by
  have b0 : Below w.heap.size w (w.alloc (.cells (rowOf 18 (celF x)) 71)) := (Below.refl _ _).alloc (Nat.le_refl _) _
  have r0 := Lib.hid (RowAt.new w 71 (rowOf 18 (celF x)))
  have s0 := Lib.hid (h.out.after b0)
  have nfp : w.heap.size ≠ pp := by have := h.out.pow.lt; omega
  have nfs : w.heap.size ≠ sp := by have := h.out.row.lt; omega
  have g0 : Beside (footS pp sp) w (w.alloc (.cells (rowOf 18 (celF x)) 71)) := .of_below b0
  clear h b0
  have c0 := s0.out.c0
  obtain ⟨b, hb⟩ : ∃ b, (S.p.left - 1 != 0) = b := ⟨_, rfl⟩
  obtain ⟨l1, hl1⟩ : ∃ l1, l1 = S.p.left - 1 := ⟨_, rfl⟩
  have A := Lib.hid (powAct_yes pp S.p.left S.p.keep S.p.junk (w.alloc (.cells (rowOf 18 (celF x)) 71)) (by have := s0.out.pow; rw [hu] at this; exact this) h1 h2 l1 hl1 b (by rw [hl1]; exact hb))
  have hl1' := Lib.hid hl1
  clear hl1 h1 h2
  have hb' := Lib.hid hb
  clear hb
  have i1 := (cell_no i hi).2
  cases b with
  | true =>
    have eS := Lib.hid (turn_whole S i x hb'.out)
    have eE : Hid (turnE S.p = 0) := if_pos hb'.out
    go_enter Try.func29, Try.ntmps29
    go_wp2_with fail
    generalize w.alloc (.cells (rowOf 18 (celF x)) 71) = w0 at *
    refine A.out.mono ?_
    rintro e w1 ⟨rfl, r1, a1⟩
    clear A c0
    obtain ⟨s1, g1⟩ := s0.out.power a1 r1.out s0.out.byte s0.out.tall
    have x1 := Lib.hid (a1.row r0.out nfp)
    replace s1 := Lib.hid s1
    replace g1 := g0.trans g1
    clear r1 a1 s0 r0 g0
    go_wp2_with fail
    refine wp_region_still_tail 6 (by kernel_rfl) (by kernel_rfl) ?_
    change wpStill _ _ (World.drew w1) (fun a' => wpList _ _ _ _ a' (World.drew w1)) _ _
    have bd : Below w1.heap.size w1 (World.drew w1) := (Below.refl _ _).drew
    replace s1 := Lib.hid (s1.out.after bd)
    replace x1 := Lib.hid (x1.out.below bd x1.out.lt)
    replace g1 : Beside (footS pp sp) w (World.drew w1) := g1.trans (.of_below bd)
    clear bd
    generalize World.drew w1 = w2 at *
    simp only [List.take_succ_cons, List.take_zero, List.drop_succ_cons, List.drop_zero]
    refine wpStill_of_quiet _ _ ?_
    (go_big_quiet_want; go_big_quiet_op; go_big_quiet_on)
    (go_big_quiet_want; go_big_quiet_op; go_big_quiet_on)
    refine wpQuiet_load_row (by rfl) 71 _ rfl w.heap.size rfl 71 (rowOf 18 (celF x)) _ (fun w' hw' => by subst hw'; exact x1.out) Try.underlying71 rfl (infoCell' _) ?_
    simp only [Act.put, List.setIfInBounds_toArray, List.set_cons_succ, List.set_cons_zero]
    repeat (first | go_big_quiet_skip | (go_big_quiet_want; go_big_quiet_op; go_big_quiet_on))
    refine wpQuiet_nil ?_
    have f1 := s1.out.row
    obtain ⟨s2, g2⟩ := s1.out.cell i hx
    rw [← slF_set] at s2 g2
    replace s2 := Lib.hid s2
    replace g2 := g1.trans g2
    go_wp2_with (refine wpList_store_at rfl 71 _ _ rfl sp (1 + i * 18) 37 18 _ _ rfl rfl 74 f1 infoCell (celF_all _) (by omega) ?_)
    go_ret
    exact ⟨by rw [eE.out]; rfl, by rw [eS.out, ← hl1'.out]; exact s2, g2⟩
  | false =>
    have K := Lib.hid (fun w1 (hw : RowAt w1 pp 69 (pw false l1 S.p.keep S.p.junk)) => powKept_any pp false l1 S.p.keep S.p.junk w1 (Lib.hid hw))
    have eE : Hid (turnE S.p = 4) := if_neg (by rw [hb'.out]; decide)
    by_cases ho : S.p.keep % 2 = 1
    · have eS := Lib.hid (turn_odd S i x hb'.out ho)
      have hm : ((S.p.keep : Nat) : Int) % 2 = 1 := by omega
      replace hm : Int.tmod ((S.p.keep : Nat) : Int) 2 = 1 := by rw [Int.tmod_eq_emod_of_nonneg (by omega)]; exact hm
      clear ho
      go_enter Try.func29, Try.ntmps29
      go_wp2_with fail
      generalize w.alloc (.cells (rowOf 18 (celF x)) 71) = w0 at *
      refine A.out.mono ?_
      rintro e w1 ⟨rfl, r1, a1⟩
      clear A c0
      obtain ⟨s1, g1⟩ := s0.out.power a1 r1.out s0.out.byte s0.out.tall
      have x1 := Lib.hid (a1.row r0.out nfp)
      replace s1 := Lib.hid s1
      replace g1 := g0.trans g1
      have K1 := Lib.hid (K.out w1 r1.out)
      have c1 := s1.out.c0
      clear r1 a1 s0 r0 g0 K
      go_wp2_with fail
      refine K1.out.mono ?_
      rintro e w3 ⟨rfl, b3⟩
      clear K1 c1
      replace s1 := Lib.hid (s1.out.after b3)
      replace x1 := Lib.hid (x1.out.below b3 x1.out.lt)
      replace g1 := g1.trans (.of_below b3)
      clear b3
      go_wp2_with fail
      refine wp_region_still_tail 6 (by kernel_rfl) (by kernel_rfl) ?_
      change wpStill _ _ (World.drew w3) (fun a' => wpList _ _ _ _ a' (World.drew w3)) _ _
      have bd : Below w3.heap.size w3 (World.drew w3) := (Below.refl _ _).drew
      replace s1 := Lib.hid (s1.out.after bd)
      replace x1 := Lib.hid (x1.out.below bd x1.out.lt)
      replace g1 : Beside (footS pp sp) w (World.drew w3) := g1.trans (.of_below bd)
      clear bd
      generalize World.drew w3 = w2 at *
      simp only [List.take_succ_cons, List.take_zero, List.drop_succ_cons, List.drop_zero]
      refine wpStill_of_quiet _ _ ?_
      (go_big_quiet_want; go_big_quiet_op; go_big_quiet_on)
      (go_big_quiet_want; go_big_quiet_op; go_big_quiet_on)
      refine wpQuiet_load_row (by rfl) 71 _ rfl w.heap.size rfl 71 (rowOf 18 (celF x)) _ (fun w' hw' => by subst hw'; exact x1.out) Try.underlying71 rfl (infoCell' _) ?_
      simp only [Act.put, List.setIfInBounds_toArray, List.set_cons_succ, List.set_cons_zero]
      repeat (first | go_big_quiet_skip | (go_big_quiet_want; go_big_quiet_op; go_big_quiet_on))
      refine wpQuiet_nil ?_
      have f1 := s1.out.row
      obtain ⟨s2, g2⟩ := s1.out.cell i hx
      rw [← slF_set] at s2 g2
      replace s2 := Lib.hid s2
      replace g2 := g1.trans g2
      go_wp2_with (refine wpList_store_at rfl 71 _ _ rfl sp (1 + i * 18) 37 18 _ _ rfl rfl 74 f1 infoCell (celF_all _) (by omega) ?_)
      go_ret
      exact ⟨by rw [eE.out]; rfl, by rw [eS.out, ← hl1'.out]; exact s2, g2⟩
    · have eS := Lib.hid (turn_even S i x hb'.out ho)
      have hm : ((S.p.keep : Nat) : Int) % 2 = 0 := by omega
      replace hm : Int.tmod ((S.p.keep : Nat) : Int) 2 = 0 := by rw [Int.tmod_eq_emod_of_nonneg (by omega)]; exact hm
      clear ho
      go_enter Try.func29, Try.ntmps29
      go_wp2_with fail
      generalize w.alloc (.cells (rowOf 18 (celF x)) 71) = w0 at *
      refine A.out.mono ?_
      rintro e w1 ⟨rfl, r1, a1⟩
      clear A c0
      obtain ⟨s1, g1⟩ := s0.out.power a1 r1.out s0.out.byte s0.out.tall
      have x1 := Lib.hid (a1.row r0.out nfp)
      replace s1 := Lib.hid s1
      replace g1 := g0.trans g1
      have K1 := Lib.hid (K.out w1 r1.out)
      have c1 := s1.out.c0
      clear r1 a1 s0 r0 g0 K
      go_wp2_with fail
      refine K1.out.mono ?_
      rintro e w3 ⟨rfl, b3⟩
      clear K1 c1
      replace s1 := Lib.hid (s1.out.after b3)
      replace x1 := Lib.hid (x1.out.below b3 x1.out.lt)
      replace g1 := g1.trans (.of_below b3)
      clear b3
      go_wp2_with fail
      go_ret
      exact ⟨by rw [eE.out]; rfl, by rw [eS.out, ← hl1'.out]; exact s1, g1⟩

end Go.Proofs.Ytopajipagacmkaa
