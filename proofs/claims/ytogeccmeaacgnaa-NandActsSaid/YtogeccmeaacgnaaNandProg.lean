/-
  Contracts: what Program does, whole or in part.
-/
import Derived.Test.YtogeccmeaacgnaaNandErase
import Derived.Test.YtogeccmeaacgnaaNandHist
namespace Go.Proofs.Ytogeccmeaacgnaa
open Go.RowKit
set_option linter.unusedVariables false

set_option maxHeartbeats 2000000 in
set_option maxRecDepth 8000 in
theorem prog1_any (B : Nat) (w : World) (L : Lay) (S : St) (hv : Value) (h : Hid (Ch B w L S hv)) (b1 b2 b3 b4 i j k jn : Nat) (s : ByteArray) (x1 : Hid (Box w (foot L hv) b1 (.string s))) (x2 : Hid (Box w (foot L hv) b2 (.pointer (some ⟨L.cp, 0, none⟩)))) (x3 : Hid (Box w (foot L hv) b3 (.int .i64 (i : Nat)))) (x4 : Hid (Box w (foot L hv) b4 (.int .i64 (j : Nat))))
    (hi : i < L.n) (hj : j < L.m) (hs : s.size ≤ 256) (hk : (k : Int) < 9223372036854775808) (hjn : jn < 256) (hh : S.hist.length ≤ 1000000) :
    Calls Try.prog 38 #[.int .i64 (k : Nat), .int .u8 (jn : Nat), .pointer (some ⟨b1, 0, none⟩), .pointer (some ⟨b2, 0, none⟩), .pointer (some ⟨b3, 0, none⟩), .pointer (some ⟨b4, 0, none⟩)] w fun e w' => e = .returned (.tuple #[]) ∧ ∃ hv', Hid (Ch B w' L (prS S i j (pageT s k jn)) hv') ∧ Goes L hv w hv' w' := by
  have T := Lib.hid (pageText_any s hs k jn hk hjn w)
  have z1 := x1.out.1
  generalize pageT s k jn = t at *
  clear hs hk hjn
  go_enter Try.func38, Try.ntmps38
  go_wp2_with fail
  refine T.out.mono ?_
  rintro e w1 ⟨rfl, b1'⟩
  have b1d : Below w.heap.size w w1.drew := b1'.drew
  have h1 := Lib.hid (h.out.after b1d)
  have y2 := Lib.hid (x2.out.goes (.of_below b1d))
  have y3 := Lib.hid (x3.out.goes (.of_below b1d))
  have y4 := Lib.hid (x4.out.goes (.of_below b1d))
  have g1 : Goes L hv w hv w1.drew := .of_below b1d
  clear T z1 x1 x2 x3 x4 b1' b1d
  go_wp2_with fail
  refine wp_region_still_tail 12 (by kernel_rfl) (by kernel_rfl) ?_
  change wpStill _ _ (World.drew _) (fun a' => wpList _ _ _ _ a' (World.drew _)) _ _
  generalize w1.drew = w2 at *
  have c1 := h1.out.c1
  have c2 := h1.out.s0 hi
  have c3 := h1.out.pg hi hj
  have z2 := y2.out.1
  have z3 := y3.out.1
  have z4 := y4.out.1
  have i1 : (i : Int) < (L.n : Int) := by omega
  have i2 : (j : Int) < (L.m : Int) := by omega
  have f2 := (h1.out.pages i hi).free j
  obtain ⟨h3, g3⟩ := h1.out.text hi j t
  replace h3 := Lib.hid h3
  replace g3 := g1.trans g3
  simp only [List.take_succ_cons, List.take_zero, List.drop_succ_cons, List.drop_zero]
  refine wpStill_of_quiet _ _ ?_
  repeat (first | go_big_quiet_skip | (go_big_quiet_want; go_big_quiet_op; go_big_quiet_on))
  refine wpQuiet_nil ?_
  have y5 := Lib.hid (y2.out.goes (h1.out.text hi j t).2)
  clear c1 c2 z2 z3 z4 h1 g1 y2 y3 y4
  go_wp2_with fail
  replace h3 := Lib.hid (h3.out.after ((Below.refl _ _).drew))
  replace g3 := g3.below ((Below.refl _ _).drew)
  replace y5 := Lib.hid (y5.out.goes (.drew _))
  generalize hw4 : (w2.setCell ⟨L.tp i, j, none⟩ (.string t)).drew = w4 at *
  have HC0 : HC B S.hist.length S.hist hv w4 w4 := ⟨⟨rfl, rfl, rfl, Nat.le_refl _, fun _ _ _ => rfl⟩, h3.out.hist, Nat.le_of_lt (Nat.lt_of_le_of_lt h3.out.low.1 h3.out.pow.lt), h3.out.hist⟩
  have z5 := y5.out.1
  have q1 : ∀ w', HC B S.hist.length S.hist hv w4 w' → w'.cell? ⟨b2, 0, none⟩ = some (.pointer (some ⟨L.cp, 0, none⟩)) := fun w' hc => hc.grown.cell z5 (fun e => y5.out.2.2 (.inr (.inr (.inr (.inr e.symm)))))
  have q2 : ∀ w', HC B S.hist.length S.hist hv w4 w' → w'.cell? ⟨L.cp, 3, none⟩ = some hv := fun w' hc => hc.grown.cell h3.out.c3 (fun e => h3.out.chip.not_own h3.out.hist (by decide) e.symm)
  refine wp_region_head 10 (HC B S.hist.length S.hist hv w4) [eqv (.pointer (some ⟨L.cp, 0, none⟩)), eqv (.pointer (some ⟨L.cp, 0, none⟩)), eqv (.pointer (some ⟨L.cp, 0, none⟩)), eqv (.pointer (some ⟨L.cp, 3, none⟩)), eqv hv, eqv (.string t), onet w4 t, ownt w4 B S.hist.length S.hist t hv, eqv (.pointer (some ⟨L.cp, 0, none⟩)), eqv (.pointer (some ⟨L.cp, 3, none⟩))] (KeptT B S.hist.length S.hist t hv w4) (by kernel_rfl) (by kernel_rfl) (by first | exact HC0 | (rw [hw4]; exact HC0)) (.cons (keptt_eqv _) (.cons (keptt_eqv _) (.cons (keptt_eqv _) (.cons (keptt_eqv _) (.cons (keptt_eqv _) (.cons (keptt_eqv _) (.cons keptt_onet (.cons keptt_ownt (.cons (keptt_eqv _) (.cons (keptt_eqv _) .nil)))))))))) ?_
  intro R hR
  simp only [List.take_succ_cons, List.take_zero, List.drop_succ_cons, List.drop_zero]
  refine wpRely_cons (fun w' hC hf => ?_) (fun v0 => ?_)
  · (repeat (first | (obtain ⟨rfl, hf⟩ := hf) | (obtain ⟨⟨q, rfl, hql, hq⟩, hf⟩ := hf) | (obtain ⟨_, hf⟩ := hf)))
    have c5 := q1 _ hC; have c6 := q2 _ hC; exact grows_eqv (by rfl) hC (by go_simp)
  simp only [Act.put, List.setIfInBounds_toArray, List.set_cons_succ, List.set_cons_zero, List.nil_append]
  refine wpRely_cons (fun w' hC hf => ?_) (fun v1 => ?_)
  · (repeat (first | (obtain ⟨rfl, hf⟩ := hf) | (obtain ⟨⟨q, rfl, hql, hq⟩, hf⟩ := hf) | (obtain ⟨_, hf⟩ := hf)))
    have c5 := q1 _ hC; have c6 := q2 _ hC; exact grows_eqv (by rfl) hC (by go_simp)
  simp only [Act.put, List.setIfInBounds_toArray, List.set_cons_succ, List.set_cons_zero, List.nil_append, List.cons_append]
  refine wpRely_cons (fun w' hC hf => ?_) (fun v2 => ?_)
  · (repeat (first | (obtain ⟨rfl, hf⟩ := hf) | (obtain ⟨⟨q, rfl, hql, hq⟩, hf⟩ := hf) | (obtain ⟨_, hf⟩ := hf)))
    have c5 := q1 _ hC; have c6 := q2 _ hC; exact grows_eqv (by rfl) hC (by go_simp)
  simp only [Act.put, List.setIfInBounds_toArray, List.set_cons_succ, List.set_cons_zero, List.nil_append, List.cons_append]
  refine wpRely_cons (fun w' hC hf => ?_) (fun v3 => ?_)
  · (repeat (first | (obtain ⟨rfl, hf⟩ := hf) | (obtain ⟨⟨q, rfl, hql, hq⟩, hf⟩ := hf) | (obtain ⟨_, hf⟩ := hf)))
    have c5 := q1 _ hC; have c6 := q2 _ hC; exact grows_eqv (by rfl) hC (by go_simp)
  simp only [Act.put, List.setIfInBounds_toArray, List.set_cons_succ, List.set_cons_zero, List.nil_append, List.cons_append]
  refine wpRely_cons (fun w' hC hf => ?_) (fun v4 => ?_)
  · (repeat (first | (obtain ⟨rfl, hf⟩ := hf) | (obtain ⟨⟨q, rfl, hql, hq⟩, hf⟩ := hf) | (obtain ⟨_, hf⟩ := hf)))
    have c5 := q1 _ hC; have c6 := q2 _ hC; exact grows_eqv (by rfl) hC (by go_simp)
  simp only [Act.put, List.setIfInBounds_toArray, List.set_cons_succ, List.set_cons_zero, List.nil_append, List.cons_append]
  refine wpRely_cons (fun w' hC hf => ?_) (fun v5 => ?_)
  · (repeat (first | (obtain ⟨rfl, hf⟩ := hf) | (obtain ⟨⟨q, rfl, hql, hq⟩, hf⟩ := hf) | (obtain ⟨_, hf⟩ := hf)))
    have c5 := q1 _ hC; have c6 := q2 _ hC; exact grows_eqv (by rfl) hC (by go_simp)
  simp only [Act.put, List.setIfInBounds_toArray, List.set_cons_succ, List.set_cons_zero, List.nil_append, List.cons_append]
  refine wpRely_cons (fun w' hC hf => ?_) (fun v6 => ?_)
  · (repeat (first | (obtain ⟨rfl, hf⟩ := hf) | (obtain ⟨⟨q, rfl, hql, hq⟩, hf⟩ := hf) | (obtain ⟨_, hf⟩ := hf)))
    exact grows_onet hR hC (by rfl) (by go_simp)
  simp only [Act.put, List.setIfInBounds_toArray, List.set_cons_succ, List.set_cons_zero, List.nil_append, List.cons_append]
  refine wpRely_cons (fun w' hC hf => ?_) (fun v7 => ?_)
  · (repeat (first | (obtain ⟨rfl, hf⟩ := hf) | (obtain ⟨⟨q, rfl, hql, hq⟩, hf⟩ := hf) | (obtain ⟨_, hf⟩ := hf)))
    exact grows_appt hR hC (by rfl) rfl rfl rfl hq hh
  simp only [Act.put, List.setIfInBounds_toArray, List.set_cons_succ, List.set_cons_zero, List.nil_append, List.cons_append]
  refine wpRely_cons (fun w' hC hf => ?_) (fun v8 => ?_)
  · (repeat (first | (obtain ⟨rfl, hf⟩ := hf) | (obtain ⟨⟨q, rfl, hql, hq⟩, hf⟩ := hf) | (obtain ⟨_, hf⟩ := hf)))
    have c5 := q1 _ hC; have c6 := q2 _ hC; exact grows_eqv (by rfl) hC (by go_simp)
  simp only [Act.put, List.setIfInBounds_toArray, List.set_cons_succ, List.set_cons_zero, List.nil_append, List.cons_append]
  refine wpRely_cons (fun w' hC hf => ?_) (fun v9 => ?_)
  · (repeat (first | (obtain ⟨rfl, hf⟩ := hf) | (obtain ⟨⟨q, rfl, hql, hq⟩, hf⟩ := hf) | (obtain ⟨_, hf⟩ := hf)))
    have c5 := q1 _ hC; have c6 := q2 _ hC; exact grows_eqv (by rfl) hC (by go_simp)
  simp only [Act.put, List.setIfInBounds_toArray, List.set_cons_succ, List.set_cons_zero, List.nil_append, List.cons_append]
  refine wpRely_nil fun w9 hC hf => ?_
  obtain ⟨_, _, _, _, _, _, _, ⟨o7, a7⟩, _, rfl, _⟩ := hf
  obtain ⟨a8, c8, rfl⟩ := own_slice o7
  obtain ⟨h5, g5⟩ := h3.out.told hC.grown o7 a7
  have f5 : w9.frozen? ⟨L.cp, 3, none⟩ = false := by
    exact (World.frozen?_of_block (hC.grown.block L.cp h3.out.chip.lt (fun e => h3.out.chip.not_own h3.out.hist (by decide) e.symm))).trans (h3.out.chip.free 3)
  have c5 := q2 _ hC
  replace h5 := Lib.hid h5
  have g6 := g3.trans g5
  go_wp2
  go_end0
  exact ⟨rfl, _, h5, g6⟩

set_option maxHeartbeats 1000000 in
set_option maxRecDepth 8000 in
theorem actP_whole (B : Nat) (w : World) (L : Lay) (S : St) (hv : Value) (h : Hid (Ch B w L S hv)) (b1 b2 b3 b4 i j : Nat) (s : ByteArray) (x1 : Hid (Box w (foot L hv) b1 (.string s))) (x2 : Hid (Box w (foot L hv) b2 (.pointer (some ⟨L.cp, 0, none⟩)))) (x3 : Hid (Box w (foot L hv) b3 (.int .i64 (i : Nat)))) (x4 : Hid (Box w (foot L hv) b4 (.int .i64 (j : Nat)))) (hi : i < L.n) (hj : j < L.m) (hs : s.size ≤ 256) (hh : S.hist.length ≤ 1000000) (hu : Hid (S.up = true)) (l1 : Int) (hl : Hid (l1 = S.left - 1)) (lo : -1000000 < S.left) (hi2 : S.left < 9223372036854775808) (hb : (l1 != 0) = true) (hc : S.progs ≤ 1000000) :
    Calls Try.prog 37 #[.pointer (some ⟨L.cp, 0, none⟩), .pointer (some ⟨L.cp, 4, none⟩), .func (.func 38) #[] #[.pointer (some ⟨b1, 0, none⟩), .pointer (some ⟨b2, 0, none⟩), .pointer (some ⟨b3, 0, none⟩), .pointer (some ⟨b4, 0, none⟩)]] w fun e w' => e = .returned (.int .i64 0) ∧ ∃ hv', Hid (Ch B w' L (prS (cntP (actS S true l1)) i j (pageT s 9223372036854775807 0)) hv') ∧ Goes L hv w hv' w' := by
  have p0 := h.out.pow
  rw [hu.out] at p0
  have A1 := Lib.hid (powAct_yes L.pp S.left S.keep S.junk w p0 lo hi2 l1 hl true hb)
  have c0 := h.out.c0
  have hc' := Lib.hid (wrap_one _ hc)
  have by0 := h.out.byte
  have ta0 := h.out.tall
  replace by0 := Lib.hid by0
  replace ta0 := Lib.hid ta0
  clear p0 lo hi2 hb hc
  go_enter Try.func37, Try.ntmps37
  go_wp2_with fail
  refine A1.out.mono ?_
  rintro e w1 ⟨rfl, r1, a1⟩
  obtain ⟨h1, g1⟩ := h.out.power a1 r1.out by0.out ta0.out
  replace h1 := Lib.hid h1
  have A2 := Lib.hid (told_add ⟨L.cp, 4, none⟩ (S.progs : Nat) 1 ((S.progs + 1 : Nat) : Int) w1 h1.out.c4 (h1.out.chip.free _) hc'.out)
  obtain ⟨h2, g2⟩ := h1.out.prog
  replace h2 := Lib.hid h2
  replace g2 := g1.trans g2
  clear A1 c0 r1 a1 g1 h1 h
  go_wp2_with fail
  refine A2.out.mono ?_
  rintro e w2 ⟨rfl, rfl⟩
  clear A2
  generalize w1.setCell ⟨L.cp, 4, none⟩ (.int .i64 ((S.progs + 1 : Nat) : Int)) = w2 at *
  replace x1 := Lib.hid (x1.out.goes g2)
  replace x2 := Lib.hid (x2.out.goes g2)
  replace x3 := Lib.hid (x3.out.goes g2)
  replace x4 := Lib.hid (x4.out.goes g2)
  have D := Lib.hid (prog1_any B w2 L _ hv h2 b1 b2 b3 b4 i j 9223372036854775807 0 s x1 x2 x3 x4 hi hj hs (by omega) (by omega) hh)
  go_wp2_with fail
  refine D.out.mono ?_
  rintro e w4 ⟨rfl, H4⟩
  obtain ⟨hv4, h4, g4⟩ := H4
  go_wp2
  go_ret
  exact ⟨rfl, _, h4, g2.trans g4⟩

set_option maxHeartbeats 1000000 in
set_option maxRecDepth 8000 in
theorem actP_part (B : Nat) (w : World) (L : Lay) (S : St) (hv : Value) (h : Hid (Ch B w L S hv)) (b1 b2 b3 b4 i j : Nat) (s : ByteArray) (x1 : Hid (Box w (foot L hv) b1 (.string s))) (x2 : Hid (Box w (foot L hv) b2 (.pointer (some ⟨L.cp, 0, none⟩)))) (x3 : Hid (Box w (foot L hv) b3 (.int .i64 (i : Nat)))) (x4 : Hid (Box w (foot L hv) b4 (.int .i64 (j : Nat)))) (hi : i < L.n) (hj : j < L.m) (hs : s.size ≤ 256) (hh : S.hist.length ≤ 1000000) (hu : Hid (S.up = true)) (l1 : Int) (hl : Hid (l1 = S.left - 1)) (lo : -1000000 < S.left) (hi2 : S.left < 9223372036854775808) (hb : (l1 != 0) = false) (hc : S.progs ≤ 1000000) :
    Calls Try.prog 37 #[.pointer (some ⟨L.cp, 0, none⟩), .pointer (some ⟨L.cp, 4, none⟩), .func (.func 38) #[] #[.pointer (some ⟨b1, 0, none⟩), .pointer (some ⟨b2, 0, none⟩), .pointer (some ⟨b3, 0, none⟩), .pointer (some ⟨b4, 0, none⟩)]] w fun e w' => e = .returned (.int .i64 4) ∧ ∃ hv', Hid (Ch B w' L (prS (cntP (actS S false l1)) i j (pageT s S.keep S.junk)) hv') ∧ Goes L hv w hv' w' := by
  have p0 := h.out.pow
  rw [hu.out] at p0
  have A1 := Lib.hid (powAct_yes L.pp S.left S.keep S.junk w p0 lo hi2 l1 hl false hb)
  have c0 := h.out.c0
  have hc' := Lib.hid (wrap_one _ hc)
  have by0 := h.out.byte
  have ta0 := h.out.tall
  replace by0 := Lib.hid by0
  replace ta0 := Lib.hid ta0
  clear p0 lo hi2 hb hc
  go_enter Try.func37, Try.ntmps37
  go_wp2_with fail
  refine A1.out.mono ?_
  rintro e w1 ⟨rfl, r1, a1⟩
  obtain ⟨h1, g1⟩ := h.out.power a1 r1.out by0.out ta0.out
  replace h1 := Lib.hid h1
  have A2 := Lib.hid (told_add ⟨L.cp, 4, none⟩ (S.progs : Nat) 1 ((S.progs + 1 : Nat) : Int) w1 h1.out.c4 (h1.out.chip.free _) hc'.out)
  obtain ⟨h2, g2⟩ := h1.out.prog
  replace h2 := Lib.hid h2
  replace g2 := g1.trans g2
  clear A1 c0 r1 a1 g1 h1 h
  go_wp2_with fail
  refine A2.out.mono ?_
  rintro e w2 ⟨rfl, rfl⟩
  clear A2
  generalize w1.setCell ⟨L.cp, 4, none⟩ (.int .i64 ((S.progs + 1 : Nat) : Int)) = w2 at *
  replace x1 := Lib.hid (x1.out.goes g2)
  replace x2 := Lib.hid (x2.out.goes g2)
  replace x3 := Lib.hid (x3.out.goes g2)
  replace x4 := Lib.hid (x4.out.goes g2)
  have c0 := h2.out.c0
  have Kp := Lib.hid (powKept_any L.pp _ _ _ _ w2 h2.out.pow)
  go_wp2_with fail
  refine Kp.out.mono ?_
  rintro e w3 ⟨rfl, bw3⟩
  replace h2 := Lib.hid (h2.out.after bw3)
  replace g2 := g2.below bw3
  replace x1 := Lib.hid (x1.out.goes (.of_below bw3))
  replace x2 := Lib.hid (x2.out.goes (.of_below bw3))
  replace x3 := Lib.hid (x3.out.goes (.of_below bw3))
  replace x4 := Lib.hid (x4.out.goes (.of_below bw3))
  have D := Lib.hid (prog1_any B w3 L _ hv h2 b1 b2 b3 b4 i j S.keep S.junk s x1 x2 x3 x4 hi hj hs ta0.out by0.out hh)
  clear Kp c0 bw3
  go_wp2_with fail
  refine D.out.mono ?_
  rintro e w4 ⟨rfl, H4⟩
  obtain ⟨hv4, h4, g4⟩ := H4
  go_wp2
  go_ret
  exact ⟨rfl, _, h4, g2.trans g4⟩


end Go.Proofs.Ytogeccmeaacgnaa
