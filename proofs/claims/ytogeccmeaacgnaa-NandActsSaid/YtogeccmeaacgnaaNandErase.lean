/-
  Contracts: clearFirst, what Erase does (whole or in part), Erase.
-/
import Derived.Test.YtogeccmeaacgnaaNandDo
namespace Go.Proofs.Ytogeccmeaacgnaa
open Go.RowKit
set_option linter.unusedVariables false

theorem wpList_clear {ops : Array Oper} {rest : List Oper} {o : Oper} {a : Act} {w w' : World} {Q : Exit → Act → World → Prop} (hgd : o.guard = none) (x : Operand) (ho : o.op = .call { callee := .builtin .clear, args := #[x], argTypes := #[34] }) {v : Value} (hx : a.eval x = v)
    (hr : (Builtin.clear_ #[34] o.type #[v]).run Try.prog w = .ok (.tuple #[]) w') (h : wpList Try.prog ops Q rest (a.put o.dst (.tuple #[])) w') : wpList Try.prog ops Q (o :: rest) a w := by
  refine wpList_plain hgd fun _ hK => ?_
  unfold Oper.wp execOp
  simp only [ho, resolve, invoke, builtin, Sem.run_bind, Sem.run_pure, Result.andThen_ok, List.map_toArray, List.map_cons, List.map_nil, hx, hr]
  exact hK _ _ h

set_option maxHeartbeats 1000000 in
set_option maxRecDepth 8000 in
theorem clearFirst_any (w : World) (t m k : Nat) (f : Nat → ByteArray) (h : Hid (RowAt w t 9 (rowOf m (strV f)))) :
    Calls Try.prog 42 #[.agg #[.slice (some ⟨t, 0, none⟩) m m], .int .i64 (k : Nat)] w fun e w' => e = .returned (.tuple #[]) ∧ Hid (RowAt w' t 9 (rowOf m (strV (clr k f)))) ∧ Beside (fun b => b = t) w w' := by
  have b0 : Below w.heap.size w (w.alloc (.cells #[.slice (some ⟨t, 0, none⟩) m m] 84)) := (Below.refl _ _).alloc (Nat.le_refl _) _
  have r0 := Lib.hid (h.out.below b0 h.out.lt)
  obtain ⟨y, hy, ym, hkk⟩ : ∃ y : Nat, ((k : Int) < (m : Int) ∧ (y : Int) = (k : Int) ∨ (m : Int) ≤ (k : Int) ∧ (y : Int) = (m : Int)) ∧ y ≤ m ∧ (∀ j, j < m → (j < y ↔ j < k)) := by
    by_cases c : k < m
    · exact ⟨k, .inl ⟨by omega, rfl⟩, by omega, fun j _ => Iff.rfl⟩
    · exact ⟨m, .inr ⟨by omega, rfl⟩, by omega, fun j _ => by omega⟩
  have e1 : Hid (rowOf m (strV (fun j => if j < y then ⟨#[]⟩ else f j)) = rowOf m (strV (clr k f))) := rowOf_congr fun j hj => by
    unfold strV clr
    dsimp only
    by_cases c : j < k
    · rw [if_pos c, if_pos ((hkk j hj).2 c)]
    · rw [if_neg c, if_neg (fun d => c ((hkk j hj).1 d))]
  have hy' := Lib.hid hy
  have C := Lib.hid (fun ty => run_clear_strs _ t y m m f ty r0.out ym)
  rw [e1.out] at C
  have r1 := Lib.hid (r0.out.setRow (rowOf m (strV (clr k f))))
  have s1 : Beside (fun b => b = t) w ((w.alloc (.cells #[.slice (some ⟨t, 0, none⟩) m m] 84)).setRow t (rowOf m (strV (clr k f)))) := ((Beside.refl (fun b => b = t) w).alloc _).setRow (.inl rfl) _
  have ym' : (y : Int) ≤ (m : Int) := by omega
  clear hy hkk r0
  go_enter Try.func42, Try.ntmps42
  go_wp2_with (first | (refine wpList_min2 rfl _ _ rfl rfl (k : Int) (m : Int) (y : Int) rfl rfl hy'.out ?_) | (refine wpList_clear rfl _ rfl rfl (C.out _) ?_))
  go_end0
  exact ⟨rfl, r1, s1⟩

set_option maxHeartbeats 1000000 in
set_option maxRecDepth 8000 in
theorem erase1_any (B : Nat) (w : World) (L : Lay) (S : St) (hv : Value) (h : Hid (Ch B w L S hv)) (b1 b2 i k : Nat) (j : Nat) (x1 : Hid (Box w (foot L hv) b1 (.pointer (some ⟨L.cp, 0, none⟩)))) (x2 : Hid (Box w (foot L hv) b2 (.int .i64 (i : Nat)))) (hi : i < L.n) (hw : S.wear i ≤ 1000000) :
    Calls Try.prog 41 #[.int .i64 (k : Nat), .int .u8 (j : Nat), .pointer (some ⟨b1, 0, none⟩), .pointer (some ⟨b2, 0, none⟩)] w fun e w' => e = .returned (.tuple #[]) ∧ Hid (Ch B w' L (erS S i k) hv) ∧ Goes L hv w hv w' := by
  have g0 : Goes L hv w hv w.drew := .drew w
  have h0 := Lib.hid (h.out.after ((Below.refl _ w).drew))
  have y1 := Lib.hid (x1.out.goes g0)
  have y2 := Lib.hid (x2.out.goes g0)
  have hw' := Lib.hid (wrap_one _ hw)
  go_enter Try.func41, Try.ntmps41
  go_wp2_with fail
  refine wp_region_still_tail 9 (by kernel_rfl) (by kernel_rfl) ?_
  change wpStill _ _ (World.drew _) (fun a' => wpList _ _ _ _ a' (World.drew _)) _ _
  clear x1 x2 h
  generalize World.drew _ = w1 at *
  have c1 := h0.out.c1
  have c2 := h0.out.s0 hi
  have z1 := y1.out.1
  have z2 := y2.out.1
  have i1 : (i : Int) < (L.n : Int) := by omega
  have C := Lib.hid (clearFirst_any w1 (L.tp i) L.m k (S.page i) (h0.out.pages i hi))
  simp only [List.take_succ_cons, List.take_zero, List.drop_succ_cons, List.drop_zero]
  refine wpStill_of_quiet _ _ ?_
  repeat (first | go_big_quiet_skip | (go_big_quiet_want; go_big_quiet_op; go_big_quiet_on))
  refine wpQuiet_nil ?_
  clear c1 c2 z1 z2
  go_wp2_with fail
  refine C.out.mono ?_
  rintro e w2 ⟨rfl, r2, s2⟩
  obtain ⟨h2, g2⟩ := h0.out.page' hi s2 r2.out
  replace h2 := Lib.hid (h2.after ((Below.refl _ w2).drew))
  replace g2 := g2.trans (.drew w2)
  replace y1 := Lib.hid (y1.out.goes g2)
  replace y2 := Lib.hid (y2.out.goes g2)
  replace g0 := g0.trans g2
  clear C h0 r2 s2 g2
  go_wp2_with fail
  refine wp_region_still_tail 11 (by kernel_rfl) (by kernel_rfl) ?_
  change wpStill _ _ (World.drew _) (fun a' => wpList _ _ _ _ a' (World.drew _)) _ _
  generalize World.drew _ = w3 at *
  have c1 := h2.out.c1
  have c2 := h2.out.s1 hi
  have z1 := y1.out.1
  have z2 := y2.out.1
  have f2 := h2.out.segs.free (i * 3 + 1)
  obtain ⟨h3, g3⟩ := h2.out.worn i
  change Ch B (w3.setCell ⟨L.sp, i * 3 + 1, none⟩ (.int .i64 ((S.wear i + 1 : Nat) : Int))) L (erS S i k) hv at h3
  change Goes L hv w3 hv (w3.setCell ⟨L.sp, i * 3 + 1, none⟩ (.int .i64 ((S.wear i + 1 : Nat) : Int))) at g3
  replace h3 := Lib.hid h3
  replace g3 := g0.trans g3
  change w3.cell? _ = some (.int .i64 ((S.wear i : Nat) : Int)) at c2
  simp only [List.take_succ_cons, List.take_zero, List.drop_succ_cons, List.drop_zero]
  refine wpStill_of_quiet _ _ ?_
  repeat (first | go_big_quiet_skip | (go_big_quiet_want; go_big_quiet_op; go_big_quiet_on))
  refine wpQuiet_nil ?_
  rw [show ((S.wear i : Nat) : Int) + 1 = ((S.wear i + 1 : Nat) : Int) by omega]
  clear g0 h2
  go_wp2
  go_end0
  exact ⟨rfl, h3, g3⟩


set_option maxHeartbeats 1000000 in
set_option maxRecDepth 8000 in
theorem actE_whole (B : Nat) (w : World) (L : Lay) (S : St) (hv : Value) (h : Hid (Ch B w L S hv)) (b1 b2 i : Nat) (x1 : Hid (Box w (foot L hv) b1 (.pointer (some ⟨L.cp, 0, none⟩)))) (x2 : Hid (Box w (foot L hv) b2 (.int .i64 (i : Nat)))) (hi : i < L.n) (hw : S.wear i ≤ 1000000) (hu : Hid (S.up = true)) (l1 : Int) (hl : Hid (l1 = S.left - 1)) (lo : -1000000 < S.left) (hi2 : S.left < 9223372036854775808) (hb : (l1 != 0) = true) (hc : S.erases ≤ 1000000) :
    Calls Try.prog 37 #[.pointer (some ⟨L.cp, 0, none⟩), .pointer (some ⟨L.cp, 5, none⟩), .func (.func 41) #[] #[.pointer (some ⟨b1, 0, none⟩), .pointer (some ⟨b2, 0, none⟩)]] w fun e w' => e = .returned (.int .i64 0) ∧ ∃ hv', Hid (Ch B w' L (erS (cntE (actS S true l1)) i 9223372036854775807) hv') ∧ Goes L hv w hv' w' := by
  have p0 := h.out.pow
  rw [hu.out] at p0
  have A1 := Lib.hid (powAct_yes L.pp S.left S.keep S.junk w p0 lo hi2 l1 hl true hb)
  have c0 := h.out.c0
  have hc' := Lib.hid (wrap_one _ hc)
  have by0 := h.out.byte
  have ta0 := h.out.tall
  replace by0 := Lib.hid by0
  replace ta0 := Lib.hid ta0
  clear p0 lo hi2 hb hc
  go_enter Try.func37, Try.ntmps37
  go_wp2_with fail
  refine A1.out.mono ?_
  rintro e w1 ⟨rfl, r1, a1⟩
  obtain ⟨h1, g1⟩ := h.out.power a1 r1.out by0.out ta0.out
  replace h1 := Lib.hid h1
  have A2 := Lib.hid (told_add ⟨L.cp, 5, none⟩ (S.erases : Nat) 1 ((S.erases + 1 : Nat) : Int) w1 h1.out.c5 (h1.out.chip.free _) hc'.out)
  obtain ⟨h2, g2⟩ := h1.out.erase
  replace h2 := Lib.hid h2
  replace g2 := g1.trans g2
  clear A1 c0 r1 a1 g1 h1 h
  go_wp2_with fail
  refine A2.out.mono ?_
  rintro e w2 ⟨rfl, rfl⟩
  clear A2
  generalize w1.setCell ⟨L.cp, 5, none⟩ (.int .i64 ((S.erases + 1 : Nat) : Int)) = w2 at *
  replace x1 := Lib.hid (x1.out.goes g2)
  replace x2 := Lib.hid (x2.out.goes g2)
  have D := Lib.hid (erase1_any B w2 L _ hv h2 b1 b2 i 9223372036854775807 0 x1 x2 hi hw)
  go_wp2_with fail
  refine D.out.mono ?_
  rintro e w4 ⟨rfl, H4⟩
  obtain ⟨h4, g4⟩ := H4
  go_wp2
  go_ret
  exact ⟨rfl, _, h4, g2.trans g4⟩

set_option maxHeartbeats 1000000 in
set_option maxRecDepth 8000 in
theorem actE_part (B : Nat) (w : World) (L : Lay) (S : St) (hv : Value) (h : Hid (Ch B w L S hv)) (b1 b2 i : Nat) (x1 : Hid (Box w (foot L hv) b1 (.pointer (some ⟨L.cp, 0, none⟩)))) (x2 : Hid (Box w (foot L hv) b2 (.int .i64 (i : Nat)))) (hi : i < L.n) (hw : S.wear i ≤ 1000000) (hu : Hid (S.up = true)) (l1 : Int) (hl : Hid (l1 = S.left - 1)) (lo : -1000000 < S.left) (hi2 : S.left < 9223372036854775808) (hb : (l1 != 0) = false) (hc : S.erases ≤ 1000000) :
    Calls Try.prog 37 #[.pointer (some ⟨L.cp, 0, none⟩), .pointer (some ⟨L.cp, 5, none⟩), .func (.func 41) #[] #[.pointer (some ⟨b1, 0, none⟩), .pointer (some ⟨b2, 0, none⟩)]] w fun e w' => e = .returned (.int .i64 4) ∧ ∃ hv', Hid (Ch B w' L (erS (cntE (actS S false l1)) i S.keep) hv') ∧ Goes L hv w hv' w' := by
  have p0 := h.out.pow
  rw [hu.out] at p0
  have A1 := Lib.hid (powAct_yes L.pp S.left S.keep S.junk w p0 lo hi2 l1 hl false hb)
  have c0 := h.out.c0
  have hc' := Lib.hid (wrap_one _ hc)
  have by0 := h.out.byte
  have ta0 := h.out.tall
  replace by0 := Lib.hid by0
  replace ta0 := Lib.hid ta0
  clear p0 lo hi2 hb hc
  go_enter Try.func37, Try.ntmps37
  go_wp2_with fail
  refine A1.out.mono ?_
  rintro e w1 ⟨rfl, r1, a1⟩
  obtain ⟨h1, g1⟩ := h.out.power a1 r1.out by0.out ta0.out
  replace h1 := Lib.hid h1
  have A2 := Lib.hid (told_add ⟨L.cp, 5, none⟩ (S.erases : Nat) 1 ((S.erases + 1 : Nat) : Int) w1 h1.out.c5 (h1.out.chip.free _) hc'.out)
  obtain ⟨h2, g2⟩ := h1.out.erase
  replace h2 := Lib.hid h2
  replace g2 := g1.trans g2
  clear A1 c0 r1 a1 g1 h1 h
  go_wp2_with fail
  refine A2.out.mono ?_
  rintro e w2 ⟨rfl, rfl⟩
  clear A2
  generalize w1.setCell ⟨L.cp, 5, none⟩ (.int .i64 ((S.erases + 1 : Nat) : Int)) = w2 at *
  replace x1 := Lib.hid (x1.out.goes g2)
  replace x2 := Lib.hid (x2.out.goes g2)
  have c0 := h2.out.c0
  have Kp := Lib.hid (powKept_any L.pp _ _ _ _ w2 h2.out.pow)
  go_wp2_with fail
  refine Kp.out.mono ?_
  rintro e w3 ⟨rfl, bw3⟩
  replace h2 := Lib.hid (h2.out.after bw3)
  replace g2 := g2.below bw3
  replace x1 := Lib.hid (x1.out.goes (.of_below bw3))
  replace x2 := Lib.hid (x2.out.goes (.of_below bw3))
  have D := Lib.hid (erase1_any B w3 L _ hv h2 b1 b2 i S.keep S.junk x1 x2 hi hw)
  clear Kp c0 bw3
  go_wp2_with fail
  refine D.out.mono ?_
  rintro e w4 ⟨rfl, H4⟩
  obtain ⟨h4, g4⟩ := H4
  go_wp2
  go_ret
  exact ⟨rfl, _, h4, g2.trans g4⟩


end Go.Proofs.Ytogeccmeaacgnaa
