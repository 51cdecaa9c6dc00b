/-
  The law SlotActs: every input.
-/
import Derived.Test.YtopajipagacmkaaSlotActsMath
import Derived.Test.YtopajipagacmkaaAtomicStore
import Derived.Deep.CutRange
import Derived.Deep.LoopGhost
namespace Go.Proofs.Ytopajipagacmkaa
open Go.RowKit
set_option linter.unusedVariables false

set_option maxHeartbeats 4000000 in
set_option maxRecDepth 8000 in
theorem acts11_long (a : Option Addr) (nl cl : Nat) (w : World) (hn : 150 < (nl : Int)) :
    Calls Try.prog 3 #[.slice a nl cl] w fun e w' => e = .returned (.bool true) ∧ Below w.heap.size w w' := by
  have d0 : decide ((nl : Int) > 150) = true := decide_eq_true hn
  have H := Lib.hid (shown11_any w)
  clear hn
  go_enter Try.func3, Try.ntmps3
  go_wp2_with fail
  refine H.out.mono ?_
  rintro e w1 ⟨rfl, b1⟩
  go_wp2
  go_ret
  exact ⟨rfl, b1⟩

theorem wf11_i64 {n : Int} (h : (Lit.int .i64 n).wf = true) : -9223372036854775808 ≤ n ∧ n < 9223372036854775808 := by
  simp [Lit.wf, IntKind.min, IntKind.max, IntKind.signed, IntKind.bits] at h
  omega
theorem max_zero (n : Int) : ∃ N : Int, (n < 0 ∧ N = 0) ∨ (0 ≤ n ∧ N = n) := by
  by_cases h : n < 0
  · exact ⟨0, .inl ⟨h, rfl⟩⟩
  · exact ⟨n, .inr ⟨by omega, rfl⟩⟩
theorem max_zero_nat (n : Int) : ∃ N : Nat, (n < 0 ∧ (N : Int) = 0) ∨ (0 ≤ n ∧ (N : Int) = n) := by
  by_cases h : n < 0
  · exact ⟨0, .inl ⟨h, rfl⟩⟩
  · exact ⟨n.toNat, .inr ⟨by omega, by omega⟩⟩

set_option maxHeartbeats 8000000 in
set_option maxRecDepth 8000 in
theorem acts11_nat (al : Option Addr) (nl cl : Nat) (X : SActs) (w : World) (ha : Hid (SeesV w al (nl * 21) (actW X))) (hX : Hid (∀ i j, i < nl → j < 4 → (Lit.int .i64 (X.z i j)).wf = true)) (hn : nl ≤ 150) :
    Calls Try.prog 3 #[.slice al nl cl] w fun e w' => e = .returned (.bool true) ∧ Below w.heap.size w w' := by
  have d0 : decide ((nl : Int) > 150) = false := decide_eq_false (by omega)
  have H := Lib.hid (shown11_any w)
  replace hn := Lib.hid hn
  go_enter Try.func3, Try.ntmps3
  go_wp2_with fail
  refine H.out.mono ?_
  rintro e w1 ⟨rfl, b1⟩
  clear H
  have NP := Lib.hid (newPower_any w1)
  have lw1 := b1.size
  go_wp2_with fail
  refine NP.out.mono ?_
  rintro e w2 ⟨rfl, r1, b2⟩
  have NS := Lib.hid (slotNew_any w.heap.size w1.heap.size noneS w2 lw1 r1 (by decide) (by decide))
  replace b1 := b1.trans (b2.mono b1.size)
  clear NP r1 b2 lw1
  generalize w1.heap.size = pp at *
  go_wp2_with fail
  refine NS.out.mono ?_
  rintro e w3 ⟨rfl, s0, b3⟩
  replace b1 := b1.trans (b3.mono b1.size)
  clear NS b3
  generalize w2.heap.size = sp at *
  have q0 := Lib.hid (RowAt.new w3 37 (rowOf 40 (rsF noneSS)))
  have b4 : Below w3.heap.size w3 (w3.alloc (.cells (rowOf 40 (rsF noneSS)) 37)) := (Below.refl _ _).alloc (Nat.le_refl _) _
  have B0 : Hid (Bs w.heap.size (w3.alloc (.cells (rowOf 40 (rsF noneSS)) 37)) pp sp w3.heap.size (newSS noneS)) := ⟨s0.out.after b4, q0.out, b1.size⟩
  replace b1 := b1.trans (b4.mono b1.size)
  clear b4 s0
  go_wp2_with (first | (refine wpList_buildTo rfl 37 _ rfl _ rfl (rowOf 40 (rsF noneSS)) (by kernel_rfl) ?_) | (refine wpList_new rfl (run_allocRef rfl _) ?_) | (refine wpList_store_row rfl 37 _ _ rfl w3.heap.size (rowOf 40 (rsF noneSS)) rfl rfl 37 (rowOf 40 (rsF noneSS)) q0.out (infoRef _) rfl (rsF_all _) ?_; rw [World.setRow_alloc_new]; generalize w3.alloc (.cells (rowOf 40 (rsF noneSS)) 37) = w4 at *))
  generalize w3.heap.size = rp at *
  clear q0
  go_loopg [6] nl (fun g v wr => ∃ (i : Nat) (S : SS), i + g = nl ∧ v = .int .i64 (i : Nat) ∧ Hid (Bs w.heap.size wr pp sp rp S) ∧ Hid (LowS S i) ∧ Below w.heap.size w wr)
  case atStart => exact ⟨0, _, by omega, rfl, B0, LowS.new, b1⟩
  case round =>
    clear B0 b1
    obtain ⟨i, S, hi, rfl, bs, low, b1⟩ := hrel
    by_cases hlt : i < nl
    · have li : (i : Int) < (nl : Int) := by omega
      have hlt2 := Lib.hid hlt
      have sa := Lib.hid (ha.out.after b1)
      have q0 := Lib.hid (RowAt.new wr 39 #[.int .i64 0, .int .i64 0, .int .i64 0, .int .i64 0, .int .u8 0, .int .u8 0, .int .u8 0, .int .u8 0, .int .u8 0, .int .u8 0, .int .u8 0, .int .u8 0, .int .u8 0, .int .u8 0, .int .u8 0, .int .u8 0, .int .u8 0, .int .u8 0, .int .u8 0, .int .u8 0, .int .u64 0])
      have rx := Lib.hid (RowAt.new wr 39 (rowOf 21 (actR X i)))
      have bx : Below wr.heap.size wr (wr.alloc (.cells (rowOf 21 (actR X i)) 39)) := (Below.refl _ _).alloc (Nat.le_refl _) _
      replace bs := Lib.hid (bs.out.after bx)
      replace b1 := b1.trans (bx.mono b1.size)
      have lo := Lib.hid (And.intro (low.out.low (by have := hn.out; omega)) low.out.hi)
      clear bx
      go_upto_region 13 with (first | (refine wpList_known rfl (at_act11 sa.out hlt2.out rfl rfl rfl rfl _) ?_) | (refine wpList_known rfl (load_act11 sa.out hlt2.out rfl rfl) ?_) | (refine wpList_store_row rfl 39 _ _ rfl wr.heap.size (rowOf 21 (actR X i)) rfl rfl 39 _ q0.out (infoAct _) (by rw [rowOf_size]; rfl) (actR_all _ _) ?_; rw [World.setRow_alloc_new]; generalize wr.alloc (.cells (rowOf 21 (actR X i)) 39) = wx at *))
      generalize wr.heap.size = xb at *
      clear q0 sa
      iterate 8 go_step
      go_cut [8, 9] from 35 to 184 (fun v8 v9 wc => ∃ (SZ : SS) (E : Nat), v8 = .int .i64 (E : Nat) ∧ v9 = .int .i64 (E : Nat) ∧ Hid (Bs w.heap.size wc pp sp rp SZ) ∧ Hid (LowS SZ (i + 1)) ∧ Below w.heap.size w wc)
      case first =>
        have c0 := actZ rx.out 0 (by decide)
        have c1 := actZ rx.out 1 (by decide)
        have c2 := actZ rx.out 2 (by decide)
        have c3 := actZ rx.out 3 (by decide)
        have c5 := actE rx.out
        obtain ⟨s0, rr, hrp⟩ := bs.out
        replace s0 := Lib.hid s0
        replace rr := Lib.hid rr
        replace hrp := Lib.hid hrp
        have hz2 := Lib.hid (hX.out i 2 hlt2.out (by decide))
        have hz3 := Lib.hid (hX.out i 3 hlt2.out (by decide))
        clear bs hlt li
        obtain ⟨kd, hkd⟩ : ∃ z, X.z i 0 = z := ⟨_, rfl⟩
        obtain ⟨sg, hsg⟩ : ∃ z, X.z i 1 = z := ⟨_, rfl⟩
        obtain ⟨fn, hfn⟩ : ∃ z, X.z i 2 = z := ⟨_, rfl⟩
        obtain ⟨kp, hkp⟩ : ∃ z, X.z i 3 = z := ⟨_, rfl⟩
        rw [hkd] at c0
        rw [hsg] at c1
        rw [hfn] at c2 hz2
        rw [hkp] at c3 hz3
        have z1 := Lib.hid hsg
        have z2 := Lib.hid hfn
        have z3 := Lib.hid hkp
        clear hkd hsg hfn hkp
        by_cases k0 : kd = 0
        · subst k0
          as_aux_lemma =>
            have P1 := Lib.hid (slotWrite_any w.heap.size pp sp S wx s0 sg (X.k i) (X.e i) lo.out.1 lo.out.2)
            have lowZ := Lib.hid (low.out.write sg (X.k i) (X.e i))
            go_wp2_with (refine wpList_load_at rfl 31 _ rfl xb 4 rfl 39 _ _ 16 (w8 (X.k i)) rx.out (act_key X i) Try.underlying31 rfl info_key18 ?_)
            refine P1.out.mono ?_
            rintro e wy ⟨rfl, s1, g1⟩
            have r1 := Lib.hid (s0.out.keeps g1 rr.out (by decide) (by decide))
            replace rx := Lib.hid (s0.out.keeps g1 rx.out (by decide) (by decide))
            replace rr := r1
            replace b1 := b1.trans (s0.out.under g1 b1.size)
            have c1 := actZ rx.out 1 (by decide)
            have c2 := actZ rx.out 2 (by decide)
            have c3 := actZ rx.out 3 (by decide)
            have c5 := actE rx.out
            clear P1 s0 g1 r1
            rw [z1.out] at c1
            have R1 := Lib.hid (refSWrite_any S sg (X.k i) (X.e i) wy lo.out.2)
            generalize writeE S sg = E at *
            generalize writeS S sg (X.k i) (X.e i) = SZ at *
            go_wp2_with (first | (refine wpList_load_row rfl 37 _ rfl rp rfl 37 (rowOf 40 (rsF S)) (0, 0) _ rr.out Try.underlying37 rfl (infoRef _) ?_) | (refine wpList_load_at rfl 31 _ rfl xb 4 rfl 39 _ _ 16 (w8 (X.k i)) rx.out (act_key X i) Try.underlying31 rfl info_key18 ?_))
            refine R1.out.mono ?_
            rintro e wz ⟨rfl, bz0⟩
            replace s1 := Lib.hid (s1.out.after bz0)
            replace rr := Lib.hid (rr.out.below bz0 rr.out.lt)
            replace b1 := b1.trans (bz0.mono b1.size)
            have bz : Hid (Bs w.heap.size (wz.setRow rp (rowOf 40 (rsF SZ))) pp sp rp SZ) := Bs.lay s1.out rr.out hrp.out
            replace b1 := below_setRow' b1 hrp.out (rowOf 40 (rsF SZ))
            clear R1 bz0 s1 rx c1 c2 c3 c5
            go_wp2_with (refine wpList_store_row rfl 37 _ _ rfl rp (rowOf 40 (rsF SZ)) rfl rfl 37 (rowOf 40 (rsF S)) rr.out (infoRef _) (by rw [rowOf_size, rowOf_size]) (rsF_all _) ?_; generalize wz.setRow rp (rowOf 40 (rsF SZ)) = wq at *)
            go_meet
            exact ⟨SZ, E, rfl, rfl, bz, lowZ, b1⟩
        by_cases k1 : kd = 1
        · subst k1
          as_aux_lemma =>
            have P1 := Lib.hid (slotWrite_any w.heap.size pp sp S wx s0 sg (X.k i) (X.e i) lo.out.1 lo.out.2)
            have lowZ := Lib.hid (low.out.write sg (X.k i) (X.e i))
            go_wp2_with (refine wpList_load_at rfl 31 _ rfl xb 4 rfl 39 _ _ 16 (w8 (X.k i)) rx.out (act_key X i) Try.underlying31 rfl info_key18 ?_)
            refine P1.out.mono ?_
            rintro e wy ⟨rfl, s1, g1⟩
            have r1 := Lib.hid (s0.out.keeps g1 rr.out (by decide) (by decide))
            replace rx := Lib.hid (s0.out.keeps g1 rx.out (by decide) (by decide))
            replace rr := r1
            replace b1 := b1.trans (s0.out.under g1 b1.size)
            have c1 := actZ rx.out 1 (by decide)
            have c2 := actZ rx.out 2 (by decide)
            have c3 := actZ rx.out 3 (by decide)
            have c5 := actE rx.out
            clear P1 s0 g1 r1
            rw [z1.out] at c1
            have R1 := Lib.hid (refSWrite_any S sg (X.k i) (X.e i) wy lo.out.2)
            generalize writeE S sg = E at *
            generalize writeS S sg (X.k i) (X.e i) = SZ at *
            go_wp2_with (first | (refine wpList_load_row rfl 37 _ rfl rp rfl 37 (rowOf 40 (rsF S)) (0, 0) _ rr.out Try.underlying37 rfl (infoRef _) ?_) | (refine wpList_load_at rfl 31 _ rfl xb 4 rfl 39 _ _ 16 (w8 (X.k i)) rx.out (act_key X i) Try.underlying31 rfl info_key18 ?_))
            refine R1.out.mono ?_
            rintro e wz ⟨rfl, bz0⟩
            replace s1 := Lib.hid (s1.out.after bz0)
            replace rr := Lib.hid (rr.out.below bz0 rr.out.lt)
            replace b1 := b1.trans (bz0.mono b1.size)
            have bz : Hid (Bs w.heap.size (wz.setRow rp (rowOf 40 (rsF SZ))) pp sp rp SZ) := Bs.lay s1.out rr.out hrp.out
            replace b1 := below_setRow' b1 hrp.out (rowOf 40 (rsF SZ))
            clear R1 bz0 s1 rx c1 c2 c3 c5
            go_wp2_with (refine wpList_store_row rfl 37 _ _ rfl rp (rowOf 40 (rsF SZ)) rfl rfl 37 (rowOf 40 (rsF S)) rr.out (infoRef _) (by rw [rowOf_size, rowOf_size]) (rsF_all _) ?_; generalize wz.setRow rp (rowOf 40 (rsF SZ)) = wq at *)
            go_meet
            exact ⟨SZ, E, rfl, rfl, bz, lowZ, b1⟩
        by_cases k2 : kd = 2
        · subst k2
          as_aux_lemma =>
            have P1 := Lib.hid (slotWrite_any w.heap.size pp sp S wx s0 sg (X.k i) (X.e i) lo.out.1 lo.out.2)
            have lowZ := Lib.hid (low.out.write sg (X.k i) (X.e i))
            go_wp2_with (refine wpList_load_at rfl 31 _ rfl xb 4 rfl 39 _ _ 16 (w8 (X.k i)) rx.out (act_key X i) Try.underlying31 rfl info_key18 ?_)
            refine P1.out.mono ?_
            rintro e wy ⟨rfl, s1, g1⟩
            have r1 := Lib.hid (s0.out.keeps g1 rr.out (by decide) (by decide))
            replace rx := Lib.hid (s0.out.keeps g1 rx.out (by decide) (by decide))
            replace rr := r1
            replace b1 := b1.trans (s0.out.under g1 b1.size)
            have c1 := actZ rx.out 1 (by decide)
            have c2 := actZ rx.out 2 (by decide)
            have c3 := actZ rx.out 3 (by decide)
            have c5 := actE rx.out
            clear P1 s0 g1 r1
            rw [z1.out] at c1
            have R1 := Lib.hid (refSWrite_any S sg (X.k i) (X.e i) wy lo.out.2)
            generalize writeE S sg = E at *
            generalize writeS S sg (X.k i) (X.e i) = SZ at *
            go_wp2_with (first | (refine wpList_load_row rfl 37 _ rfl rp rfl 37 (rowOf 40 (rsF S)) (0, 0) _ rr.out Try.underlying37 rfl (infoRef _) ?_) | (refine wpList_load_at rfl 31 _ rfl xb 4 rfl 39 _ _ 16 (w8 (X.k i)) rx.out (act_key X i) Try.underlying31 rfl info_key18 ?_))
            refine R1.out.mono ?_
            rintro e wz ⟨rfl, bz0⟩
            replace s1 := Lib.hid (s1.out.after bz0)
            replace rr := Lib.hid (rr.out.below bz0 rr.out.lt)
            replace b1 := b1.trans (bz0.mono b1.size)
            have bz : Hid (Bs w.heap.size (wz.setRow rp (rowOf 40 (rsF SZ))) pp sp rp SZ) := Bs.lay s1.out rr.out hrp.out
            replace b1 := below_setRow' b1 hrp.out (rowOf 40 (rsF SZ))
            clear R1 bz0 s1 rx c1 c2 c3 c5
            go_wp2_with (refine wpList_store_row rfl 37 _ _ rfl rp (rowOf 40 (rsF SZ)) rfl rfl 37 (rowOf 40 (rsF S)) rr.out (infoRef _) (by rw [rowOf_size, rowOf_size]) (rsF_all _) ?_; generalize wz.setRow rp (rowOf 40 (rsF SZ)) = wq at *)
            go_meet
            exact ⟨SZ, E, rfl, rfl, bz, lowZ, b1⟩
        by_cases k3 : kd = 3
        · subst k3
          as_aux_lemma =>
            have P1 := Lib.hid (slotErase_any w.heap.size pp sp S wx s0 sg lo.out.1 lo.out.2)
            have lowZ := Lib.hid (low.out.erase sg)
            go_wp2_with fail
            refine P1.out.mono ?_
            rintro e wy ⟨rfl, s1, g1⟩
            have r1 := Lib.hid (s0.out.keeps g1 rr.out (by decide) (by decide))
            replace rx := Lib.hid (s0.out.keeps g1 rx.out (by decide) (by decide))
            replace rr := r1
            replace b1 := b1.trans (s0.out.under g1 b1.size)
            have c1 := actZ rx.out 1 (by decide)
            have c2 := actZ rx.out 2 (by decide)
            have c3 := actZ rx.out 3 (by decide)
            have c5 := actE rx.out
            clear P1 s0 g1 r1
            rw [z1.out] at c1
            have R1 := Lib.hid (refSErase_any S sg wy lo.out.2)
            generalize slEraseE S sg = E at *
            generalize slEraseS S sg = SZ at *
            go_wp2_with (refine wpList_load_row rfl 37 _ rfl rp rfl 37 (rowOf 40 (rsF S)) (0, 0) _ rr.out Try.underlying37 rfl (infoRef _) ?_)
            refine R1.out.mono ?_
            rintro e wz ⟨rfl, bz0⟩
            replace s1 := Lib.hid (s1.out.after bz0)
            replace rr := Lib.hid (rr.out.below bz0 rr.out.lt)
            replace b1 := b1.trans (bz0.mono b1.size)
            have bz : Hid (Bs w.heap.size (wz.setRow rp (rowOf 40 (rsF SZ))) pp sp rp SZ) := Bs.lay s1.out rr.out hrp.out
            replace b1 := below_setRow' b1 hrp.out (rowOf 40 (rsF SZ))
            clear R1 bz0 s1 rx c1 c2 c3 c5
            go_wp2_with (refine wpList_store_row rfl 37 _ _ rfl rp (rowOf 40 (rsF SZ)) rfl rfl 37 (rowOf 40 (rsF S)) rr.out (infoRef _) (by rw [rowOf_size, rowOf_size]) (rsF_all _) ?_; generalize wz.setRow rp (rowOf 40 (rsF SZ)) = wq at *)
            go_meet
            exact ⟨SZ, E, rfl, rfl, bz, lowZ, b1⟩
        by_cases k4 : kd = 4
        · subst k4
          as_aux_lemma =>
            have P1 := Lib.hid (slotErase_any w.heap.size pp sp S wx s0 sg lo.out.1 lo.out.2)
            have lowZ := Lib.hid (low.out.erase sg)
            go_wp2_with fail
            refine P1.out.mono ?_
            rintro e wy ⟨rfl, s1, g1⟩
            have r1 := Lib.hid (s0.out.keeps g1 rr.out (by decide) (by decide))
            replace rx := Lib.hid (s0.out.keeps g1 rx.out (by decide) (by decide))
            replace rr := r1
            replace b1 := b1.trans (s0.out.under g1 b1.size)
            have c1 := actZ rx.out 1 (by decide)
            have c2 := actZ rx.out 2 (by decide)
            have c3 := actZ rx.out 3 (by decide)
            have c5 := actE rx.out
            clear P1 s0 g1 r1
            rw [z1.out] at c1
            have R1 := Lib.hid (refSErase_any S sg wy lo.out.2)
            generalize slEraseE S sg = E at *
            generalize slEraseS S sg = SZ at *
            go_wp2_with (refine wpList_load_row rfl 37 _ rfl rp rfl 37 (rowOf 40 (rsF S)) (0, 0) _ rr.out Try.underlying37 rfl (infoRef _) ?_)
            refine R1.out.mono ?_
            rintro e wz ⟨rfl, bz0⟩
            replace s1 := Lib.hid (s1.out.after bz0)
            replace rr := Lib.hid (rr.out.below bz0 rr.out.lt)
            replace b1 := b1.trans (bz0.mono b1.size)
            have bz : Hid (Bs w.heap.size (wz.setRow rp (rowOf 40 (rsF SZ))) pp sp rp SZ) := Bs.lay s1.out rr.out hrp.out
            replace b1 := below_setRow' b1 hrp.out (rowOf 40 (rsF SZ))
            clear R1 bz0 s1 rx c1 c2 c3 c5
            go_wp2_with (refine wpList_store_row rfl 37 _ _ rfl rp (rowOf 40 (rsF SZ)) rfl rfl 37 (rowOf 40 (rsF S)) rr.out (infoRef _) (by rw [rowOf_size, rowOf_size]) (rsF_all _) ?_; generalize wz.setRow rp (rowOf 40 (rsF SZ)) = wq at *)
            go_meet
            exact ⟨SZ, E, rfl, rfl, bz, lowZ, b1⟩
        by_cases k5 : kd = 5
        · subst k5
          as_aux_lemma =>
            have hw2 := wf11_i64 hz2.out
            have hw3 := wf11_i64 hz3.out
            obtain ⟨N, hN⟩ := max_zero fn
            obtain ⟨Kn, hK⟩ := max_zero_nat kp
            have hN0 : Hid (0 ≤ N ∧ N < 9223372036854775808) := by unfold Hid; omega
            have hK2 : Hid (kp < 9223372036854775808) := hw3.2
            clear hw2 hw3
            replace hN := Lib.hid hN
            replace hK := Lib.hid hK
            have P1 := Lib.hid (slFuse_any w.heap.size pp sp S wx s0 fn kp N Kn hN.out hK.out hK2.out)
            have lowZ := Lib.hid ((low.out.fuse hN0.out.1 hN0.out.2 Kn 0).mono (Nat.le_succ i))
            go_wp2_with fail
            refine P1.out.mono ?_
            rintro e wy ⟨rfl, s1, g1⟩
            have r1 := Lib.hid (s0.out.keeps g1 rr.out (by decide) (by decide))
            replace rx := Lib.hid (s0.out.keeps g1 rx.out (by decide) (by decide))
            replace rr := r1
            replace b1 := b1.trans (s0.out.under g1 b1.size)
            have c1 := actZ rx.out 1 (by decide)
            have c2 := actZ rx.out 2 (by decide)
            have c3 := actZ rx.out 3 (by decide)
            have c5 := actE rx.out
            clear P1 s0 g1 r1
            rw [z2.out] at c2
            rw [z3.out] at c3
            have R1 := Lib.hid (refFuse_any S.p wy fn kp N (Kn : Int) hN.out hK.out 0 Kn rfl)
            go_wp2_with (refine wpList_load_at rfl 29 _ rfl rp 0 rfl 37 _ _ 4 (pwF S.p) rr.out (rs_pw S) Try.underlying29 rfl infoPow4 ?_)
            refine R1.out.mono ?_
            rintro e wz ⟨rfl, bz0⟩
            replace s1 := Lib.hid (s1.out.after bz0)
            replace rr := Lib.hid (rr.out.below bz0 rr.out.lt)
            replace b1 := b1.trans (bz0.mono b1.size)
            have bz : Hid (Bs w.heap.size (wz.setRow rp (rowOf 40 (rsF (fuseSS S N Kn 0)))) pp sp rp (fuseSS S N Kn 0)) := Bs.lay s1.out rr.out hrp.out
            replace b1 := below_setRow' b1 hrp.out (rowOf 40 (rsF (fuseSS S N Kn 0)))
            have hfu : Hid (rowOf 40 (laidV (rsF S) (pwF { S.p with left := N, keep := Kn, junk := 0 }) 0 4) = rowOf 40 (rsF (fuseSS S N Kn 0))) := rs_pow S _
            clear R1 bz0 s1 rx c1 c2 c3 c5
            go_wp2_with (refine wpList_store_at rfl 29 _ _ rfl rp 0 40 4 (rsF S) (pwF { S.p with left := N, keep := Kn, junk := 0 }) rfl rfl 37 rr.out infoPow4 (pwF_all _) (by decide) ?_; rw [hfu.out]; generalize wz.setRow rp (rowOf 40 (rsF (fuseSS S N Kn 0))) = wq at *)
            go_meet
            exact ⟨_, 0, rfl, rfl, bz, lowZ, b1⟩
        by_cases k6 : kd = 6
        · subst k6
          as_aux_lemma =>
            have P1 := Lib.hid (slCut_any w.heap.size pp sp S wx s0)
            have lowZ := Lib.hid (low.out.cut.mono (Nat.le_succ i))
            go_wp2_with fail
            refine P1.out.mono ?_
            rintro e wy ⟨rfl, s1, g1⟩
            have r1 := Lib.hid (s0.out.keeps g1 rr.out (by decide) (by decide))
            replace rx := Lib.hid (s0.out.keeps g1 rx.out (by decide) (by decide))
            replace rr := r1
            replace b1 := b1.trans (s0.out.under g1 b1.size)
            have c1 := actZ rx.out 1 (by decide)
            have c2 := actZ rx.out 2 (by decide)
            have c3 := actZ rx.out 3 (by decide)
            have c5 := actE rx.out
            clear P1 s0 g1 r1
            have d1 := rsOff rr.out
            have d2 := rr.out.free 0
            have bz : Hid (Bs w.heap.size (wy.setCell ⟨rp, 0, none⟩ (.bool true)) pp sp rp (cutSS S)) := ⟨s1.out.cellSide rr.out 0 _, (rr.out.set 0 (.bool true)).congr (rs_cut S), hrp.out⟩
            replace b1 := b1.setCell (p := ⟨rp, 0, none⟩) hrp.out (.bool true)
            clear rx c1 c2 c3 c5 s1
            go_wp2
            go_meet
            exact ⟨_, 0, rfl, rfl, bz, lowZ, b1⟩
        by_cases k7 : kd = 7
        · subst k7
          as_aux_lemma =>
            have P1 := Lib.hid (slOn_any w.heap.size pp sp S wx s0)
            have lowZ := Lib.hid (low.out.on.mono (Nat.le_succ i))
            go_wp2_with fail
            refine P1.out.mono ?_
            rintro e wy ⟨rfl, s1, g1⟩
            have r1 := Lib.hid (s0.out.keeps g1 rr.out (by decide) (by decide))
            replace rx := Lib.hid (s0.out.keeps g1 rx.out (by decide) (by decide))
            replace rr := r1
            replace b1 := b1.trans (s0.out.under g1 b1.size)
            have c1 := actZ rx.out 1 (by decide)
            have c2 := actZ rx.out 2 (by decide)
            have c3 := actZ rx.out 3 (by decide)
            have c5 := actE rx.out
            clear P1 s0 g1 r1
            have d1 := rsOff rr.out
            have d2 := rr.out.free 0
            have r2 := Lib.hid ((rr.out.set 0 (.bool false)).congr (rs_up S))
            have s2 := Lib.hid (s1.out.cellSide rr.out 0 (.bool false))
            have d3 : (wy.setCell ⟨rp, 0, none⟩ (.bool false)).cell? ⟨rp, 1, none⟩ = some (.int .i64 (S.p.left.toNat : Nat)) := r2.out.cell 1 (by decide)
            have d4 := r2.out.free 1
            have bz : Hid (Bs w.heap.size ((wy.setCell ⟨rp, 0, none⟩ (.bool false)).setCell ⟨rp, 1, none⟩ (.int .i64 0)) pp sp rp (onSS S)) := ⟨s2.out.cellSide r2.out 1 _, (r2.out.set 1 (.int .i64 0)).congr (rs_on S), hrp.out⟩
            replace b1 := (b1.setCell (p := ⟨rp, 0, none⟩) hrp.out (.bool false)).setCell (p := ⟨rp, 1, none⟩) hrp.out (.int .i64 0)
            clear rx c1 c2 c3 c5 s1 s2 r2 rr
            go_wp2
            go_meet
            exact ⟨_, 0, rfl, rfl, bz, lowZ, b1⟩
        by_cases k8 : kd = 8
        · subst k8
          as_aux_lemma =>
            have P1 := Lib.hid (slOn_any w.heap.size pp sp S wx s0)
            have lowZ := Lib.hid (low.out.on.mono (Nat.le_succ i))
            go_wp2_with fail
            refine P1.out.mono ?_
            rintro e wy ⟨rfl, s1, g1⟩
            have r1 := Lib.hid (s0.out.keeps g1 rr.out (by decide) (by decide))
            replace rx := Lib.hid (s0.out.keeps g1 rx.out (by decide) (by decide))
            replace rr := r1
            replace b1 := b1.trans (s0.out.under g1 b1.size)
            have c1 := actZ rx.out 1 (by decide)
            have c2 := actZ rx.out 2 (by decide)
            have c3 := actZ rx.out 3 (by decide)
            have c5 := actE rx.out
            clear P1 s0 g1 r1
            have d1 := rsOff rr.out
            have d2 := rr.out.free 0
            have r2 := Lib.hid ((rr.out.set 0 (.bool false)).congr (rs_up S))
            have s2 := Lib.hid (s1.out.cellSide rr.out 0 (.bool false))
            have d3 : (wy.setCell ⟨rp, 0, none⟩ (.bool false)).cell? ⟨rp, 1, none⟩ = some (.int .i64 (S.p.left.toNat : Nat)) := r2.out.cell 1 (by decide)
            have d4 := r2.out.free 1
            have bz : Hid (Bs w.heap.size ((wy.setCell ⟨rp, 0, none⟩ (.bool false)).setCell ⟨rp, 1, none⟩ (.int .i64 0)) pp sp rp (onSS S)) := ⟨s2.out.cellSide r2.out 1 _, (r2.out.set 1 (.int .i64 0)).congr (rs_on S), hrp.out⟩
            replace b1 := (b1.setCell (p := ⟨rp, 0, none⟩) hrp.out (.bool false)).setCell (p := ⟨rp, 1, none⟩) hrp.out (.int .i64 0)
            clear rx c1 c2 c3 c5 s1 s2 r2 rr
            go_wp2
            go_meet
            exact ⟨_, 0, rfl, rfl, bz, lowZ, b1⟩
        have t0 : (kd == 0) = false := by rw [beq_eq_false_iff_ne]; exact k0
        have t1 : (kd == 1) = false := by rw [beq_eq_false_iff_ne]; exact k1
        have t2 : (kd == 2) = false := by rw [beq_eq_false_iff_ne]; exact k2
        have t3 : (kd == 3) = false := by rw [beq_eq_false_iff_ne]; exact k3
        have t4 : (kd == 4) = false := by rw [beq_eq_false_iff_ne]; exact k4
        have t5 : (kd == 5) = false := by rw [beq_eq_false_iff_ne]; exact k5
        have t6 : (kd == 6) = false := by rw [beq_eq_false_iff_ne]; exact k6
        have t7 : (kd == 7) = false := by rw [beq_eq_false_iff_ne]; exact k7
        have t8 : (kd == 8) = false := by rw [beq_eq_false_iff_ne]; exact k8
        clear k0 k1 k2 k3 k4 k5 k6 k7 k8
        have lowZ := Lib.hid (low.out.mono (Nat.le_succ i))
        have bz : Hid (Bs w.heap.size wx pp sp rp S) := ⟨s0.out, rr.out, hrp.out⟩
        clear rx c1 c2 c3 c5 s0 rr
        go_wp2
        go_meet
        exact ⟨S, 0, rfl, rfl, bz, lowZ, b1⟩
      case rest =>
        clear bs rx low b1 lo
        obtain ⟨SZ, E, rfl, rfl, bs, low, b1⟩ := hcut
        have X1 := Lib.hid (slotNewest_any w.heap.size pp sp SZ _ bs.out.sl)
        go_wp2_with fail
        refine X1.out.mono ?_
        rintro e w5 ⟨rfl, b5⟩
        replace bs := Lib.hid (bs.out.after b5)
        replace b1 := b1.trans (b5.mono b1.size)
        clear X1 b5
        have rr := Lib.hid bs.out.row
        have X2 := Lib.hid (refSNewest_any SZ bs.out.sl.ok w5)
        go_wp2_with (refine wpList_load_row rfl 37 _ rfl rp rfl 37 (rowOf 40 (rsF SZ)) (0, 0) _ rr.out Try.underlying37 rfl (infoRef _) ?_)
        refine X2.out.mono ?_
        rintro e w6 ⟨rfl, b6⟩
        replace bs := Lib.hid (bs.out.after b6)
        replace b1 := b1.trans (b6.mono b1.size)
        clear X2 b6 rr
        generalize newestI SZ = nI at *
        generalize newestE SZ = nE at *
        have HC : AskC w.heap.size w pp sp rp SZ w6.drew := ⟨bs.out.after (Below.refl _ _).drew, b1.trans ((Below.refl _ w6).drew.mono b1.size)⟩
        clear bs b1
        go_wp2_with fail
        refine wp_region_steady (AskC w.heap.size w pp sp rp SZ) [eqv (.int .i64 (E : Nat)), eqv (.int .i64 (E : Nat)), eqv (.bool false), eqv (.bool false), eqv (.pointer (some ⟨pp, 0, none⟩)), eqv (.bool SZ.p.up), eqv (.pointer (some ⟨rp, 0, none⟩)), eqv (.pointer (some ⟨rp, 0, none⟩)), eqv (.bool (!SZ.p.up)), eqv (.bool false), eqv (.bool false), eqv (.bool false), eqv (.int .i64 (nI : Nat)), eqv (.int .i64 (nI : Nat)), eqv (.bool false), eqv (.bool false), eqv (.bool false), eqv (.int .i64 (nE : Nat)), eqv (.int .i64 (nE : Nat)), eqv (.bool false), eqv (.bool false), eqv (.bool false), eqv (.pointer (some ⟨sp, 0, none⟩)), keysv w.heap.size (heldL SZ.c 2).length (listK (heldL SZ.c 2)), eqv (.agg (rowOf 40 (rsF SZ))), keysv w.heap.size (heldL SZ.c 2).length (listK (heldL SZ.c 2)), eqv (.bool true), eqv (.bool false), eqv (.bool false)] (by kernel_rfl) (by kernel_rfl) HC
          (.cons (steady_eqv _) (.cons (steady_eqv _) (.cons (steady_eqv _) (.cons (steady_eqv _) (.cons (steady_eqv _) (.cons (steady_eqv _) (.cons (steady_eqv _) (.cons (steady_eqv _) (.cons (steady_eqv _) (.cons (steady_eqv _) (.cons (steady_eqv _) (.cons (steady_eqv _) (.cons (steady_eqv _) (.cons (steady_eqv _) (.cons (steady_eqv _) (.cons (steady_eqv _) (.cons (steady_eqv _) (.cons (steady_eqv _) (.cons (steady_eqv _) (.cons (steady_eqv _) (.cons (steady_eqv _) (.cons (steady_eqv _) (.cons (steady_eqv _) (.cons (steady_keysv _ _ _) (.cons (steady_eqv _) (.cons (steady_keysv _ _ _) (.cons (steady_eqv _) (.cons (steady_eqv _) (.cons (steady_eqv _) .nil))))))))))))))))))))))))))))) ?_
        intro R hR
        refine wpRely_cons (fun w' hC hf => ?_) (fun v0 => ?_)
        · (repeat (first | (obtain ⟨rfl, hf⟩ := hf) | (obtain ⟨⟨q, rfl, hq⟩, hf⟩ := hf) | (obtain ⟨_, hf⟩ := hf)))
          exact grows_eqv (by rfl) hC (by go_simp)
        simp only [Act.put, List.setIfInBounds_toArray, List.set_cons_succ, List.set_cons_zero, List.nil_append]
        refine wpRely_cons (fun w' hC hf => ?_) (fun v1 => ?_)
        · (repeat (first | (obtain ⟨rfl, hf⟩ := hf) | (obtain ⟨⟨q, rfl, hq⟩, hf⟩ := hf) | (obtain ⟨_, hf⟩ := hf)))
          exact grows_eqv (by rfl) hC (by go_simp)
        simp only [Act.put, List.setIfInBounds_toArray, List.set_cons_succ, List.set_cons_zero, List.nil_append, List.cons_append]
        refine wpRely_cons (fun w' hC hf => ?_) (fun v2 => ?_)
        · (repeat (first | (obtain ⟨rfl, hf⟩ := hf) | (obtain ⟨⟨q, rfl, hq⟩, hf⟩ := hf) | (obtain ⟨_, hf⟩ := hf)))
          exact grows_eqv (by rfl) hC (by go_simp)
        simp only [Act.put, List.setIfInBounds_toArray, List.set_cons_succ, List.set_cons_zero, List.nil_append, List.cons_append]
        refine wpRely_cons (fun w' hC hf => ?_) (fun v3 => ?_)
        · (repeat (first | (obtain ⟨rfl, hf⟩ := hf) | (obtain ⟨⟨q, rfl, hq⟩, hf⟩ := hf) | (obtain ⟨_, hf⟩ := hf)))
          exact grows_eqv (by rfl) hC (by go_simp)
        simp only [Act.put, List.setIfInBounds_toArray, List.set_cons_succ, List.set_cons_zero, List.nil_append, List.cons_append]
        refine wpRely_cons (fun w' hC hf => ?_) (fun v4 => ?_)
        · (repeat (first | (obtain ⟨rfl, hf⟩ := hf) | (obtain ⟨⟨q, rfl, hq⟩, hf⟩ := hf) | (obtain ⟨_, hf⟩ := hf)))
          exact grows_eqv (by rfl) hC (by go_simp)
        simp only [Act.put, List.setIfInBounds_toArray, List.set_cons_succ, List.set_cons_zero, List.nil_append, List.cons_append]
        refine wpRely_cons (fun w' hC hf => ?_) (fun v5 => ?_)
        · (repeat (first | (obtain ⟨rfl, hf⟩ := hf) | (obtain ⟨⟨q, rfl, hq⟩, hf⟩ := hf) | (obtain ⟨_, hf⟩ := hf)))
          exact grows_calls hR (fun _ _ hb h => AskC.after hb h) hC (by rfl) (by go_simp) ((powUp_any pp _ _ _ _ w' hC.1.sl.pow).mono fun _ _ ⟨he, hb⟩ => ⟨he, hb ▸ Below.refl _ _⟩)
        simp only [Act.put, List.setIfInBounds_toArray, List.set_cons_succ, List.set_cons_zero, List.nil_append, List.cons_append]
        refine wpRely_cons (fun w' hC hf => ?_) (fun v6 => ?_)
        · (repeat (first | (obtain ⟨rfl, hf⟩ := hf) | (obtain ⟨⟨q, rfl, hq⟩, hf⟩ := hf) | (obtain ⟨_, hf⟩ := hf)))
          exact grows_eqv (by rfl) hC (by go_simp)
        simp only [Act.put, List.setIfInBounds_toArray, List.set_cons_succ, List.set_cons_zero, List.nil_append, List.cons_append]
        refine wpRely_cons (fun w' hC hf => ?_) (fun v7 => ?_)
        · (repeat (first | (obtain ⟨rfl, hf⟩ := hf) | (obtain ⟨⟨q, rfl, hq⟩, hf⟩ := hf) | (obtain ⟨_, hf⟩ := hf)))
          exact grows_eqv (by rfl) hC (by go_simp)
        simp only [Act.put, List.setIfInBounds_toArray, List.set_cons_succ, List.set_cons_zero, List.nil_append, List.cons_append]
        refine wpRely_cons (fun w' hC hf => ?_) (fun v8 => ?_)
        · (repeat (first | (obtain ⟨rfl, hf⟩ := hf) | (obtain ⟨⟨q, rfl, hq⟩, hf⟩ := hf) | (obtain ⟨_, hf⟩ := hf)))
          exact grows_eqv (by rfl) hC (run_load_cell (rsOff hC.1.row) Try.underlying4 rfl rfl rfl)
        simp only [Act.put, List.setIfInBounds_toArray, List.set_cons_succ, List.set_cons_zero, List.nil_append, List.cons_append]
        refine wpRely_cons (fun w' hC hf => ?_) (fun v9 => ?_)
        · (repeat (first | (obtain ⟨rfl, hf⟩ := hf) | (obtain ⟨⟨q, rfl, hq⟩, hf⟩ := hf) | (obtain ⟨_, hf⟩ := hf)))
          exact grows_eqv (by rfl) hC (run_up_off SZ.p.up rfl rfl rfl _)
        simp only [Act.put, List.setIfInBounds_toArray, List.set_cons_succ, List.set_cons_zero, List.nil_append, List.cons_append]
        refine wpRely_cons (fun w' hC hf => ?_) (fun v10 => ?_)
        · (repeat (first | (obtain ⟨rfl, hf⟩ := hf) | (obtain ⟨⟨q, rfl, hq⟩, hf⟩ := hf) | (obtain ⟨_, hf⟩ := hf)))
          exact grows_eqv (by rfl) hC (by go_simp)
        simp only [Act.put, List.setIfInBounds_toArray, List.set_cons_succ, List.set_cons_zero, List.nil_append, List.cons_append]
        refine wpRely_cons (fun w' hC hf => ?_) (fun v11 => ?_)
        · (repeat (first | (obtain ⟨rfl, hf⟩ := hf) | (obtain ⟨⟨q, rfl, hq⟩, hf⟩ := hf) | (obtain ⟨_, hf⟩ := hf)))
          exact grows_eqv (by rfl) hC (by go_simp)
        simp only [Act.put, List.setIfInBounds_toArray, List.set_cons_succ, List.set_cons_zero, List.nil_append, List.cons_append]
        refine wpRely_cons (fun w' hC hf => ?_) (fun v12 => ?_)
        · (repeat (first | (obtain ⟨rfl, hf⟩ := hf) | (obtain ⟨⟨q, rfl, hq⟩, hf⟩ := hf) | (obtain ⟨_, hf⟩ := hf)))
          exact grows_eqv (by rfl) hC (by go_simp)
        simp only [Act.put, List.setIfInBounds_toArray, List.set_cons_succ, List.set_cons_zero, List.nil_append, List.cons_append]
        refine wpRely_cons (fun w' hC hf => ?_) (fun v13 => ?_)
        · (repeat (first | (obtain ⟨rfl, hf⟩ := hf) | (obtain ⟨⟨q, rfl, hq⟩, hf⟩ := hf) | (obtain ⟨_, hf⟩ := hf)))
          exact grows_eqv (by rfl) hC (by go_simp)
        simp only [Act.put, List.setIfInBounds_toArray, List.set_cons_succ, List.set_cons_zero, List.nil_append, List.cons_append]
        refine wpRely_cons (fun w' hC hf => ?_) (fun v14 => ?_)
        · (repeat (first | (obtain ⟨rfl, hf⟩ := hf) | (obtain ⟨⟨q, rfl, hq⟩, hf⟩ := hf) | (obtain ⟨_, hf⟩ := hf)))
          exact grows_eqv (by rfl) hC (by go_simp)
        simp only [Act.put, List.setIfInBounds_toArray, List.set_cons_succ, List.set_cons_zero, List.nil_append, List.cons_append]
        refine wpRely_cons (fun w' hC hf => ?_) (fun v15 => ?_)
        · (repeat (first | (obtain ⟨rfl, hf⟩ := hf) | (obtain ⟨⟨q, rfl, hq⟩, hf⟩ := hf) | (obtain ⟨_, hf⟩ := hf)))
          exact grows_eqv (by rfl) hC (by go_simp)
        simp only [Act.put, List.setIfInBounds_toArray, List.set_cons_succ, List.set_cons_zero, List.nil_append, List.cons_append]
        refine wpRely_cons (fun w' hC hf => ?_) (fun v16 => ?_)
        · (repeat (first | (obtain ⟨rfl, hf⟩ := hf) | (obtain ⟨⟨q, rfl, hq⟩, hf⟩ := hf) | (obtain ⟨_, hf⟩ := hf)))
          exact grows_eqv (by rfl) hC (by go_simp)
        simp only [Act.put, List.setIfInBounds_toArray, List.set_cons_succ, List.set_cons_zero, List.nil_append, List.cons_append]
        refine wpRely_cons (fun w' hC hf => ?_) (fun v17 => ?_)
        · (repeat (first | (obtain ⟨rfl, hf⟩ := hf) | (obtain ⟨⟨q, rfl, hq⟩, hf⟩ := hf) | (obtain ⟨_, hf⟩ := hf)))
          exact grows_eqv (by rfl) hC (by go_simp)
        simp only [Act.put, List.setIfInBounds_toArray, List.set_cons_succ, List.set_cons_zero, List.nil_append, List.cons_append]
        refine wpRely_cons (fun w' hC hf => ?_) (fun v18 => ?_)
        · (repeat (first | (obtain ⟨rfl, hf⟩ := hf) | (obtain ⟨⟨q, rfl, hq⟩, hf⟩ := hf) | (obtain ⟨_, hf⟩ := hf)))
          exact grows_eqv (by rfl) hC (by go_simp)
        simp only [Act.put, List.setIfInBounds_toArray, List.set_cons_succ, List.set_cons_zero, List.nil_append, List.cons_append]
        refine wpRely_cons (fun w' hC hf => ?_) (fun v19 => ?_)
        · (repeat (first | (obtain ⟨rfl, hf⟩ := hf) | (obtain ⟨⟨q, rfl, hq⟩, hf⟩ := hf) | (obtain ⟨_, hf⟩ := hf)))
          exact grows_eqv (by rfl) hC (by go_simp)
        simp only [Act.put, List.setIfInBounds_toArray, List.set_cons_succ, List.set_cons_zero, List.nil_append, List.cons_append]
        refine wpRely_cons (fun w' hC hf => ?_) (fun v20 => ?_)
        · (repeat (first | (obtain ⟨rfl, hf⟩ := hf) | (obtain ⟨⟨q, rfl, hq⟩, hf⟩ := hf) | (obtain ⟨_, hf⟩ := hf)))
          exact grows_eqv (by rfl) hC (by go_simp)
        simp only [Act.put, List.setIfInBounds_toArray, List.set_cons_succ, List.set_cons_zero, List.nil_append, List.cons_append]
        refine wpRely_cons (fun w' hC hf => ?_) (fun v21 => ?_)
        · (repeat (first | (obtain ⟨rfl, hf⟩ := hf) | (obtain ⟨⟨q, rfl, hq⟩, hf⟩ := hf) | (obtain ⟨_, hf⟩ := hf)))
          exact grows_eqv (by rfl) hC (by go_simp)
        simp only [Act.put, List.setIfInBounds_toArray, List.set_cons_succ, List.set_cons_zero, List.nil_append, List.cons_append]
        refine wpRely_cons (fun w' hC hf => ?_) (fun v22 => ?_)
        · (repeat (first | (obtain ⟨rfl, hf⟩ := hf) | (obtain ⟨⟨q, rfl, hq⟩, hf⟩ := hf) | (obtain ⟨_, hf⟩ := hf)))
          exact grows_eqv (by rfl) hC (by go_simp)
        simp only [Act.put, List.setIfInBounds_toArray, List.set_cons_succ, List.set_cons_zero, List.nil_append, List.cons_append]
        refine wpRely_cons (fun w' hC hf => ?_) (fun v23 => ?_)
        · (repeat (first | (obtain ⟨rfl, hf⟩ := hf) | (obtain ⟨⟨q, rfl, hq⟩, hf⟩ := hf) | (obtain ⟨_, hf⟩ := hf)))
          exact grows_keys hR (fun _ _ hb h => AskC.after hb h) hC hC.2.size (by rfl) (by go_simp) (slotHolds_any w.heap.size pp sp SZ w' hC.1.sl)
        simp only [Act.put, List.setIfInBounds_toArray, List.set_cons_succ, List.set_cons_zero, List.nil_append, List.cons_append]
        refine wpRely_cons (fun w' hC hf => ?_) (fun v24 => ?_)
        · (repeat (first | (obtain ⟨rfl, hf⟩ := hf) | (obtain ⟨⟨q, rfl, hq⟩, hf⟩ := hf) | (obtain ⟨_, hf⟩ := hf)))
          exact grows_load (by rfl) hC rfl rfl (hC.1.row) Try.underlying37 rfl (infoRef _)
        simp only [Act.put, List.setIfInBounds_toArray, List.set_cons_succ, List.set_cons_zero, List.nil_append, List.cons_append]
        refine wpRely_cons (fun w' hC hf => ?_) (fun v25 => ?_)
        · (repeat (first | (obtain ⟨rfl, hf⟩ := hf) | (obtain ⟨⟨q, rfl, hq⟩, hf⟩ := hf) | (obtain ⟨_, hf⟩ := hf)))
          exact grows_keys hR (fun _ _ hb h => AskC.after hb h) hC hC.2.size (by rfl) (by go_simp) (refSHolds_any SZ w')
        simp only [Act.put, List.setIfInBounds_toArray, List.set_cons_succ, List.set_cons_zero, List.nil_append, List.cons_append]
        refine wpRely_cons (fun w' hC hf => ?_) (fun v26 => ?_)
        · skip
          obtain ⟨rfl, hv, hu, _⟩ := hf
          obtain ⟨a3, c3, rfl, q3, _⟩ := own_seesK hv
          obtain ⟨a4, c4, rfl, q4, _⟩ := own_seesK hu
          exact grows_calls hR (fun _ _ hb h => AskC.after hb h) hC (by rfl) (by go_simp) (same_yes _ (Nat.le_trans (heldL_le _ 2) (by decide)) _ a3 a4 c3 c4 w' q3 q4)
        simp only [Act.put, List.setIfInBounds_toArray, List.set_cons_succ, List.set_cons_zero, List.nil_append, List.cons_append]
        refine wpRely_cons (fun w' hC hf => ?_) (fun v27 => ?_)
        · (repeat (first | (obtain ⟨rfl, hf⟩ := hf) | (obtain ⟨⟨q, rfl, hq⟩, hf⟩ := hf) | (obtain ⟨_, hf⟩ := hf)))
          exact grows_eqv (by rfl) hC (by go_simp)
        simp only [Act.put, List.setIfInBounds_toArray, List.set_cons_succ, List.set_cons_zero, List.nil_append, List.cons_append]
        refine wpRely_cons (fun w' hC hf => ?_) (fun v28 => ?_)
        · (repeat (first | (obtain ⟨rfl, hf⟩ := hf) | (obtain ⟨⟨q, rfl, hq⟩, hf⟩ := hf) | (obtain ⟨_, hf⟩ := hf)))
          exact grows_eqv (by rfl) hC (by go_simp)
        simp only [Act.put, List.setIfInBounds_toArray, List.set_cons_succ, List.set_cons_zero, List.nil_append, List.cons_append]
        refine wpRely_nil fun w9 hC hf => ?_
        obtain ⟨_, _, _, _, _, _, _, _, _, _, _, _, _, _, _, _, _, _, _, _, _, _, _, _, _, _, _, _, rfl, _⟩ := hf
        obtain ⟨bs, b1⟩ := hC
        replace bs := Lib.hid bs
        clear HC hR
        go_wp2
        go_loopw [14] (fun v wr => ∃ z : Int, -1 ≤ z ∧ z ≤ 3 ∧ v = .int .i64 z ∧ Hid (Bs w.heap.size wr pp sp rp SZ) ∧ Below w.heap.size w wr) (fun v _ => (3 - intOf v).toNat)
        case atStart => exact ⟨-1, by decide, by decide, rfl, bs, b1⟩
        case round =>
          clear bs b1
          obtain ⟨z, z1, z2, rfl, bs, b1⟩ := hrel
          by_cases hz : z < 3
          · obtain ⟨kf, en, er, hV⟩ := readVS_form SZ z
            have X1 := Lib.hid (slotRead_any w.heap.size pp sp SZ _ bs.out.sl z)
            rw [hV] at X1
            go_wp2_with fail
            refine X1.out.mono ?_
            rintro e w7 ⟨rfl, b7⟩
            replace bs := Lib.hid (bs.out.after b7)
            replace b1 := b1.trans (b7.mono b1.size)
            clear X1 b7
            have zq := Lib.hid (RowAt.new w7 31 (rowOf 16 (w8 zeroN)))
            have rq := Lib.hid (RowAt.new w7 31 (rowOf 16 (w8 kf)))
            have b8 : Below w7.heap.size w7 (w7.alloc (.cells (rowOf 16 (w8 kf)) 31)) := (Below.refl _ _).alloc (Nat.le_refl _) _
            replace bs := Lib.hid (bs.out.after b8)
            replace b1 := b1.trans (b8.mono b1.size)
            have rr := Lib.hid bs.out.row
            have X2 := Lib.hid (refSRead_any SZ bs.out.sl.ok z (w7.alloc (.cells (rowOf 16 (w8 kf)) 31)))
            rw [hV] at X2
            clear b8
            go_wp2_with (first | (refine wpList_store_row rfl 31 _ _ rfl w7.heap.size (rowOf 16 (w8 kf)) rfl rfl 31 _ zq.out (info_key _) (by rw [rowOf_size, rowOf_size]) (rowOf_cells8 _ _) ?_; rw [World.setRow_alloc_new]; generalize w7.alloc (.cells (rowOf 16 (w8 kf)) 31) = w9 at *) | (refine wpList_load_row rfl 37 _ rfl rp rfl 37 (rowOf 40 (rsF SZ)) (0, 0) _ rr.out Try.underlying37 rfl (infoRef _) ?_))
            refine X2.out.mono ?_
            rintro e w10 ⟨rfl, b10⟩
            replace bs := Lib.hid (bs.out.after b10)
            replace b1 := b1.trans (b10.mono b1.size)
            replace rq := Lib.hid (rq.out.below b10 rq.out.lt)
            generalize w7.heap.size = kb at *
            clear X2 b10 rr zq hV
            have zq := Lib.hid (RowAt.new w10 31 (rowOf 16 (w8 zeroN)))
            have rq2 := Lib.hid (RowAt.new w10 31 (rowOf 16 (w8 kf)))
            have b11 : Below w10.heap.size w10 (w10.alloc (.cells (rowOf 16 (w8 kf)) 31)) := (Below.refl _ _).alloc (Nat.le_refl _) _
            replace bs := Lib.hid (bs.out.after b11)
            replace b1 := b1.trans (b11.mono b1.size)
            replace rq := Lib.hid (rq.out.below b11 rq.out.lt)
            clear b11
            go_wp2_with (first | (refine wpList_store_row rfl 31 _ _ rfl w10.heap.size (rowOf 16 (w8 kf)) rfl rfl 31 _ zq.out (info_key _) (by rw [rowOf_size, rowOf_size]) (rowOf_cells8 _ _) ?_; rw [World.setRow_alloc_new]; generalize w10.alloc (.cells (rowOf 16 (w8 kf)) 31) = w11 at *) | (refine wpList_load_row rfl 31 _ rfl kb rfl 31 (rowOf 16 (w8 kf)) (0, 0) _ rq.out Try.underlying31 rfl (info_key _) ?_) | (refine wpList_load_row rfl 31 _ rfl w10.heap.size rfl 31 (rowOf 16 (w8 kf)) (0, 0) _ rq2.out Try.underlying31 rfl (info_key _) ?_) | (refine wpList_known rfl (run_neq_key2 kf kf false (by rw [sameK_rfl]; rfl) rfl rfl rfl _) ?_))
            clear zq rq rq2
            go_roundw
            case rel => exact ⟨z + 1, by omega, by omega, by go_num, bs, b1⟩
            case measure => simp [intOf]; omega
          · have z3 : z = 3 := by omega
            subst z3
            clear z1 z2 hz
            have hn20 := hn.out
            go_wp2
            go_roundg (nl - (i + 1))
            case measure => have := hlt2.out; omega
            case rel => exact ⟨i + 1, SZ, by have := hlt2.out; omega, by go_num, bs, low, b1⟩
    · have li : ¬ (i : Int) < (nl : Int) := by omega
      clear bs low
      have NN : Hid (∀ w', _) := fun w' => slotNew_no w'
      go_wp2_with fail
      refine (NN.out _).mono ?_
      rintro e w5 ⟨rfl, rfl⟩
      go_wp2
      go_ret
      exact ⟨rfl, b1⟩
    
theorem walk_SlotActs (al : Option Addr) (nl cl : Nat) (X : SActs) (w : World) (hX : CameS w al nl cl X) :
    Calls Try.prog 3 #[.slice al nl cl] w fun e w' => e = .returned (.bool true) ∧ Below w.heap.size w w' := by
  by_cases hl : 150 < nl
  · exact acts11_long al nl cl w (by omega)
  · exact acts11_nat al nl cl X w hX.1 hX.2 (by omega)

end Go.Proofs.Ytopajipagacmkaa
