/-
  The law SlotSwaps: every input.
-/
import Derived.Test.YtopajipagacmkaaSlotSwapsMath
namespace Go.Proofs.Ytopajipagacmkaa
open Go.RowKit
set_option linter.unusedVariables false

theorem run_conv_u64 {n : Nat} (h : n < 9223372036854775808) {o : Oper} {a : Act} {x : Operand} (ho : o.op = .convert 3 32 x) (hx : a.eval x = .int .i64 (n : Nat)) (w : World) : (execOp a.eval o).run Try.prog w = .ok (.value (.int .u64 (n : Nat))) w := by
  have hw : IntKind.u64.wrap ((n : Nat) : Int) = (n : Int) := by
    simp [IntKind.wrap, IntKind.bits, IntKind.signed]
    omega
  unfold execOp
  simp only [ho, hx]
  simp [go_sem, hw]
theorem run_add1 {n : Nat} (h : n ≤ 1000000) {o : Oper} {a : Act} {x y : Operand} (ho : o.op = .binOp .add 3 x y 3) (hx : a.eval x = .int .i64 (n : Nat)) (hy : a.eval y = .int .i64 1) (w : World) : (execOp a.eval o).run Try.prog w = .ok (.value (.int .i64 ((n + 1 : Nat) : Int))) w := by
  have hw : IntKind.i64.wrap ((n : Int) + 1) = ((n + 1 : Nat) : Int) := by
    simp [IntKind.wrap, IntKind.bits, IntKind.signed]
    omega
  unfold execOp
  simp only [ho, hx, hy]
  simp [go_sem, hw]
/-- A row of keys that the call owns, told by a list. -/
theorem own_list {w : World} {base : Nat} {v : Value} {l : List (Nat → Nat)} (h : w.ownsRow base 31 16 v l.length (keysL l)) : ∃ a c, v = .slice a l.length c ∧ SeesK w a l.length (listK l) := by
  obtain ⟨a, c, e, hs, _⟩ := own_seesK h
  exact ⟨a, c, e, hs⟩

set_option maxHeartbeats 4000000 in
set_option maxRecDepth 8000 in
theorem swaps_long (a : Option Addr) (nl cl : Nat) (cut kp : Nat) (w : World) (hn : 20 < (nl : Int)) :
    Calls Try.prog 6 #[.slice a nl cl, .int .u8 (cut : Nat), .int .u8 (kp : Nat)] w fun e w' => e = .returned (.bool true) ∧ Below w.heap.size w w' := by
  have d0 : decide ((nl : Int) > 20) = true := decide_eq_true hn
  have H := Lib.hid (shown11_any w)
  clear hn
  go_enter Try.func6, Try.ntmps6
  go_wp2_with fail
  refine H.out.mono ?_
  rintro e w1 ⟨rfl, b1⟩
  go_wp2
  go_ret
  exact ⟨rfl, b1⟩

theorem own_single {w : World} {base : Nat} {v : Value} {q : Nat → Nat} (h : w.ownsRow base 31 16 v [q].length (keysL [q])) : ∃ a c, v = .slice a 1 c ∧ SeesK w a 1 (listK [q]) := by
  obtain ⟨a, c, e, hs, _⟩ := own_seesK h
  exact ⟨a, c, e, hs⟩

set_option maxHeartbeats 1000000 in
set_option maxRecDepth 8000 in
theorem swaps_nat (al : Option Addr) (nl cl : Nat) (K : Nat → Nat → Nat) (cut kp : Nat) (hc : cut < 256) (hkp : kp < 256) (w : World) (hK : Hid (SeesK w al nl K)) (hn : nl ≤ 20) :
    Calls Try.prog 6 #[.slice al nl cl, .int .u8 (cut : Nat), .int .u8 (kp : Nat)] w fun e w' => e = .returned (.bool true) ∧ Below w.heap.size w w' := by
  have d0 : decide ((nl : Int) > 20) = false := decide_eq_false (by omega)
  obtain ⟨N, hN⟩ : ∃ N, N = cut % 50 := ⟨_, rfl⟩
  have hm : ((cut : Nat) : Int) % 50 = (N : Int) := by omega
  replace hm : Int.tmod ((cut : Nat) : Int) 50 = (N : Int) := by rw [Int.tmod_eq_emod_of_nonneg (by omega)]; exact hm
  have hN2 : Hid (N < 50) := by unfold Hid; omega
  replace hn := Lib.hid hn
  have H := Lib.hid (shown11_any w)
  clear hN
  go_enter Try.func6, Try.ntmps6
  go_wp2_with fail
  refine H.out.mono ?_
  rintro e w1 ⟨rfl, b1⟩
  clear H
  have NP := Lib.hid (newPower_any w1)
  have lw1 := b1.size
  go_wp2_with fail
  refine NP.out.mono ?_
  rintro e w2 ⟨rfl, r1, b2⟩
  have NS := Lib.hid (slotNew_any w.heap.size w1.heap.size noneS w2 lw1 r1 (by decide) (by decide))
  replace b1 := b1.trans (b2.mono b1.size)
  clear NP r1 b2 lw1
  generalize w1.heap.size = pp at *
  go_wp2_with fail
  refine NS.out.mono ?_
  rintro e w3 ⟨rfl, s0, b3⟩
  replace b1 := b1.trans (b3.mono b1.size)
  clear NS b3
  generalize w2.heap.size = sp at *
  have FU := Lib.hid (slFuse_any w.heap.size pp sp _ w3 s0 (N : Int) (kp : Int) N kp (.inr ⟨by omega, rfl⟩) (.inr ⟨by omega, rfl⟩) (by omega))
  go_wp2_with fail
  refine FU.out.mono ?_
  rintro e w4 ⟨rfl, s1, g1⟩
  have bz := s0.out.under g1 b1.size
  replace b1 := b1.trans bz
  have I0 : Hid (SwI K 0 (fuseSS (newSS noneS) N kp 0)) := by
    refine ⟨rfl, rfl, fun _ => rfl, fun j hj => by omega, ⟨?_, ?_⟩⟩
    · show -((2 * 0 : Nat) : Int) ≤ (N : Int)
      omega
    · show (N : Int) < _
      have := hN2.out
      omega
  clear FU s0 g1 bz hm hN2 hkp hc
  go_wp2
  go_loopw [9, 10] (fun va vi wr => ∃ (i a : Nat) (S : SS), i ≤ nl ∧ Hid (a = i % 2) ∧ va = .int .i64 (a : Nat) ∧ vi = .int .i64 (i : Nat) ∧ Hid (SwI K i S) ∧ Hid (Sl w.heap.size wr pp sp S) ∧ Below w.heap.size w wr) (fun _ vi _ => nl - (intOf vi).toNat)
  case atStart => exact ⟨0, 0, _, Nat.zero_le _, rfl, rfl, rfl, I0, s1, b1⟩
  case round =>
    clear I0 s1 b1
    obtain ⟨i, a, S, hi, ha, rfl, rfl, I, s0, b1⟩ := hrel
    by_cases hlt : i < nl
    · have li : (i : Int) < (nl : Int) := by omega
      have hlt2 := Lib.hid hlt
      have hn20 := hn.out
      obtain ⟨b, hb⟩ : ∃ b, Hid (b = 1 - i % 2) := ⟨_, rfl⟩
      have ha2 : Hid (a < 2) := by have := ha.out; unfold Hid; omega
      have hb2 : Hid (b < 2) := by have := hb.out; unfold Hid; omega
      have hab : Hid (b = 1 - a) := by have := ha.out; have := hb.out; unfold Hid; omega
      have hh : Hid (S.c a = blankC) := by rw [ha.out]; exact I.out.here
      have kS := Lib.hid (hK.out.after b1)
      have cv1 := Lib.hid (show i + 1 < 9223372036854775808 by omega)
      have cv2 := Lib.hid (show i ≤ 1000000 by omega)
      have lo := Lib.hid (And.intro (I.out.low.low (by omega)) I.out.low.hi)
      clear hn20
      have X := Lib.hid (slotWrite_any w.heap.size pp sp S wr s0 (a : Nat) (K i) (i + 1) lo.out.1 lo.out.2)
      rw [sw_writeE ha2.out I.out.up hh.out, sw_writeS ha2.out I.out.up hh.out] at X
      cases hw : (S.p.left - 1 != 0) with
        | false =>
          rw [turnE_part hw] at X
          replace hw := Lib.hid hw
          go_wp2_with (first | (refine wpList_known rfl (run_index_el kS.out hlt rfl rfl rfl _) ?_) | (refine wpList_known rfl (run_load_el kS.out hlt rfl rfl) ?_) | (refine wpList_known rfl (run_add1 cv2.out rfl rfl rfl _) ?_) | (refine wpList_known rfl (run_conv_u64 cv1.out rfl rfl _) ?_))
          refine X.out.mono ?_
          rintro e w5 ⟨he, s1, g1⟩
          obtain rfl : e = .returned (.int .i64 4) := he
          replace b1 := b1.trans (s0.out.under g1 b1.size)
          clear X s0 g1
          have s0 : Hid (Sl _ _ _ _ (turnS S a ⟨true, K i, i + 1⟩)) := s1
          clear s1
          have X := Lib.hid (slotHolds_any w.heap.size pp sp (turnS S a ⟨true, K i, i + 1⟩) w5 s0)
          go_wp2_with fail
          refine X.out.mono ?_
          rintro e w6 ⟨v, rfl, hv, bx⟩
          obtain ⟨av, cv, rfl, sk⟩ := own_list hv.out
          replace sk := Lib.hid sk
          replace s0 := Lib.hid (s0.out.after bx)
          replace b1 := b1.trans (bx.mono b1.size)
          clear X bx hv
          clear cv1 cv2 lo kS
          by_cases hi0 : i = 0
          · have d1 : ((i : Int) == 0) = true := by rw [beq_iff_eq]; omega
            clear I hb hh hw hab hlt li hi0 s0
            go_wp2_with fail
            refine wp_region_one (by kernel_rfl) (by kernel_rfl) ?_
            have bx : Below w6.heap.size w6 (World.drew w6) := (Below.refl _ _).drew
            replace sk := Lib.hid (sk.out.after bx)
            replace b1 := b1.trans (bx.mono b1.size)
            clear bx
            generalize World.drew w6 = w9 at *
            (go_big_quiet_want; go_big_quiet_op; go_big_quiet_on)
            (go_big_quiet_want; go_big_quiet_op; go_big_quiet_on)
            (go_big_quiet_want; go_big_quiet_op; go_big_quiet_on)
            (go_big_quiet_want; go_big_quiet_op; go_big_quiet_on)
            (go_big_quiet_want; go_big_quiet_op; go_big_quiet_on)
            repeat (first | go_big_quiet_skip | (go_big_quiet_want; go_big_quiet_op; go_big_quiet_on))
            refine wpQuiet_nil ?_
            go_wp2
            go_ret
            exact ⟨rfl, b1⟩
          · obtain ⟨j, hj⟩ : ∃ j, Hid (i = j + 1) := ⟨i - 1, by unfold Hid; omega⟩
            have hS : (turnS S a ⟨true, K i, i + 1⟩).c b = ⟨true, K j, i⟩ := by
              rw [turn_other _ _ _ _ (by have := hab.out; have := ha2.out; omega), hb.out]
              exact I.out.there j hj.out
            obtain ⟨m, hL, hor⟩ := held_has _ b hb2.out (K j) i hS
            clear hS I hb hh hw hab s0
            have n20 := heldL_le (turnS S a ⟨true, K i, i + 1⟩).c 2
            generalize (heldL (turnS S a ⟨true, K i, i + 1⟩).c 2).length = n at *
            generalize listK (heldL (turnS S a ⟨true, K i, i + 1⟩).c 2) = F at *
            have d2 : decide (0 < n) = true := decide_eq_true (by omega)
            have sm : Hid (IntKind.i64.wrap ((n : Int) - 1) = (m : Int)) := by
              have := wrap_nat2 n 1 (by omega) (by omega)
              rw [show ((1 : Nat) : Int) = 1 from rfl] at this
              unfold Hid
              rw [this, show n - 1 = m by omega]
            have hmn : Hid (m < n) := by unfold Hid; omega
            have h0n : Hid (0 < n) := by unfold Hid; omega
            replace hor := Lib.hid hor
            clear n20 hL
            have ljt : Hid (j < nl) := by have := hj.out; unfold Hid; omega
            have d1 : ((i : Int) == 0) = false := by rw [beq_eq_false_iff_ne]; omega
            have sj : Hid (IntKind.i64.wrap ((i : Int) - 1) = (j : Int)) := by
              have := wrap_nat2 i 1 (by omega) (by have := hn.out; omega)
              rw [show ((1 : Nat) : Int) = 1 from rfl] at this
              unfold Hid
              rw [this, show i - 1 = j by have := hj.out; omega]
            clear hi0 hj
            by_cases hf : sameK (F 0) (K j) = true
            · have hf2 := Lib.hid hf
              clear hf hor
              have kS2 := Lib.hid (hK.out.after b1)
              go_wp2_with fail
              refine wp_region_one (by kernel_rfl) (by kernel_rfl) ?_
              have bx : Below w6.heap.size w6 (World.drew w6) := (Below.refl _ _).drew
              replace sk := Lib.hid (sk.out.after bx)
              replace kS2 := Lib.hid (kS2.out.after bx)
              replace b1 := b1.trans (bx.mono b1.size)
              clear bx
              generalize World.drew w6 = w9 at *
              (go_big_quiet_want; go_big_quiet_op; go_big_quiet_on)
              (go_big_quiet_want; go_big_quiet_op; go_big_quiet_on)
              (go_big_quiet_want; go_big_quiet_op; go_big_quiet_on)
              (go_big_quiet_want; go_big_quiet_op; go_big_quiet_on)
              (go_big_quiet_want; go_big_quiet_op; go_big_quiet_on)
              (go_big_quiet_want; go_big_quiet_op; go_big_quiet_on)
              (go_big_quiet_want; go_big_quiet_op; go_big_quiet_on)
              (go_big_quiet_want; go_big_quiet_op; go_big_quiet_on)
              (go_big_quiet_want; go_big_quiet_op; go_big_quiet_on)
              (go_big_quiet_want; go_big_quiet_op; go_big_quiet_on)
              (go_big_quiet_want; go_big_quiet_op; go_big_quiet_on)
              refine wpQuiet_val (by rfl) _ (fun w' _ => run_index_el sk.out (i := 0) h0n.out rfl rfl rfl w') ?_
              simp only [Act.put, List.setIfInBounds_toArray, List.set_cons_succ, List.set_cons_zero]
              refine wpQuiet_val (by rfl) (.agg (rowOf 16 (w8 (F 0)))) (fun w' e => by subst e; exact run_load_el sk.out (i := 0) h0n.out rfl rfl) ?_
              simp only [Act.put, List.setIfInBounds_toArray, List.set_cons_succ, List.set_cons_zero]
              (go_big_quiet_want; go_big_quiet_op; go_big_quiet_on)
              (go_big_quiet_want; go_big_quiet_op; go_big_quiet_on)
              refine wpQuiet_val (by rfl) _ (fun w' _ => run_sub_any sj.out rfl rfl rfl w') ?_
              simp only [Act.put, List.setIfInBounds_toArray, List.set_cons_succ, List.set_cons_zero]
              refine wpQuiet_val (by rfl) _ (fun w' _ => run_index_el kS2.out (i := j) ljt.out rfl rfl rfl w') ?_
              simp only [Act.put, List.setIfInBounds_toArray, List.set_cons_succ, List.set_cons_zero]
              refine wpQuiet_val (by rfl) (.agg (rowOf 16 (w8 (K j)))) (fun w' e => by subst e; exact run_load_el kS2.out (i := j) ljt.out rfl rfl) ?_
              simp only [Act.put, List.setIfInBounds_toArray, List.set_cons_succ, List.set_cons_zero]
              refine wpQuiet_val (by rfl) _ (fun w' _ => run_eql_key2 (F 0) (K j) true hf2.out rfl rfl rfl w') ?_
              simp only [Act.put, List.setIfInBounds_toArray, List.set_cons_succ, List.set_cons_zero]
              (go_big_quiet_want; go_big_quiet_op; go_big_quiet_on)
              repeat (first | go_big_quiet_skip | (go_big_quiet_want; go_big_quiet_op; go_big_quiet_on))
              refine wpQuiet_nil ?_
              go_wp2
              go_ret
              exact ⟨rfl, b1⟩
            · have hf2 := Lib.hid hf
              have hf3 : Hid (sameK (F 0) (K j) = false) := by unfold Hid; simpa using hf
              have hl3 : Hid (sameK (F m) (K j) = true) := by
                rcases hor.out with h | h
                · exact absurd (by rw [h]; exact sameK_rfl _) hf
                · unfold Hid; rw [h]; exact sameK_rfl _
              clear hf hor
              have kS2 := Lib.hid (hK.out.after b1)
              go_wp2_with fail
              refine wp_region_one (by kernel_rfl) (by kernel_rfl) ?_
              have bx : Below w6.heap.size w6 (World.drew w6) := (Below.refl _ _).drew
              replace sk := Lib.hid (sk.out.after bx)
              replace kS2 := Lib.hid (kS2.out.after bx)
              replace b1 := b1.trans (bx.mono b1.size)
              clear bx
              generalize World.drew w6 = w9 at *
              (go_big_quiet_want; go_big_quiet_op; go_big_quiet_on)
              (go_big_quiet_want; go_big_quiet_op; go_big_quiet_on)
              (go_big_quiet_want; go_big_quiet_op; go_big_quiet_on)
              (go_big_quiet_want; go_big_quiet_op; go_big_quiet_on)
              (go_big_quiet_want; go_big_quiet_op; go_big_quiet_on)
              (go_big_quiet_want; go_big_quiet_op; go_big_quiet_on)
              (go_big_quiet_want; go_big_quiet_op; go_big_quiet_on)
              (go_big_quiet_want; go_big_quiet_op; go_big_quiet_on)
              (go_big_quiet_want; go_big_quiet_op; go_big_quiet_on)
              (go_big_quiet_want; go_big_quiet_op; go_big_quiet_on)
              (go_big_quiet_want; go_big_quiet_op; go_big_quiet_on)
              refine wpQuiet_val (by rfl) _ (fun w' _ => run_index_el sk.out (i := 0) h0n.out rfl rfl rfl w') ?_
              simp only [Act.put, List.setIfInBounds_toArray, List.set_cons_succ, List.set_cons_zero]
              refine wpQuiet_val (by rfl) (.agg (rowOf 16 (w8 (F 0)))) (fun w' e => by subst e; exact run_load_el sk.out (i := 0) h0n.out rfl rfl) ?_
              simp only [Act.put, List.setIfInBounds_toArray, List.set_cons_succ, List.set_cons_zero]
              (go_big_quiet_want; go_big_quiet_op; go_big_quiet_on)
              (go_big_quiet_want; go_big_quiet_op; go_big_quiet_on)
              refine wpQuiet_val (by rfl) _ (fun w' _ => run_sub_any sj.out rfl rfl rfl w') ?_
              simp only [Act.put, List.setIfInBounds_toArray, List.set_cons_succ, List.set_cons_zero]
              refine wpQuiet_val (by rfl) _ (fun w' _ => run_index_el kS2.out (i := j) ljt.out rfl rfl rfl w') ?_
              simp only [Act.put, List.setIfInBounds_toArray, List.set_cons_succ, List.set_cons_zero]
              refine wpQuiet_val (by rfl) (.agg (rowOf 16 (w8 (K j)))) (fun w' e => by subst e; exact run_load_el kS2.out (i := j) ljt.out rfl rfl) ?_
              simp only [Act.put, List.setIfInBounds_toArray, List.set_cons_succ, List.set_cons_zero]
              refine wpQuiet_val (by rfl) _ (fun w' _ => run_eql_key2 (F 0) (K j) false hf3.out rfl rfl rfl w') ?_
              simp only [Act.put, List.setIfInBounds_toArray, List.set_cons_succ, List.set_cons_zero]
              (go_big_quiet_want; go_big_quiet_op; go_big_quiet_on)
              (go_big_quiet_want; go_big_quiet_op; go_big_quiet_on)
              (go_big_quiet_want; go_big_quiet_op; go_big_quiet_on)
              (go_big_quiet_want; go_big_quiet_op; go_big_quiet_on)
              refine wpQuiet_val (by rfl) _ (fun w' _ => run_sub_any sm.out rfl rfl rfl w') ?_
              simp only [Act.put, List.setIfInBounds_toArray, List.set_cons_succ, List.set_cons_zero]
              refine wpQuiet_val (by rfl) _ (fun w' _ => run_index_el sk.out (i := m) hmn.out rfl rfl rfl w') ?_
              simp only [Act.put, List.setIfInBounds_toArray, List.set_cons_succ, List.set_cons_zero]
              refine wpQuiet_val (by rfl) (.agg (rowOf 16 (w8 (F m)))) (fun w' e => by subst e; exact run_load_el sk.out (i := m) hmn.out rfl rfl) ?_
              simp only [Act.put, List.setIfInBounds_toArray, List.set_cons_succ, List.set_cons_zero]
              (go_big_quiet_want; go_big_quiet_op; go_big_quiet_on)
              (go_big_quiet_want; go_big_quiet_op; go_big_quiet_on)
              refine wpQuiet_val (by rfl) _ (fun w' _ => run_sub_any sj.out rfl rfl rfl w') ?_
              simp only [Act.put, List.setIfInBounds_toArray, List.set_cons_succ, List.set_cons_zero]
              refine wpQuiet_val (by rfl) _ (fun w' _ => run_index_el kS2.out (i := j) ljt.out rfl rfl rfl w') ?_
              simp only [Act.put, List.setIfInBounds_toArray, List.set_cons_succ, List.set_cons_zero]
              refine wpQuiet_val (by rfl) (.agg (rowOf 16 (w8 (K j)))) (fun w' e => by subst e; exact run_load_el kS2.out (i := j) ljt.out rfl rfl) ?_
              simp only [Act.put, List.setIfInBounds_toArray, List.set_cons_succ, List.set_cons_zero]
              refine wpQuiet_val (by rfl) _ (fun w' _ => run_eql_key2 (F m) (K j) true hl3.out rfl rfl rfl w') ?_
              simp only [Act.put, List.setIfInBounds_toArray, List.set_cons_succ, List.set_cons_zero]
              repeat (first | go_big_quiet_skip | (go_big_quiet_want; go_big_quiet_op; go_big_quiet_on))
              refine wpQuiet_nil ?_
              go_wp2
              go_ret
              exact ⟨rfl, b1⟩
        | true =>
          have eW : Hid (turnS S a ⟨true, K i, i + 1⟩ = swW S i (K i)) := by unfold Hid; rw [turn_whole _ _ _ hw, ha.out]; rfl
          rw [turnE_whole hw, eW.out] at X
          replace hw := Lib.hid hw
          go_wp2_with (first | (refine wpList_known rfl (run_index_el kS.out hlt rfl rfl rfl _) ?_) | (refine wpList_known rfl (run_load_el kS.out hlt rfl rfl) ?_) | (refine wpList_known rfl (run_add1 cv2.out rfl rfl rfl _) ?_) | (refine wpList_known rfl (run_conv_u64 cv1.out rfl rfl _) ?_))
          refine X.out.mono ?_
          rintro e w5 ⟨he, s1, g1⟩
          obtain rfl : e = .returned (.int .i64 0) := he
          replace b1 := b1.trans (s0.out.under g1 b1.size)
          clear X s0 g1
          have s0 : Hid (Sl _ _ _ _ (swW S i (K i))) := s1
          clear s1
          have X := Lib.hid (slotHolds_any w.heap.size pp sp (swW S i (K i)) w5 s0)
          go_wp2_with fail
          refine X.out.mono ?_
          rintro e w6 ⟨v, rfl, hv, bx⟩
          obtain ⟨av, cv, rfl, sk⟩ := own_list hv.out
          replace sk := Lib.hid sk
          replace s0 := Lib.hid (s0.out.after bx)
          replace b1 := b1.trans (bx.mono b1.size)
          clear X bx hv
          clear cv1 lo kS sk eW
          have X := Lib.hid (slotNewest_any w.heap.size pp sp (swW S i (K i)) w6 s0)
          rw [(swW_newest I.out (K i)).1, (swW_newest I.out (K i)).2, ← ha.out] at X
          go_wp2_with fail
          refine X.out.mono ?_
          rintro e w7 ⟨rfl, bx⟩
          replace s0 := Lib.hid (s0.out.after bx)
          replace b1 := b1.trans (bx.mono b1.size)
          clear X bx
          have sab : Hid (IntKind.i64.wrap (1 - (a : Int)) = (b : Int)) := by
            have := wrap_nat2 1 a (by have := ha2.out; omega) (by omega)
            rw [show ((1 : Nat) : Int) = 1 from rfl] at this
            unfold Hid
            rw [this, hab.out]
          by_cases hi0 : i = 0
          · have d1 : decide (0 < i) = false := decide_eq_false (by omega)
            replace hi0 := Lib.hid hi0
            clear hw hab cv2
            have X := Lib.hid (slotHolds_any w.heap.size pp sp (swW S i (K i)) w7 s0)
            rw [swW_held I.out hi0.out] at X
            go_wp2_with fail
            refine X.out.mono ?_
            rintro e w20 ⟨v, rfl, hv, bx⟩
            obtain ⟨av, cv, rfl, sk⟩ := own_single hv.out
            replace sk := Lib.hid sk
            replace s0 := Lib.hid (s0.out.after bx)
            replace b1 := b1.trans (bx.mono b1.size)
            clear X bx hv
            have kS2 := Lib.hid (hK.out.after b1)
            have In : Hid (SwI K (i + 1) (swW S i (K i))) := swW_next I.out hi0.out rfl
            have hbn : Hid (b = (i + 1) % 2) := by have := hb.out; unfold Hid; omega
            clear I hb hh ha
            go_wp2_with fail
            refine wp_region_one (by kernel_rfl) (by kernel_rfl) ?_
            have bx : Below w20.heap.size w20 (World.drew w20) := (Below.refl _ _).drew
            replace sk := Lib.hid (sk.out.after bx)
            replace kS2 := Lib.hid (kS2.out.after bx)
            replace s0 := Lib.hid (s0.out.after bx)
            replace b1 := b1.trans (bx.mono b1.size)
            clear bx
            generalize World.drew w20 = w9 at *
            (go_big_quiet_want; go_big_quiet_op; go_big_quiet_on)
            (go_big_quiet_want; go_big_quiet_op; go_big_quiet_on)
            (go_big_quiet_want; go_big_quiet_op; go_big_quiet_on)
            (go_big_quiet_want; go_big_quiet_op; go_big_quiet_on)
            (go_big_quiet_want; go_big_quiet_op; go_big_quiet_on)
            refine wpQuiet_val (by rfl) _ (fun w' _ => run_index_el sk.out (i := 0) (by decide) rfl rfl rfl w') ?_
            simp only [Act.put, List.setIfInBounds_toArray, List.set_cons_succ, List.set_cons_zero]
            refine wpQuiet_val (by rfl) (.agg (rowOf 16 (w8 (K i)))) (fun w' e => by subst e; exact run_load_el sk.out (i := 0) (by decide) rfl rfl) ?_
            simp only [Act.put, List.setIfInBounds_toArray, List.set_cons_succ, List.set_cons_zero]
            (go_big_quiet_want; go_big_quiet_op; go_big_quiet_on)
            (go_big_quiet_want; go_big_quiet_op; go_big_quiet_on)
            refine wpQuiet_val (by rfl) _ (fun w' _ => run_index_el kS2.out (i := i) hlt rfl rfl rfl w') ?_
            simp only [Act.put, List.setIfInBounds_toArray, List.set_cons_succ, List.set_cons_zero]
            refine wpQuiet_val (by rfl) (.agg (rowOf 16 (w8 (K i)))) (fun w' e => by subst e; exact run_load_el kS2.out (i := i) hlt rfl rfl) ?_
            simp only [Act.put, List.setIfInBounds_toArray, List.set_cons_succ, List.set_cons_zero]
            refine wpQuiet_val (by rfl) _ (fun w' _ => run_neq_key2 (K i) (K i) false (by rw [sameK_rfl]; rfl) rfl rfl rfl w') ?_
            simp only [Act.put, List.setIfInBounds_toArray, List.set_cons_succ, List.set_cons_zero]
            repeat (first | go_big_quiet_skip | (go_big_quiet_want; go_big_quiet_op; go_big_quiet_on))
            refine wpQuiet_nil ?_
            have hn20 := hn.out
            have hi20 : i ≤ 20 := by have := hlt2.out; omega
            go_wp2_with (refine wpList_known rfl (run_sub_any sab.out rfl rfl rfl _) ?_)
            go_roundw
            case rel => exact ⟨i + 1, b, _, by have := hlt2.out; omega, hbn, rfl, by go_num, In, s0, b1⟩
            case measure => have := hlt2.out; simp [intOf]; omega
          · have d1 : decide (0 < i) = true := decide_eq_true (by omega)
            replace hi0 := Lib.hid hi0
            have lo2 := Lib.hid (And.intro ((swW_low I.out (K i)).low (by have := hn.out; omega)) (swW_low I.out (K i)).hi)
            have X := Lib.hid (slotErase_any w.heap.size pp sp (swW S i (K i)) w7 s0 (b : Nat) lo2.out.1 lo2.out.2)
            rw [sw_eraseE hb2.out rfl, sw_eraseS hb2.out rfl] at X
            cases hw2 : ((swW S i (K i)).p.left - 1 != 0) with
            | false =>
              rw [turnE_part hw2] at X
              go_wp2_with (refine wpList_known rfl (run_sub_any sab.out rfl rfl rfl _) ?_)
              refine X.out.mono ?_
              rintro e wE ⟨he, s1, g1⟩
              obtain rfl : e = .returned (.int .i64 4) := he
              replace b1 := b1.trans (s0.out.under g1 b1.size)
              clear X s0 g1
              have s0 : Hid (Sl _ _ _ _ (turnS (swW S i (K i)) b blankC)) := s1
              clear s1
              have X := Lib.hid (slotHolds_any w.heap.size pp sp (turnS (swW S i (K i)) b blankC) wE s0)
              go_wp2_with fail
              refine X.out.mono ?_
              rintro e w10 ⟨v, rfl, hv, bx⟩
              obtain ⟨av, cv, rfl, sk⟩ := own_list hv.out
              replace sk := Lib.hid sk
              replace s0 := Lib.hid (s0.out.after bx)
              replace b1 := b1.trans (bx.mono b1.size)
              clear X bx hv
              have hS : (turnS (swW S i (K i)) b blankC).c a = ⟨true, K i, i + 1⟩ := by
                rw [turn_other _ _ _ _ (by have := hab.out; have := ha2.out; omega), ha.out]
                exact swW_here S i (K i)
              obtain ⟨m, hL, hor⟩ := held_has _ a ha2.out (K i) (i + 1) hS
              clear hS I hb hh hw hw2 hab s0 sab lo2 hi0 cv2 ha
              have n20 := heldL_le (turnS (swW S i (K i)) b blankC).c 2
              generalize (heldL (turnS (swW S i (K i)) b blankC).c 2).length = n at *
              generalize listK (heldL (turnS (swW S i (K i)) b blankC).c 2) = F at *
              have d2 : decide (0 < n) = true := decide_eq_true (by omega)
              have sm : Hid (IntKind.i64.wrap ((n : Int) - 1) = (m : Int)) := by
                have := wrap_nat2 n 1 (by omega) (by omega)
                rw [show ((1 : Nat) : Int) = 1 from rfl] at this
                unfold Hid
                rw [this, show n - 1 = m by omega]
              have hmn : Hid (m < n) := by unfold Hid; omega
              have h0n : Hid (0 < n) := by unfold Hid; omega
              replace hor := Lib.hid hor
              clear n20 hL
              replace hlt := Lib.hid hlt
              by_cases hf : sameK (F 0) (K i) = true
              · have hf2 := Lib.hid hf
                clear hf hor
                have kS2 := Lib.hid (hK.out.after b1)
                go_wp2_with fail
                refine wp_region_one (by kernel_rfl) (by kernel_rfl) ?_
                have bx : Below w10.heap.size w10 (World.drew w10) := (Below.refl _ _).drew
                replace sk := Lib.hid (sk.out.after bx)
                replace kS2 := Lib.hid (kS2.out.after bx)
                replace b1 := b1.trans (bx.mono b1.size)
                clear bx
                generalize World.drew w10 = w9 at *
                (go_big_quiet_want; go_big_quiet_op; go_big_quiet_on)
                (go_big_quiet_want; go_big_quiet_op; go_big_quiet_on)
                (go_big_quiet_want; go_big_quiet_op; go_big_quiet_on)
                (go_big_quiet_want; go_big_quiet_op; go_big_quiet_on)
                (go_big_quiet_want; go_big_quiet_op; go_big_quiet_on)
                refine wpQuiet_val (by rfl) _ (fun w' _ => run_index_el sk.out (i := 0) h0n.out rfl rfl rfl w') ?_
                simp only [Act.put, List.setIfInBounds_toArray, List.set_cons_succ, List.set_cons_zero]
                refine wpQuiet_val (by rfl) (.agg (rowOf 16 (w8 (F 0)))) (fun w' e => by subst e; exact run_load_el sk.out (i := 0) h0n.out rfl rfl) ?_
                simp only [Act.put, List.setIfInBounds_toArray, List.set_cons_succ, List.set_cons_zero]
                (go_big_quiet_want; go_big_quiet_op; go_big_quiet_on)
                (go_big_quiet_want; go_big_quiet_op; go_big_quiet_on)
                refine wpQuiet_val (by rfl) _ (fun w' _ => run_index_el kS2.out (i := i) hlt.out rfl rfl rfl w') ?_
                simp only [Act.put, List.setIfInBounds_toArray, List.set_cons_succ, List.set_cons_zero]
                refine wpQuiet_val (by rfl) (.agg (rowOf 16 (w8 (K i)))) (fun w' e => by subst e; exact run_load_el kS2.out (i := i) hlt.out rfl rfl) ?_
                simp only [Act.put, List.setIfInBounds_toArray, List.set_cons_succ, List.set_cons_zero]
                refine wpQuiet_val (by rfl) _ (fun w' _ => run_eql_key2 (F 0) (K i) true hf2.out rfl rfl rfl w') ?_
                simp only [Act.put, List.setIfInBounds_toArray, List.set_cons_succ, List.set_cons_zero]
                (go_big_quiet_want; go_big_quiet_op; go_big_quiet_on)
                repeat (first | go_big_quiet_skip | (go_big_quiet_want; go_big_quiet_op; go_big_quiet_on))
                refine wpQuiet_nil ?_
                go_wp2
                go_ret
                exact ⟨rfl, b1⟩
              · have hf2 := Lib.hid hf
                have hf3 : Hid (sameK (F 0) (K i) = false) := by unfold Hid; simpa using hf
                have hl3 : Hid (sameK (F m) (K i) = true) := by
                  rcases hor.out with h | h
                  · exact absurd (by rw [h]; exact sameK_rfl _) hf
                  · unfold Hid; rw [h]; exact sameK_rfl _
                clear hf hor
                have kS2 := Lib.hid (hK.out.after b1)
                go_wp2_with fail
                refine wp_region_one (by kernel_rfl) (by kernel_rfl) ?_
                have bx : Below w10.heap.size w10 (World.drew w10) := (Below.refl _ _).drew
                replace sk := Lib.hid (sk.out.after bx)
                replace kS2 := Lib.hid (kS2.out.after bx)
                replace b1 := b1.trans (bx.mono b1.size)
                clear bx
                generalize World.drew w10 = w9 at *
                (go_big_quiet_want; go_big_quiet_op; go_big_quiet_on)
                (go_big_quiet_want; go_big_quiet_op; go_big_quiet_on)
                (go_big_quiet_want; go_big_quiet_op; go_big_quiet_on)
                (go_big_quiet_want; go_big_quiet_op; go_big_quiet_on)
                (go_big_quiet_want; go_big_quiet_op; go_big_quiet_on)
                refine wpQuiet_val (by rfl) _ (fun w' _ => run_index_el sk.out (i := 0) h0n.out rfl rfl rfl w') ?_
                simp only [Act.put, List.setIfInBounds_toArray, List.set_cons_succ, List.set_cons_zero]
                refine wpQuiet_val (by rfl) (.agg (rowOf 16 (w8 (F 0)))) (fun w' e => by subst e; exact run_load_el sk.out (i := 0) h0n.out rfl rfl) ?_
                simp only [Act.put, List.setIfInBounds_toArray, List.set_cons_succ, List.set_cons_zero]
                (go_big_quiet_want; go_big_quiet_op; go_big_quiet_on)
                (go_big_quiet_want; go_big_quiet_op; go_big_quiet_on)
                refine wpQuiet_val (by rfl) _ (fun w' _ => run_index_el kS2.out (i := i) hlt.out rfl rfl rfl w') ?_
                simp only [Act.put, List.setIfInBounds_toArray, List.set_cons_succ, List.set_cons_zero]
                refine wpQuiet_val (by rfl) (.agg (rowOf 16 (w8 (K i)))) (fun w' e => by subst e; exact run_load_el kS2.out (i := i) hlt.out rfl rfl) ?_
                simp only [Act.put, List.setIfInBounds_toArray, List.set_cons_succ, List.set_cons_zero]
                refine wpQuiet_val (by rfl) _ (fun w' _ => run_eql_key2 (F 0) (K i) false hf3.out rfl rfl rfl w') ?_
                simp only [Act.put, List.setIfInBounds_toArray, List.set_cons_succ, List.set_cons_zero]
                (go_big_quiet_want; go_big_quiet_op; go_big_quiet_on)
                (go_big_quiet_want; go_big_quiet_op; go_big_quiet_on)
                (go_big_quiet_want; go_big_quiet_op; go_big_quiet_on)
                (go_big_quiet_want; go_big_quiet_op; go_big_quiet_on)
                refine wpQuiet_val (by rfl) _ (fun w' _ => run_sub_any sm.out rfl rfl rfl w') ?_
                simp only [Act.put, List.setIfInBounds_toArray, List.set_cons_succ, List.set_cons_zero]
                refine wpQuiet_val (by rfl) _ (fun w' _ => run_index_el sk.out (i := m) hmn.out rfl rfl rfl w') ?_
                simp only [Act.put, List.setIfInBounds_toArray, List.set_cons_succ, List.set_cons_zero]
                refine wpQuiet_val (by rfl) (.agg (rowOf 16 (w8 (F m)))) (fun w' e => by subst e; exact run_load_el sk.out (i := m) hmn.out rfl rfl) ?_
                simp only [Act.put, List.setIfInBounds_toArray, List.set_cons_succ, List.set_cons_zero]
                (go_big_quiet_want; go_big_quiet_op; go_big_quiet_on)
                (go_big_quiet_want; go_big_quiet_op; go_big_quiet_on)
                refine wpQuiet_val (by rfl) _ (fun w' _ => run_index_el kS2.out (i := i) hlt.out rfl rfl rfl w') ?_
                simp only [Act.put, List.setIfInBounds_toArray, List.set_cons_succ, List.set_cons_zero]
                refine wpQuiet_val (by rfl) (.agg (rowOf 16 (w8 (K i)))) (fun w' e => by subst e; exact run_load_el kS2.out (i := i) hlt.out rfl rfl) ?_
                simp only [Act.put, List.setIfInBounds_toArray, List.set_cons_succ, List.set_cons_zero]
                refine wpQuiet_val (by rfl) _ (fun w' _ => run_eql_key2 (F m) (K i) true hl3.out rfl rfl rfl w') ?_
                simp only [Act.put, List.setIfInBounds_toArray, List.set_cons_succ, List.set_cons_zero]
                repeat (first | go_big_quiet_skip | (go_big_quiet_want; go_big_quiet_op; go_big_quiet_on))
                refine wpQuiet_nil ?_
                go_wp2
                go_ret
                exact ⟨rfl, b1⟩
            | true =>
              have eX : Hid (turnS (swW S i (K i)) b blankC = swX S i (K i)) := by unfold Hid; rw [turn_whole _ _ _ hw2, hb.out]; rfl
              rw [turnE_whole hw2, eX.out] at X
              go_wp2_with (refine wpList_known rfl (run_sub_any sab.out rfl rfl rfl _) ?_)
              refine X.out.mono ?_
              rintro e wE ⟨he, s1, g1⟩
              obtain rfl : e = .returned (.int .i64 0) := he
              replace b1 := b1.trans (s0.out.under g1 b1.size)
              clear X s0 g1
              have s0 : Hid (Sl _ _ _ _ (swX S i (K i))) := s1
              clear s1 hw hw2 hab cv2 lo2 eX hi0
              have X := Lib.hid (slotHolds_any w.heap.size pp sp (swX S i (K i)) wE s0)
              rw [swX_held] at X
              go_wp2_with fail
              refine X.out.mono ?_
              rintro e w20 ⟨v, rfl, hv, bx⟩
              obtain ⟨av, cv, rfl, sk⟩ := own_single hv.out
              replace sk := Lib.hid sk
              replace s0 := Lib.hid (s0.out.after bx)
              replace b1 := b1.trans (bx.mono b1.size)
              clear X bx hv
              have kS2 := Lib.hid (hK.out.after b1)
              have In : Hid (SwI K (i + 1) (swX S i (K i))) := swX_next I.out rfl
              have hbn : Hid (b = (i + 1) % 2) := by have := hb.out; unfold Hid; omega
              clear I hb hh ha
              go_wp2_with fail
              refine wp_region_one (by kernel_rfl) (by kernel_rfl) ?_
              have bx : Below w20.heap.size w20 (World.drew w20) := (Below.refl _ _).drew
              replace sk := Lib.hid (sk.out.after bx)
              replace kS2 := Lib.hid (kS2.out.after bx)
              replace s0 := Lib.hid (s0.out.after bx)
              replace b1 := b1.trans (bx.mono b1.size)
              clear bx
              generalize World.drew w20 = w9 at *
              (go_big_quiet_want; go_big_quiet_op; go_big_quiet_on)
              (go_big_quiet_want; go_big_quiet_op; go_big_quiet_on)
              (go_big_quiet_want; go_big_quiet_op; go_big_quiet_on)
              (go_big_quiet_want; go_big_quiet_op; go_big_quiet_on)
              (go_big_quiet_want; go_big_quiet_op; go_big_quiet_on)
              refine wpQuiet_val (by rfl) _ (fun w' _ => run_index_el sk.out (i := 0) (by decide) rfl rfl rfl w') ?_
              simp only [Act.put, List.setIfInBounds_toArray, List.set_cons_succ, List.set_cons_zero]
              refine wpQuiet_val (by rfl) (.agg (rowOf 16 (w8 (K i)))) (fun w' e => by subst e; exact run_load_el sk.out (i := 0) (by decide) rfl rfl) ?_
              simp only [Act.put, List.setIfInBounds_toArray, List.set_cons_succ, List.set_cons_zero]
              (go_big_quiet_want; go_big_quiet_op; go_big_quiet_on)
              (go_big_quiet_want; go_big_quiet_op; go_big_quiet_on)
              refine wpQuiet_val (by rfl) _ (fun w' _ => run_index_el kS2.out (i := i) hlt rfl rfl rfl w') ?_
              simp only [Act.put, List.setIfInBounds_toArray, List.set_cons_succ, List.set_cons_zero]
              refine wpQuiet_val (by rfl) (.agg (rowOf 16 (w8 (K i)))) (fun w' e => by subst e; exact run_load_el kS2.out (i := i) hlt rfl rfl) ?_
              simp only [Act.put, List.setIfInBounds_toArray, List.set_cons_succ, List.set_cons_zero]
              refine wpQuiet_val (by rfl) _ (fun w' _ => run_neq_key2 (K i) (K i) false (by rw [sameK_rfl]; rfl) rfl rfl rfl w') ?_
              simp only [Act.put, List.setIfInBounds_toArray, List.set_cons_succ, List.set_cons_zero]
              repeat (first | go_big_quiet_skip | (go_big_quiet_want; go_big_quiet_op; go_big_quiet_on))
              refine wpQuiet_nil ?_
              have hn20 := hn.out
              have hi20 : i ≤ 20 := by have := hlt2.out; omega
              go_wp2_with (refine wpList_known rfl (run_sub_any sab.out rfl rfl rfl _) ?_)
              go_roundw
              case rel => exact ⟨i + 1, b, _, by have := hlt2.out; omega, hbn, rfl, by go_num, In, s0, b1⟩
              case measure => have := hlt2.out; simp [intOf]; omega
    · have li : ¬ (i : Int) < (nl : Int) := by omega
      clear I s0 ha
      go_wp2
      go_ret
      exact ⟨rfl, b1⟩
    
theorem walk_SlotSwaps (al : Option Addr) (nl cl : Nat) (K : Nat → Nat → Nat) (cut : Int) (h1 : (Lit.int .u8 cut).wf = true) (kp : Int) (h2 : (Lit.int .u8 kp).wf = true) (w : World) (hK : CameKeys w al nl cl K) :
    Calls Try.prog 6 #[.slice al nl cl, .int .u8 cut, .int .u8 kp] w fun e w' => e = .returned (.bool true) ∧ Below w.heap.size w w' := by
  have := wf_u8 h1
  have := wf_u8 h2
  obtain ⟨n, rfl⟩ : ∃ n : Nat, cut = n := ⟨cut.toNat, by omega⟩
  obtain ⟨m, rfl⟩ : ∃ m : Nat, kp = m := ⟨kp.toNat, by omega⟩
  by_cases hl : 20 < nl
  · exact swaps_long al nl cl n m w (by omega)
  · exact swaps_nat al nl cl K n m (by omega) (by omega) w hK.1 (by omega)

end Go.Proofs.Ytopajipagacmkaa
