/-
  The law SlotGone: every input.
-/
import Derived.Test.YtopajipagacmkaaSlotLow
import Derived.Test.YtopajipagacmkaaDrawOpen
namespace Go.Proofs.Ytopajipagacmkaa
open Go.RowKit
set_option linter.unusedVariables false

def goW1 (a : Nat) (k : Nat → Nat) (ep : Nat) : SS := writeS (newSS noneS) (a : Nat) k ep
def goW2 (a : Nat) (k q : Nat → Nat) (ep e1 : Nat) : SS := writeS (goW1 a k ep) ((1 - a : Nat) : Int) q e1
theorem go_low1 (a : Nat) (k : Nat → Nat) (ep : Nat) : LowS (goW1 a k ep) 1 := LowS.new.write _ _ _
theorem go_low2 (a : Nat) (k q : Nat → Nat) (ep e1 : Nat) : LowS (goW2 a k q ep e1) 2 := (go_low1 a k ep).write _ _ _
theorem go0_1 : writeE (newSS noneS) 0 = 0 := by kernel_rfl
theorem go0_2 (k : Nat → Nat) (ep : Nat) : writeE (goW1 0 k ep) 1 = 0 := by kernel_rfl
theorem go0_3 (k q : Nat → Nat) (ep e1 : Nat) : writeE (goW2 0 k q ep e1) 0 = 100 := by kernel_rfl
theorem go0_4 (k q : Nat → Nat) (ep e1 : Nat) : writeS (goW2 0 k q ep e1) 0 q 9 = goW2 0 k q ep e1 := by kernel_rfl
theorem go0_5 (k q : Nat → Nat) (ep e1 : Nat) : slEraseE (goW2 0 k q ep e1) 0 = 0 := by kernel_rfl
theorem go0_6 (k q : Nat → Nat) (ep e1 : Nat) : heldL (slEraseS (goW2 0 k q ep e1) 0).c 2 = [q] := by kernel_rfl
theorem go0_7 (k q : Nat → Nat) (ep e1 : Nat) : readVS (slEraseS (goW2 0 k q ep e1) 0) 0 = #[.agg (rowOf 16 (w8 zeroN)), .int .u64 0, .int .i64 110] := by kernel_rfl
theorem go1_1 : writeE (newSS noneS) 1 = 0 := by kernel_rfl
theorem go1_2 (k : Nat → Nat) (ep : Nat) : writeE (goW1 1 k ep) 0 = 0 := by kernel_rfl
theorem go1_3 (k q : Nat → Nat) (ep e1 : Nat) : writeE (goW2 1 k q ep e1) 1 = 100 := by kernel_rfl
theorem go1_4 (k q : Nat → Nat) (ep e1 : Nat) : writeS (goW2 1 k q ep e1) 1 q 9 = goW2 1 k q ep e1 := by kernel_rfl
theorem go1_5 (k q : Nat → Nat) (ep e1 : Nat) : slEraseE (goW2 1 k q ep e1) 1 = 0 := by kernel_rfl
theorem go1_6 (k q : Nat → Nat) (ep e1 : Nat) : heldL (slEraseS (goW2 1 k q ep e1) 1).c 2 = [q] := by kernel_rfl
theorem go1_7 (k q : Nat → Nat) (ep e1 : Nat) : readVS (slEraseS (goW2 1 k q ep e1) 1) 1 = #[.agg (rowOf 16 (w8 zeroN)), .int .u64 0, .int .i64 110] := by kernel_rfl

/-- The keys of a list of one. -/
theorem own_one {w : World} {base : Nat} {v : Value} {q : Nat → Nat} (h : w.ownsRow base 31 16 v [q].length (keysL [q])) : ∃ a c, v = .slice a 1 c ∧ SeesK w a 1 (listK [q]) := by
  obtain ⟨a, c, e, hs, _⟩ := own_seesK h
  exact ⟨a, c, e, hs⟩
theorem wrap_next (n : Nat) : IntKind.u64.wrap ((n : Int) + 1) = (((n + 1) % 18446744073709551616 : Nat) : Int) := by
  simp [IntKind.wrap, IntKind.bits, IntKind.signed]

theorem run_next {n m : Nat} (h : IntKind.u64.wrap ((n : Int) + 1) = (m : Int)) {o : Oper} {a : Act} {x y : Operand} (ho : o.op = .binOp .add 32 x y 32) (hx : a.eval x = .int .u64 (n : Nat)) (w : World) (hy : a.eval y = .int .u64 1 := by rfl) : (execOp a.eval o).run Try.prog w = .ok (.value (.int .u64 (m : Nat))) w := by
  unfold execOp
  simp only [ho, hx, hy]
  simp [go_sem, h]

set_option maxHeartbeats 4000000 in
set_option maxRecDepth 8000 in
theorem gone_nat (k q : Nat → Nat) (i ep : Nat) (hi : i < 256) (w : World) :
    Calls Try.prog 4 #[.agg (rowOf 16 (w8 k)), .agg (rowOf 16 (w8 q)), .int .u8 (i : Nat), .int .u64 (ep : Nat)] w fun e w' => e = .returned (.bool true) ∧ Below w.heap.size w w' := by
  obtain ⟨w0, hw0⟩ : ∃ w0, Hid (w0 = (w.alloc (.cells (rowOf 16 (w8 k)) 31)).alloc (.cells (rowOf 16 (w8 q)) 31)) := ⟨_, rfl⟩
  have b0 : Below w.heap.size w w0 := by rw [hw0.out]; exact allocs_below [.cells (rowOf 16 (w8 k)) 31, .cells (rowOf 16 (w8 q)) 31] w
  have kr : Hid (RowAt w0 w.heap.size 31 (rowOf 16 (w8 k))) := by rw [hw0.out]; exact allocs_row [.cells (rowOf 16 (w8 k)) 31, .cells (rowOf 16 (w8 q)) 31] w 0 _ _ rfl
  have qr : Hid (RowAt w0 (w.heap.size + 1) 31 (rowOf 16 (w8 q))) := by rw [hw0.out]; exact allocs_row [.cells (rowOf 16 (w8 k)) 31, .cells (rowOf 16 (w8 q)) 31] w 1 _ _ rfl
  obtain ⟨e1, we⟩ : ∃ e1 : Nat, Hid (IntKind.u64.wrap ((ep : Int) + 1) = (e1 : Int)) := ⟨_, wrap_next ep⟩
  have NP := Lib.hid (newPower_any w0)
  have lw0 := b0.size
  go_enter Try.func4, Try.ntmps4
  go_wp2_with fail
  rw [← hw0.out]
  refine NP.out.mono ?_
  rintro e w1 ⟨rfl, r1, b1⟩
  have NS := Lib.hid (slotNew_any w.heap.size w0.heap.size noneS w1 lw0 r1 (by decide) (by decide))
  replace kr := Lib.hid (kr.out.below b1 kr.out.lt)
  replace qr := Lib.hid (qr.out.below b1 qr.out.lt)
  replace b0 := b0.trans (b1.mono b0.size)
  clear NP r1 b1 lw0 hw0
  generalize w0.heap.size = pp at *
  go_wp2_with fail
  refine NS.out.mono ?_
  rintro e w2 ⟨rfl, s0, b2⟩
  replace kr := Lib.hid (kr.out.below b2 kr.out.lt)
  replace qr := Lib.hid (qr.out.below b2 qr.out.lt)
  replace b0 := b0.trans (b2.mono b0.size)
  clear NS b2
  generalize w1.heap.size = sp at *
  cases hsk : sameK k q with
  | true =>
    replace hsk := Lib.hid hsk
    have X := Lib.hid (shown11_any w2)
    go_wp2_with (first | (refine wpList_wload_row (by rfl) 31 _ rfl w.heap.size rfl 31 (rowOf 16 (w8 k)) _ kr.out Try.underlying31 rfl (info_key _) ?_) | (refine wpList_wload_row (by rfl) 31 _ rfl (w.heap.size + 1) rfl 31 (rowOf 16 (w8 q)) _ qr.out Try.underlying31 rfl (info_key _) ?_) | (refine wpList_wknown (by rfl) (run_eql_key2 k q true hsk.out rfl rfl rfl _) ?_))
    refine X.out.mono ?_
    rintro e w11 ⟨rfl, bx⟩
    replace s0 := Lib.hid (s0.out.after bx)
    replace kr := Lib.hid (kr.out.below bx kr.out.lt)
    replace qr := Lib.hid (qr.out.below bx qr.out.lt)
    replace b0 := b0.trans (bx.mono b0.size)
    clear X bx
    go_wp2_with (first | (refine wpList_wload_row (by rfl) 31 _ rfl w.heap.size rfl 31 (rowOf 16 (w8 k)) _ kr.out Try.underlying31 rfl (info_key _) ?_) | (refine wpList_wload_row (by rfl) 31 _ rfl (w.heap.size + 1) rfl 31 (rowOf 16 (w8 q)) _ qr.out Try.underlying31 rfl (info_key _) ?_) | (refine wpList_wknown (by rfl) (run_eql_key2 k q true hsk.out rfl rfl rfl _) ?_))
    go_ret
    exact ⟨rfl, b0⟩
  | false =>
    replace hsk := Lib.hid hsk
    have X := Lib.hid (shown11_any w2)
    go_wp2_with (first | (refine wpList_wload_row (by rfl) 31 _ rfl w.heap.size rfl 31 (rowOf 16 (w8 k)) _ kr.out Try.underlying31 rfl (info_key _) ?_) | (refine wpList_wload_row (by rfl) 31 _ rfl (w.heap.size + 1) rfl 31 (rowOf 16 (w8 q)) _ qr.out Try.underlying31 rfl (info_key _) ?_) | (refine wpList_wknown (by rfl) (run_eql_key2 k q false hsk.out rfl rfl rfl _) ?_))
    refine X.out.mono ?_
    rintro e w11 ⟨rfl, bx⟩
    replace s0 := Lib.hid (s0.out.after bx)
    replace kr := Lib.hid (kr.out.below bx kr.out.lt)
    replace qr := Lib.hid (qr.out.below bx qr.out.lt)
    replace b0 := b0.trans (bx.mono b0.size)
    clear X bx
    by_cases ha : i % 2 = 0
    · have hm : ((i : Nat) : Int) % 2 = 0 := by omega
      replace hm : Int.tmod ((i : Nat) : Int) 2 = 0 := by rw [Int.tmod_eq_emod_of_nonneg (by omega)]; exact hm
      clear ha
      have X := Lib.hid (slotWrite_any w.heap.size pp sp _ w11 s0 0 k ep (by decide) (by decide))
      go_wp2_with (refine wpList_load_row rfl 31 _ rfl w.heap.size rfl 31 (rowOf 16 (w8 k)) (0, 0) _ kr.out Try.underlying31 rfl (info_key _) ?_)
      refine X.out.mono ?_
      rintro e w12 ⟨he, s1, g1⟩
      obtain rfl : e = .returned (.int .i64 0) := he.trans (by rw [go0_1]; rfl)
      replace kr := Lib.hid (s0.out.keeps g1 kr.out (by decide) (by decide))
      replace qr := Lib.hid (s0.out.keeps g1 qr.out (by decide) (by decide))
      replace b0 := b0.trans (s0.out.under g1 b0.size)
      clear X s0 g1
      have s0 : Hid (Sl _ _ _ _ (goW1 0 k ep)) := s1
      clear s1
      have X := Lib.hid (slotWrite_any w.heap.size pp sp (goW1 0 k ep) w12 s0 1 q e1 ((go_low1 0 k ep).low (by decide)) (go_low1 0 k ep).hi)
      go_wp2_with (first | (refine wpList_wload_row (by rfl) 31 _ rfl (w.heap.size + 1) rfl 31 (rowOf 16 (w8 q)) _ qr.out Try.underlying31 rfl (info_key _) ?_) | (refine wpList_wknown (by rfl) (run_next we.out rfl rfl _) ?_))
      refine X.out.mono ?_
      rintro e w13 ⟨he, s1, g1⟩
      obtain rfl : e = .returned (.int .i64 0) := he.trans (by rw [go0_2]; rfl)
      replace kr := Lib.hid (s0.out.keeps g1 kr.out (by decide) (by decide))
      replace qr := Lib.hid (s0.out.keeps g1 qr.out (by decide) (by decide))
      replace b0 := b0.trans (s0.out.under g1 b0.size)
      clear X s0 g1
      have s0 : Hid (Sl _ _ _ _ (goW2 0 k q ep e1)) := s1
      clear s1
      have X := Lib.hid (slotWrite_any w.heap.size pp sp (goW2 0 k q ep e1) w13 s0 0 q 9 ((go_low2 0 k q ep e1).low (by decide)) (go_low2 0 k q ep e1).hi)
      go_wp2_with (refine wpList_wload_row (by rfl) 31 _ rfl (w.heap.size + 1) rfl 31 (rowOf 16 (w8 q)) _ qr.out Try.underlying31 rfl (info_key _) ?_)
      refine X.out.mono ?_
      rintro e w14 ⟨he, s1, g1⟩
      obtain rfl : e = .returned (.int .i64 100) := he.trans (by rw [go0_3]; rfl)
      replace kr := Lib.hid (s0.out.keeps g1 kr.out (by decide) (by decide))
      replace qr := Lib.hid (s0.out.keeps g1 qr.out (by decide) (by decide))
      replace b0 := b0.trans (s0.out.under g1 b0.size)
      clear X s0 g1
      have s0 : Hid (Sl _ _ _ _ (writeS (goW2 0 k q ep e1) 0 q 9)) := s1
      clear s1
      rw [go0_4] at s0
      have X := Lib.hid (slotErase_any w.heap.size pp sp (goW2 0 k q ep e1) w14 s0 0 ((go_low2 0 k q ep e1).low (by decide)) (go_low2 0 k q ep e1).hi)
      go_wp2_with fail
      refine X.out.mono ?_
      rintro e w15 ⟨he, s1, g1⟩
      obtain rfl : e = .returned (.int .i64 0) := he.trans (by rw [go0_5]; rfl)
      replace kr := Lib.hid (s0.out.keeps g1 kr.out (by decide) (by decide))
      replace qr := Lib.hid (s0.out.keeps g1 qr.out (by decide) (by decide))
      replace b0 := b0.trans (s0.out.under g1 b0.size)
      clear X s0 g1
      have s0 : Hid (Sl _ _ _ _ (slEraseS (goW2 0 k q ep e1) 0)) := s1
      clear s1
      have X := Lib.hid (slotHolds_any w.heap.size pp sp (slEraseS (goW2 0 k q ep e1) 0) w15 s0)
      rw [go0_6] at X
      go_wp2_with fail
      refine X.out.mono ?_
      rintro e w16 ⟨v, rfl, hv, bx⟩
      obtain ⟨av, cv, rfl, sk⟩ := own_one hv.out
      replace sk := Lib.hid sk
      replace s0 := Lib.hid (s0.out.after bx)
      replace kr := Lib.hid (kr.out.below bx kr.out.lt)
      replace qr := Lib.hid (qr.out.below bx qr.out.lt)
      replace b0 := b0.trans (bx.mono b0.size)
      clear X bx hv
      have X := Lib.hid (slotRead_any w.heap.size pp sp (slEraseS (goW2 0 k q ep e1) 0) w16 s0 0)
      rw [go0_7] at X
      go_wp2_with fail
      refine X.out.mono ?_
      rintro e w17 ⟨rfl, bx⟩
      replace s0 := Lib.hid (s0.out.after bx)
      replace kr := Lib.hid (kr.out.below bx kr.out.lt)
      replace qr := Lib.hid (qr.out.below bx qr.out.lt)
      replace b0 := b0.trans (bx.mono b0.size)
      replace sk := Lib.hid (sk.out.after bx)
      clear X bx
      have zq := Lib.hid (RowAt.new w17 31 (rowOf 16 (w8 zeroN)))
      have bx : Below w17.heap.size w17 (w17.alloc (.cells (rowOf 16 (w8 zeroN)) 31)) := (Below.refl _ _).alloc (Nat.le_refl _) _
      replace s0 := Lib.hid (s0.out.after bx)
      replace kr := Lib.hid (kr.out.below bx kr.out.lt)
      replace qr := Lib.hid (qr.out.below bx qr.out.lt)
      replace b0 := b0.trans (bx.mono b0.size)
      replace sk := Lib.hid (sk.out.after bx)
      clear bx s0
      go_wp2_with (refine wpList_store_row rfl 31 _ _ rfl w17.heap.size (rowOf 16 (w8 zeroN)) rfl rfl 31 _ zq.out (info_key _) (by rw [rowOf_size]) (rowOf_cells8 _ _) ?_; rw [World.setRow_alloc_new]; generalize w17.alloc (.cells (rowOf 16 (w8 zeroN)) 31) = w18 at *)
      refine wp_region_one (by kernel_rfl) (by kernel_rfl) ?_
      have bx : Below w18.heap.size w18 (World.drew w18) := (Below.refl _ _).drew
      replace sk := Lib.hid (sk.out.after bx)
      replace qr := Lib.hid (qr.out.below bx qr.out.lt)
      replace b0 := b0.trans (bx.mono b0.size)
      clear bx zq kr
      generalize World.drew w18 = w9 at *
      (go_big_quiet_want; go_big_quiet_op; go_big_quiet_on)
      (go_big_quiet_want; go_big_quiet_op; go_big_quiet_on)
      (go_big_quiet_want; go_big_quiet_op; go_big_quiet_on)
      (go_big_quiet_want; go_big_quiet_op; go_big_quiet_on)
      (go_big_quiet_want; go_big_quiet_op; go_big_quiet_on)
      refine wpQuiet_val (by rfl) _ (fun w' _ => run_index_el sk.out (i := 0) (by decide) rfl rfl rfl w') ?_
      simp only [Act.put, List.setIfInBounds_toArray, List.set_cons_succ, List.set_cons_zero]
      refine wpQuiet_val (by rfl) (.agg (rowOf 16 (w8 q))) (fun w' e => by subst e; exact run_load_el sk.out (i := 0) (by decide) rfl rfl) ?_
      simp only [Act.put, List.setIfInBounds_toArray, List.set_cons_succ, List.set_cons_zero]
      refine wpQuiet_load_row (by rfl) 31 _ rfl (w.heap.size + 1) rfl 31 (rowOf 16 (w8 q)) _ (fun w' hw' => by subst hw'; exact qr.out) Try.underlying31 rfl (info_key _) ?_
      simp only [Act.put, List.setIfInBounds_toArray, List.set_cons_succ, List.set_cons_zero]
      refine wpQuiet_val (by rfl) _ (fun w' _ => run_eql_key2 q q true (sameK_rfl _) rfl rfl rfl w') ?_
      simp only [Act.put, List.setIfInBounds_toArray, List.set_cons_succ, List.set_cons_zero]
      repeat (first | go_big_quiet_skip | (go_big_quiet_want; go_big_quiet_op; go_big_quiet_on))
      refine wpQuiet_nil ?_
      go_wp2
      go_ret
      exact ⟨rfl, b0⟩
    · have hm : ((i : Nat) : Int) % 2 = 1 := by omega
      replace hm : Int.tmod ((i : Nat) : Int) 2 = 1 := by rw [Int.tmod_eq_emod_of_nonneg (by omega)]; exact hm
      clear ha
      have X := Lib.hid (slotWrite_any w.heap.size pp sp _ w11 s0 1 k ep (by decide) (by decide))
      go_wp2_with (refine wpList_load_row rfl 31 _ rfl w.heap.size rfl 31 (rowOf 16 (w8 k)) (0, 0) _ kr.out Try.underlying31 rfl (info_key _) ?_)
      refine X.out.mono ?_
      rintro e w12 ⟨he, s1, g1⟩
      obtain rfl : e = .returned (.int .i64 0) := he.trans (by rw [go1_1]; rfl)
      replace kr := Lib.hid (s0.out.keeps g1 kr.out (by decide) (by decide))
      replace qr := Lib.hid (s0.out.keeps g1 qr.out (by decide) (by decide))
      replace b0 := b0.trans (s0.out.under g1 b0.size)
      clear X s0 g1
      have s0 : Hid (Sl _ _ _ _ (goW1 1 k ep)) := s1
      clear s1
      have X := Lib.hid (slotWrite_any w.heap.size pp sp (goW1 1 k ep) w12 s0 0 q e1 ((go_low1 1 k ep).low (by decide)) (go_low1 1 k ep).hi)
      go_wp2_with (first | (refine wpList_wload_row (by rfl) 31 _ rfl (w.heap.size + 1) rfl 31 (rowOf 16 (w8 q)) _ qr.out Try.underlying31 rfl (info_key _) ?_) | (refine wpList_wknown (by rfl) (run_next we.out rfl rfl _) ?_))
      refine X.out.mono ?_
      rintro e w13 ⟨he, s1, g1⟩
      obtain rfl : e = .returned (.int .i64 0) := he.trans (by rw [go1_2]; rfl)
      replace kr := Lib.hid (s0.out.keeps g1 kr.out (by decide) (by decide))
      replace qr := Lib.hid (s0.out.keeps g1 qr.out (by decide) (by decide))
      replace b0 := b0.trans (s0.out.under g1 b0.size)
      clear X s0 g1
      have s0 : Hid (Sl _ _ _ _ (goW2 1 k q ep e1)) := s1
      clear s1
      have X := Lib.hid (slotWrite_any w.heap.size pp sp (goW2 1 k q ep e1) w13 s0 1 q 9 ((go_low2 1 k q ep e1).low (by decide)) (go_low2 1 k q ep e1).hi)
      go_wp2_with (refine wpList_wload_row (by rfl) 31 _ rfl (w.heap.size + 1) rfl 31 (rowOf 16 (w8 q)) _ qr.out Try.underlying31 rfl (info_key _) ?_)
      refine X.out.mono ?_
      rintro e w14 ⟨he, s1, g1⟩
      obtain rfl : e = .returned (.int .i64 100) := he.trans (by rw [go1_3]; rfl)
      replace kr := Lib.hid (s0.out.keeps g1 kr.out (by decide) (by decide))
      replace qr := Lib.hid (s0.out.keeps g1 qr.out (by decide) (by decide))
      replace b0 := b0.trans (s0.out.under g1 b0.size)
      clear X s0 g1
      have s0 : Hid (Sl _ _ _ _ (writeS (goW2 1 k q ep e1) 1 q 9)) := s1
      clear s1
      rw [go1_4] at s0
      have X := Lib.hid (slotErase_any w.heap.size pp sp (goW2 1 k q ep e1) w14 s0 1 ((go_low2 1 k q ep e1).low (by decide)) (go_low2 1 k q ep e1).hi)
      go_wp2_with fail
      refine X.out.mono ?_
      rintro e w15 ⟨he, s1, g1⟩
      obtain rfl : e = .returned (.int .i64 0) := he.trans (by rw [go1_5]; rfl)
      replace kr := Lib.hid (s0.out.keeps g1 kr.out (by decide) (by decide))
      replace qr := Lib.hid (s0.out.keeps g1 qr.out (by decide) (by decide))
      replace b0 := b0.trans (s0.out.under g1 b0.size)
      clear X s0 g1
      have s0 : Hid (Sl _ _ _ _ (slEraseS (goW2 1 k q ep e1) 1)) := s1
      clear s1
      have X := Lib.hid (slotHolds_any w.heap.size pp sp (slEraseS (goW2 1 k q ep e1) 1) w15 s0)
      rw [go1_6] at X
      go_wp2_with fail
      refine X.out.mono ?_
      rintro e w16 ⟨v, rfl, hv, bx⟩
      obtain ⟨av, cv, rfl, sk⟩ := own_one hv.out
      replace sk := Lib.hid sk
      replace s0 := Lib.hid (s0.out.after bx)
      replace kr := Lib.hid (kr.out.below bx kr.out.lt)
      replace qr := Lib.hid (qr.out.below bx qr.out.lt)
      replace b0 := b0.trans (bx.mono b0.size)
      clear X bx hv
      have X := Lib.hid (slotRead_any w.heap.size pp sp (slEraseS (goW2 1 k q ep e1) 1) w16 s0 1)
      rw [go1_7] at X
      go_wp2_with fail
      refine X.out.mono ?_
      rintro e w17 ⟨rfl, bx⟩
      replace s0 := Lib.hid (s0.out.after bx)
      replace kr := Lib.hid (kr.out.below bx kr.out.lt)
      replace qr := Lib.hid (qr.out.below bx qr.out.lt)
      replace b0 := b0.trans (bx.mono b0.size)
      replace sk := Lib.hid (sk.out.after bx)
      clear X bx
      have zq := Lib.hid (RowAt.new w17 31 (rowOf 16 (w8 zeroN)))
      have bx : Below w17.heap.size w17 (w17.alloc (.cells (rowOf 16 (w8 zeroN)) 31)) := (Below.refl _ _).alloc (Nat.le_refl _) _
      replace s0 := Lib.hid (s0.out.after bx)
      replace kr := Lib.hid (kr.out.below bx kr.out.lt)
      replace qr := Lib.hid (qr.out.below bx qr.out.lt)
      replace b0 := b0.trans (bx.mono b0.size)
      replace sk := Lib.hid (sk.out.after bx)
      clear bx s0
      go_wp2_with (refine wpList_store_row rfl 31 _ _ rfl w17.heap.size (rowOf 16 (w8 zeroN)) rfl rfl 31 _ zq.out (info_key _) (by rw [rowOf_size]) (rowOf_cells8 _ _) ?_; rw [World.setRow_alloc_new]; generalize w17.alloc (.cells (rowOf 16 (w8 zeroN)) 31) = w18 at *)
      refine wp_region_one (by kernel_rfl) (by kernel_rfl) ?_
      have bx : Below w18.heap.size w18 (World.drew w18) := (Below.refl _ _).drew
      replace sk := Lib.hid (sk.out.after bx)
      replace qr := Lib.hid (qr.out.below bx qr.out.lt)
      replace b0 := b0.trans (bx.mono b0.size)
      clear bx zq kr
      generalize World.drew w18 = w9 at *
      (go_big_quiet_want; go_big_quiet_op; go_big_quiet_on)
      (go_big_quiet_want; go_big_quiet_op; go_big_quiet_on)
      (go_big_quiet_want; go_big_quiet_op; go_big_quiet_on)
      (go_big_quiet_want; go_big_quiet_op; go_big_quiet_on)
      (go_big_quiet_want; go_big_quiet_op; go_big_quiet_on)
      refine wpQuiet_val (by rfl) _ (fun w' _ => run_index_el sk.out (i := 0) (by decide) rfl rfl rfl w') ?_
      simp only [Act.put, List.setIfInBounds_toArray, List.set_cons_succ, List.set_cons_zero]
      refine wpQuiet_val (by rfl) (.agg (rowOf 16 (w8 q))) (fun w' e => by subst e; exact run_load_el sk.out (i := 0) (by decide) rfl rfl) ?_
      simp only [Act.put, List.setIfInBounds_toArray, List.set_cons_succ, List.set_cons_zero]
      refine wpQuiet_load_row (by rfl) 31 _ rfl (w.heap.size + 1) rfl 31 (rowOf 16 (w8 q)) _ (fun w' hw' => by subst hw'; exact qr.out) Try.underlying31 rfl (info_key _) ?_
      simp only [Act.put, List.setIfInBounds_toArray, List.set_cons_succ, List.set_cons_zero]
      refine wpQuiet_val (by rfl) _ (fun w' _ => run_eql_key2 q q true (sameK_rfl _) rfl rfl rfl w') ?_
      simp only [Act.put, List.setIfInBounds_toArray, List.set_cons_succ, List.set_cons_zero]
      repeat (first | go_big_quiet_skip | (go_big_quiet_want; go_big_quiet_op; go_big_quiet_on))
      refine wpQuiet_nil ?_
      go_wp2
      go_ret
      exact ⟨rfl, b0⟩

theorem walk_SlotGone (k : Nat → Nat) (h0 : Bytes k) (q : Nat → Nat) (h1 : Bytes q) (i : Int) (h2 : (Lit.int .u8 i).wf = true) (ep : Int) (h3 : (Lit.int .u64 ep).wf = true) (w : World) :
    Calls Try.prog 4 #[.agg (rowOf 16 (w8 k)), .agg (rowOf 16 (w8 q)), .int .u8 i, .int .u64 ep] w fun e w' => e = .returned (.bool true) ∧ Below w.heap.size w w' := by
  have h4 : 0 ≤ ep ∧ ep < 18446744073709551616 := by
    simp [Lit.wf, IntKind.min, IntKind.max, IntKind.signed, IntKind.bits] at h3
    omega
  have := wf_u8 h2
  obtain ⟨n, rfl⟩ : ∃ n : Nat, ep = n := ⟨ep.toNat, by omega⟩
  obtain ⟨m, rfl⟩ : ∃ m : Nat, i = m := ⟨i.toNat, by omega⟩
  exact gone_nat k q m n (by omega) w

end Go.Proofs.Ytopajipagacmkaa
