/-
  The law SlotErrors: every input.
-/
import Derived.Test.YtopajipagacmkaaSlotLow
import Derived.Test.YtopajipagacmkaaDrawOpen
namespace Go.Proofs.Ytopajipagacmkaa
open Go.RowKit
set_option linter.unusedVariables false

/-- With key k in the first cell. -/
def erS1 (k : Nat → Nat) : SS := writeS (newSS noneS) 0 k 1
theorem er_w0 : writeE (newSS noneS) 0 = 0 := by kernel_rfl
theorem er_low (k : Nat → Nat) : LowS (erS1 k) 1 := LowS.new.write _ _ _
theorem er_off1 (k : Nat → Nat) (i : Int) : writeE (cutSS (erS1 k)) i = 4 := if_pos rfl
theorem er_off2 (k : Nat → Nat) (i : Int) (q : Nat → Nat) (e : Nat) : writeS (cutSS (erS1 k)) i q e = cutSS (erS1 k) := if_pos rfl
theorem er_off3 (k : Nat → Nat) (i : Int) : slEraseE (cutSS (erS1 k)) i = 4 := if_pos rfl
theorem er_off4 (k : Nat → Nat) (i : Int) : slEraseS (cutSS (erS1 k)) i = cutSS (erS1 k) := if_pos rfl
theorem er_off5 (k : Nat → Nat) (i : Int) : readVS (cutSS (erS1 k)) i = #[.agg (rowOf 16 (w8 zeroN)), .int .u64 0, .int .i64 4] := by
  unfold readVS readC readE
  rw [if_pos (show (cutSS (erS1 k)).p.up = false from rfl), if_pos (show (cutSS (erS1 k)).p.up = false from rfl)]
  rfl
theorem er_up (k : Nat → Nat) : ¬ (erS1 k).p.up = false := by
  have : (erS1 k).p.up = true := by kernel_rfl
  rw [this]
  decide
theorem er_out1 (k : Nat → Nat) (i : Int) (h : inB i 2 = false) : writeE (erS1 k) i = 1 := by unfold writeE; rw [if_neg (er_up k), if_pos h]
theorem er_out2 (k : Nat → Nat) (i : Int) (h : inB i 2 = false) (q : Nat → Nat) (e : Nat) : writeS (erS1 k) i q e = erS1 k := by unfold writeS; rw [if_neg (er_up k), if_pos h]
theorem er_out3 (k : Nat → Nat) (i : Int) (h : inB i 2 = false) : slEraseE (erS1 k) i = 1 := by unfold slEraseE; rw [if_neg (er_up k), if_pos h]
theorem er_out4 (k : Nat → Nat) (i : Int) (h : inB i 2 = false) : slEraseS (erS1 k) i = erS1 k := by unfold slEraseS; rw [if_neg (er_up k), if_pos h]
theorem er_out5 (k : Nat → Nat) (i : Int) (h : inB i 2 = false) : readVS (erS1 k) i = #[.agg (rowOf 16 (w8 zeroN)), .int .u64 0, .int .i64 1] := by
  unfold readVS readC readE
  rw [if_neg (er_up k), if_neg (er_up k), if_pos h, if_pos h]
  rfl
theorem er_zero1 (k : Nat → Nat) : writeE (erS1 k) 0 = 100 := by kernel_rfl
theorem er_zero2 (k q : Nat → Nat) (e : Nat) : writeS (erS1 k) 0 q e = erS1 k := by kernel_rfl
theorem er_zero3 (k : Nat → Nat) : slEraseE (erS1 k) 0 = 0 := by kernel_rfl
theorem er_zero5 (k : Nat → Nat) : readVS (slEraseS (erS1 k) 0) 0 = #[.agg (rowOf 16 (w8 zeroN)), .int .u64 0, .int .i64 110] := by kernel_rfl
theorem er_zero6 (k : Nat → Nat) : (heldL (slEraseS (erS1 k) 0).c 2).length = 0 := by kernel_rfl
theorem er_one1 (k : Nat → Nat) : writeE (erS1 k) 1 = 0 := by kernel_rfl
theorem er_one3 (k q : Nat → Nat) (e : Nat) : slEraseE (writeS (erS1 k) 1 q e) 1 = 0 := by kernel_rfl
theorem er_one5 (k q : Nat → Nat) (e : Nat) : readVS (slEraseS (writeS (erS1 k) 1 q e) 1) 1 = #[.agg (rowOf 16 (w8 zeroN)), .int .u64 0, .int .i64 110] := by kernel_rfl
theorem er_one6 (k q : Nat → Nat) (e : Nat) : (heldL (slEraseS (writeS (erS1 k) 1 q e) 1).c 2).length = 1 := by kernel_rfl
theorem er_len (k : Nat → Nat) : (heldL (erS1 k).c 2).length = 1 := by kernel_rfl

set_option maxHeartbeats 4000000 in
set_option maxRecDepth 8000 in
theorem errors_nat (i : Int) (off : Bool) (k : Nat → Nat) (ep : Nat) (w : World) :
    Calls Try.prog 7 #[.int .i64 i, .bool off, .agg (rowOf 16 (w8 k)), .int .u64 (ep : Nat)] w fun e w' => e = .returned (.bool true) ∧ Below w.heap.size w w' := by
  obtain ⟨w0, hw0⟩ : ∃ w0, Hid (w0 = w.alloc (.cells (rowOf 16 (w8 k)) 31)) := ⟨_, rfl⟩
  have b0 : Below w.heap.size w w0 := by rw [hw0.out]; exact (Below.refl _ _).alloc (Nat.le_refl _) _
  have kr := Lib.hid (RowAt.new w 31 (rowOf 16 (w8 k)))
  rw [← hw0.out] at kr
  have NP := Lib.hid (newPower_any w0)
  have lw0 := b0.size
  go_enter Try.func7, Try.ntmps7
  go_wp2_with fail
  rw [← hw0.out]
  refine NP.out.mono ?_
  rintro e w1 ⟨rfl, r1, b1⟩
  have NS := Lib.hid (slotNew_any w.heap.size w0.heap.size noneS w1 lw0 r1 (by decide) (by decide))
  replace kr := Lib.hid (kr.out.below b1 kr.out.lt)
  replace b0 := b0.trans (b1.mono b0.size)
  clear NP r1 b1 lw0 hw0
  generalize w0.heap.size = pp at *
  go_wp2_with fail
  refine NS.out.mono ?_
  rintro e w2 ⟨rfl, s0, b2⟩
  replace kr := Lib.hid (kr.out.below b2 kr.out.lt)
  replace b0 := b0.trans (b2.mono b0.size)
  clear NS b2
  generalize w1.heap.size = sp at *
  have X := Lib.hid (shown11_any w2)
  go_wp2_with fail
  refine X.out.mono ?_
  rintro e w11 ⟨rfl, bx⟩
  replace s0 := Lib.hid (s0.out.after bx)
  replace kr := Lib.hid (kr.out.below bx kr.out.lt)
  replace b0 := b0.trans (bx.mono b0.size)
  clear X bx
  have X := Lib.hid (slotWrite_any w.heap.size pp sp _ w11 s0 0 k 1 (by decide) (by decide))
  go_wp2_with (refine wpList_wload_row (by rfl) 31 _ rfl w.heap.size rfl 31 (rowOf 16 (w8 k)) _ kr.out Try.underlying31 rfl (info_key _) ?_)
  refine X.out.mono ?_
  rintro e w12 ⟨he, s1, g1⟩
  obtain rfl : e = .returned (.int .i64 0) := he.trans (by rw [er_w0]; rfl)
  replace kr := Lib.hid (s0.out.keeps g1 kr.out (by decide) (by decide))
  replace b0 := b0.trans (s0.out.under g1 b0.size)
  clear X s0 g1
  have s0 : Hid (Sl _ _ _ _ (erS1 k)) := s1
  clear s1
  have lo := er_low k
  cases off with
  | true =>
    have X := Lib.hid (slCut_any w.heap.size pp sp _ w12 s0)
    go_wp2_with fail
    refine X.out.mono ?_
    rintro e w13 ⟨rfl, s1, g1⟩
    replace kr := Lib.hid (s0.out.keeps g1 kr.out (by decide) (by decide))
    replace b0 := b0.trans (s0.out.under g1 b0.size)
    clear X s0 g1
    have s0 : Hid (Sl _ _ _ _ (cutSS (erS1 k))) := s1
    clear s1
    have lo0 := lo.cut
    have lo1 := lo0
    have xw := er_off2 k i k ep
    have X := Lib.hid (slotWrite_any w.heap.size pp sp (cutSS (erS1 k)) w13 s0 i k ep (lo0.low (by decide)) lo0.hi)
    go_wp2_with (refine wpList_load_row rfl 31 _ rfl w.heap.size rfl 31 (rowOf 16 (w8 k)) (0, 0) _ kr.out Try.underlying31 rfl (info_key _) ?_)
    refine X.out.mono ?_
    rintro e w14 ⟨he, s1, g1⟩
    obtain rfl : e = .returned (.int .i64 4) := he.trans (by rw [er_off1]; rfl)
    replace kr := Lib.hid (s0.out.keeps g1 kr.out (by decide) (by decide))
    replace b0 := b0.trans (s0.out.under g1 b0.size)
    clear X s0 g1
    have s0 : Hid (Sl _ _ _ _ (writeS (cutSS (erS1 k)) i k ep)) := s1
    clear s1
    rw [er_off2] at s0
    have X := Lib.hid (slotErase_any w.heap.size pp sp (cutSS (erS1 k)) w14 s0 i (lo0.low (by decide)) lo0.hi)
    go_wp2_with fail
    refine X.out.mono ?_
    rintro e w15 ⟨he, s1, g1⟩
    obtain rfl : e = .returned (.int .i64 4) := he.trans (by rw [er_off3]; rfl)
    replace kr := Lib.hid (s0.out.keeps g1 kr.out (by decide) (by decide))
    replace b0 := b0.trans (s0.out.under g1 b0.size)
    clear X s0 g1
    have s0 : Hid (Sl _ _ _ _ (slEraseS (cutSS (erS1 k)) i)) := s1
    clear s1
    rw [er_off4] at s0
    obtain ⟨q0, hq0⟩ : ∃ q, (i == 0) = q := ⟨_, rfl⟩
    obtain ⟨q1, hq1⟩ : ∃ q, (i == 1) = q := ⟨_, rfl⟩
    cases q0 <;> cases q1
    all_goals
      have X := Lib.hid (slotRead_any w.heap.size pp sp (cutSS (erS1 k)) w15 s0 i)
      rw [er_off5] at X
      go_wp2_with fail
      refine X.out.mono ?_
      rintro e w16 ⟨rfl, bx⟩
      replace s0 := Lib.hid (s0.out.after bx)
      replace kr := Lib.hid (kr.out.below bx kr.out.lt)
      replace b0 := b0.trans (bx.mono b0.size)
      clear X bx
      have zq := Lib.hid (RowAt.new w16 31 (rowOf 16 (w8 zeroN)))
      have rq := Lib.hid (RowAt.new w16 31 (rowOf 16 (w8 zeroN)))
      have bx : Below w16.heap.size w16 (w16.alloc (.cells (rowOf 16 (w8 zeroN)) 31)) := (Below.refl _ _).alloc (Nat.le_refl _) _
      replace s0 := Lib.hid (s0.out.after bx)
      replace kr := Lib.hid (kr.out.below bx kr.out.lt)
      replace b0 := b0.trans (bx.mono b0.size)
      clear bx
      have X := Lib.hid (slotHolds_any w.heap.size pp sp (cutSS (erS1 k)) (w16.alloc (.cells (rowOf 16 (w8 zeroN)) 31)) s0)
      rw [show (heldL (cutSS (erS1 k)).c 2).length = 1 from er_len k] at X
      go_wp2_with (refine wpList_store_row rfl 31 _ _ rfl w16.heap.size (rowOf 16 (w8 zeroN)) rfl rfl 31 _ zq.out (info_key _) (by rw [rowOf_size]) (rowOf_cells8 _ _) ?_; rw [World.setRow_alloc_new]; generalize w16.alloc (.cells (rowOf 16 (w8 zeroN)) 31) = w17 at *)
      refine X.out.mono ?_
      rintro e w18 ⟨v, rfl, hv, bx⟩
      obtain ⟨av, cv, rfl⟩ := own_shape hv.out
      replace b0 := b0.trans (bx.mono b0.size)
      clear X bx hv s0 zq rq kr
      go_wp2
      go_ret
      exact ⟨rfl, b0⟩
  | false =>
    by_cases hin : inB i 2 = false
    · have hz : ¬ (0 ≤ i ∧ i < ((2 : Nat) : Int)) := fun h => by
        have := (inB_iff i 2).2 h
        rw [hin] at this
        cases this
      have q0 : (i == 0) = false := by rw [beq_eq_false_iff_ne]; omega
      have q1 : (i == 1) = false := by rw [beq_eq_false_iff_ne]; omega
      replace hin := Lib.hid hin
      clear hz
      have X := Lib.hid (slotWrite_any w.heap.size pp sp (erS1 k) w12 s0 i k ep (lo.low (by decide)) lo.hi)
      go_wp2_with (refine wpList_load_row rfl 31 _ rfl w.heap.size rfl 31 (rowOf 16 (w8 k)) (0, 0) _ kr.out Try.underlying31 rfl (info_key _) ?_)
      refine X.out.mono ?_
      rintro e w13 ⟨he, s1, g1⟩
      obtain rfl : e = .returned (.int .i64 1) := he.trans (by rw [er_out1 k i hin.out]; rfl)
      replace kr := Lib.hid (s0.out.keeps g1 kr.out (by decide) (by decide))
      replace b0 := b0.trans (s0.out.under g1 b0.size)
      clear X s0 g1
      have s0 : Hid (Sl _ _ _ _ (writeS (erS1 k) i k ep)) := s1
      clear s1
      rw [er_out2 k i hin.out] at s0
      have X := Lib.hid (slotErase_any w.heap.size pp sp (erS1 k) w13 s0 i (lo.low (by decide)) lo.hi)
      go_wp2_with fail
      refine X.out.mono ?_
      rintro e w14 ⟨he, s1, g1⟩
      obtain rfl : e = .returned (.int .i64 1) := he.trans (by rw [er_out3 k i hin.out]; rfl)
      replace kr := Lib.hid (s0.out.keeps g1 kr.out (by decide) (by decide))
      replace b0 := b0.trans (s0.out.under g1 b0.size)
      clear X s0 g1
      have s0 : Hid (Sl _ _ _ _ (slEraseS (erS1 k) i)) := s1
      clear s1
      rw [er_out4 k i hin.out] at s0
      have X := Lib.hid (slotRead_any w.heap.size pp sp (erS1 k) w14 s0 i)
      rw [er_out5 k i hin.out] at X
      go_wp2_with fail
      refine X.out.mono ?_
      rintro e w15 ⟨rfl, bx⟩
      replace s0 := Lib.hid (s0.out.after bx)
      replace kr := Lib.hid (kr.out.below bx kr.out.lt)
      replace b0 := b0.trans (bx.mono b0.size)
      clear X bx
      have zq := Lib.hid (RowAt.new w15 31 (rowOf 16 (w8 zeroN)))
      have rq := Lib.hid (RowAt.new w15 31 (rowOf 16 (w8 zeroN)))
      have bx : Below w15.heap.size w15 (w15.alloc (.cells (rowOf 16 (w8 zeroN)) 31)) := (Below.refl _ _).alloc (Nat.le_refl _) _
      replace s0 := Lib.hid (s0.out.after bx)
      replace kr := Lib.hid (kr.out.below bx kr.out.lt)
      replace b0 := b0.trans (bx.mono b0.size)
      clear bx
      have X := Lib.hid (slotHolds_any w.heap.size pp sp (erS1 k) (w15.alloc (.cells (rowOf 16 (w8 zeroN)) 31)) s0)
      rw [er_len] at X
      go_wp2_with (refine wpList_store_row rfl 31 _ _ rfl w15.heap.size (rowOf 16 (w8 zeroN)) rfl rfl 31 _ zq.out (info_key _) (by rw [rowOf_size]) (rowOf_cells8 _ _) ?_; rw [World.setRow_alloc_new]; generalize w15.alloc (.cells (rowOf 16 (w8 zeroN)) 31) = w16 at *)
      refine X.out.mono ?_
      rintro e w17 ⟨v, rfl, hv, bx⟩
      obtain ⟨av, cv, rfl⟩ := own_shape hv.out
      replace b0 := b0.trans (bx.mono b0.size)
      clear X bx hv s0 zq rq kr
      go_wp2
      go_ret
      exact ⟨rfl, b0⟩
    · have hz := (inB_iff i 2).1 (by simpa using hin)
      clear hin
      by_cases h0 : i = 0
      · subst h0
        clear hz
        have X := Lib.hid (slotWrite_any w.heap.size pp sp (erS1 k) w12 s0 0 k ep (lo.low (by decide)) lo.hi)
        go_wp2_with (refine wpList_load_row rfl 31 _ rfl w.heap.size rfl 31 (rowOf 16 (w8 k)) (0, 0) _ kr.out Try.underlying31 rfl (info_key _) ?_)
        refine X.out.mono ?_
        rintro e w13 ⟨he, s1, g1⟩
        obtain rfl : e = .returned (.int .i64 100) := he.trans (by rw [er_zero1]; rfl)
        replace kr := Lib.hid (s0.out.keeps g1 kr.out (by decide) (by decide))
        replace b0 := b0.trans (s0.out.under g1 b0.size)
        clear X s0 g1
        have s0 : Hid (Sl _ _ _ _ (writeS (erS1 k) 0 k ep)) := s1
        clear s1
        rw [er_zero2] at s0
        have X := Lib.hid (slotErase_any w.heap.size pp sp (erS1 k) w13 s0 0 (lo.low (by decide)) lo.hi)
        go_wp2_with fail
        refine X.out.mono ?_
        rintro e w14 ⟨he, s1, g1⟩
        obtain rfl : e = .returned (.int .i64 0) := he.trans (by rw [er_zero3]; rfl)
        replace kr := Lib.hid (s0.out.keeps g1 kr.out (by decide) (by decide))
        replace b0 := b0.trans (s0.out.under g1 b0.size)
        clear X s0 g1
        have s0 : Hid (Sl _ _ _ _ (slEraseS (erS1 k) 0)) := s1
        clear s1
        have X := Lib.hid (slotRead_any w.heap.size pp sp (slEraseS (erS1 k) 0) w14 s0 0)
        rw [er_zero5] at X
        go_wp2_with fail
        refine X.out.mono ?_
        rintro e w15 ⟨rfl, bx⟩
        replace s0 := Lib.hid (s0.out.after bx)
        replace kr := Lib.hid (kr.out.below bx kr.out.lt)
        replace b0 := b0.trans (bx.mono b0.size)
        clear X bx
        have zq := Lib.hid (RowAt.new w15 31 (rowOf 16 (w8 zeroN)))
        have rq := Lib.hid (RowAt.new w15 31 (rowOf 16 (w8 zeroN)))
        have bx : Below w15.heap.size w15 (w15.alloc (.cells (rowOf 16 (w8 zeroN)) 31)) := (Below.refl _ _).alloc (Nat.le_refl _) _
        replace s0 := Lib.hid (s0.out.after bx)
        replace kr := Lib.hid (kr.out.below bx kr.out.lt)
        replace b0 := b0.trans (bx.mono b0.size)
        clear bx
        have X := Lib.hid (slotHolds_any w.heap.size pp sp (slEraseS (erS1 k) 0) (w15.alloc (.cells (rowOf 16 (w8 zeroN)) 31)) s0)
        rw [er_zero6] at X
        go_wp2_with (refine wpList_store_row rfl 31 _ _ rfl w15.heap.size (rowOf 16 (w8 zeroN)) rfl rfl 31 _ zq.out (info_key _) (by rw [rowOf_size]) (rowOf_cells8 _ _) ?_; rw [World.setRow_alloc_new]; generalize w15.alloc (.cells (rowOf 16 (w8 zeroN)) 31) = w16 at *)
        refine X.out.mono ?_
        rintro e w17 ⟨v, rfl, hv, bx⟩
        obtain ⟨av, cv, rfl⟩ := own_shape hv.out
        replace b0 := b0.trans (bx.mono b0.size)
        clear X bx hv s0 zq rq kr
        go_wp2
        go_ret
        exact ⟨rfl, b0⟩
      · have h1 : i = 1 := by omega
        subst h1
        clear hz h0
        have X := Lib.hid (slotWrite_any w.heap.size pp sp (erS1 k) w12 s0 1 k ep (lo.low (by decide)) lo.hi)
        go_wp2_with (refine wpList_load_row rfl 31 _ rfl w.heap.size rfl 31 (rowOf 16 (w8 k)) (0, 0) _ kr.out Try.underlying31 rfl (info_key _) ?_)
        refine X.out.mono ?_
        rintro e w13 ⟨he, s1, g1⟩
        obtain rfl : e = .returned (.int .i64 0) := he.trans (by rw [er_one1]; rfl)
        replace kr := Lib.hid (s0.out.keeps g1 kr.out (by decide) (by decide))
        replace b0 := b0.trans (s0.out.under g1 b0.size)
        clear X s0 g1
        have s0 : Hid (Sl _ _ _ _ (writeS (erS1 k) 1 k ep)) := s1
        clear s1
        replace lo := lo.write 1 k ep
        have X := Lib.hid (slotErase_any w.heap.size pp sp _ w13 s0 1 (lo.low (by decide)) lo.hi)
        go_wp2_with fail
        refine X.out.mono ?_
        rintro e w14 ⟨he, s1, g1⟩
        obtain rfl : e = .returned (.int .i64 0) := he.trans (by rw [er_one3]; rfl)
        replace kr := Lib.hid (s0.out.keeps g1 kr.out (by decide) (by decide))
        replace b0 := b0.trans (s0.out.under g1 b0.size)
        clear X s0 g1
        have s0 : Hid (Sl _ _ _ _ (slEraseS (writeS (erS1 k) 1 k ep) 1)) := s1
        clear s1
        have X := Lib.hid (slotRead_any w.heap.size pp sp (slEraseS (writeS (erS1 k) 1 k ep) 1) w14 s0 1)
        rw [er_one5] at X
        go_wp2_with fail
        refine X.out.mono ?_
        rintro e w15 ⟨rfl, bx⟩
        replace s0 := Lib.hid (s0.out.after bx)
        replace kr := Lib.hid (kr.out.below bx kr.out.lt)
        replace b0 := b0.trans (bx.mono b0.size)
        clear X bx
        have zq := Lib.hid (RowAt.new w15 31 (rowOf 16 (w8 zeroN)))
        have rq := Lib.hid (RowAt.new w15 31 (rowOf 16 (w8 zeroN)))
        have bx : Below w15.heap.size w15 (w15.alloc (.cells (rowOf 16 (w8 zeroN)) 31)) := (Below.refl _ _).alloc (Nat.le_refl _) _
        replace s0 := Lib.hid (s0.out.after bx)
        replace kr := Lib.hid (kr.out.below bx kr.out.lt)
        replace b0 := b0.trans (bx.mono b0.size)
        clear bx
        have X := Lib.hid (slotHolds_any w.heap.size pp sp (slEraseS (writeS (erS1 k) 1 k ep) 1) (w15.alloc (.cells (rowOf 16 (w8 zeroN)) 31)) s0)
        rw [er_one6] at X
        go_wp2_with (refine wpList_store_row rfl 31 _ _ rfl w15.heap.size (rowOf 16 (w8 zeroN)) rfl rfl 31 _ zq.out (info_key _) (by rw [rowOf_size]) (rowOf_cells8 _ _) ?_; rw [World.setRow_alloc_new]; generalize w15.alloc (.cells (rowOf 16 (w8 zeroN)) 31) = w16 at *)
        refine X.out.mono ?_
        rintro e w17 ⟨v, rfl, hv, bx⟩
        obtain ⟨av, cv, rfl⟩ := own_shape hv.out
        replace b0 := b0.trans (bx.mono b0.size)
        clear X bx hv s0 zq rq kr
        go_wp2
        go_ret
        exact ⟨rfl, b0⟩

theorem wf11_u64 {n : Int} (h : (Lit.int .u64 n).wf = true) : 0 ≤ n ∧ n < 18446744073709551616 := by
  simp [Lit.wf, IntKind.min, IntKind.max, IntKind.signed, IntKind.bits] at h
  omega

theorem walk_SlotErrors (i : Int) (h0 : (Lit.int .i64 i).wf = true) (off : Bool) (k : Nat → Nat) (h1 : Bytes k) (ep : Int) (h2 : (Lit.int .u64 ep).wf = true) (w : World) :
    Calls Try.prog 7 #[.int .i64 i, .bool off, .agg (rowOf 16 (w8 k)), .int .u64 ep] w fun e w' => e = .returned (.bool true) ∧ Below w.heap.size w w' := by
  have := wf11_u64 h2
  obtain ⟨n, rfl⟩ : ∃ n : Nat, ep = n := ⟨ep.toNat, by omega⟩
  exact errors_nat i off k n w

end Go.Proofs.Ytopajipagacmkaa
