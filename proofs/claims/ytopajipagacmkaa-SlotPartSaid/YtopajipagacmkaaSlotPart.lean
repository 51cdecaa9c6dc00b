/-
  The law SlotPart: every input.
-/
import Derived.Test.YtopajipagacmkaaSlotLow
import Derived.Test.YtopajipagacmkaaSlotPow
import Derived.Test.YtopajipagacmkaaDrawOpen
namespace Go.Proofs.Ytopajipagacmkaa
open Go.RowKit
set_option linter.unusedVariables false

/-- A fuse of one act. -/
def paF (S : SS) (kp : Nat) : SS := fuseSS S 1 kp 0
def paW (k : Nat → Nat) (ep : Nat) : SS := writeS (newSS noneS) 0 k ep
theorem pa_w (k : Nat → Nat) (ep : Nat) : writeE (newSS noneS) 0 = 0 := by kernel_rfl
theorem pa_low (S : SS) (kp : Nat) : LowS (paF S kp) 0 := ⟨by show -((0 : Nat) : Int) ≤ 1; decide, by show (1 : Int) < _; decide⟩
theorem pa_w4 (kp : Nat) : writeE (paF (newSS noneS) kp) 0 = 4 := by kernel_rfl
theorem pa_e4 (k : Nat → Nat) (ep kp : Nat) : slEraseE (paF (paW k ep) kp) 0 = 4 := by kernel_rfl
theorem pa_wu (k : Nat → Nat) (ep kp : Nat) : (writeS (paF (newSS noneS) kp) 0 k ep).p.up = false := by kernel_rfl
theorem pa_eu (k : Nat → Nat) (ep kp : Nat) : (slEraseS (paF (paW k ep) kp) 0).p.up = false := by kernel_rfl
theorem pa_wS (k : Nat → Nat) (ep kp : Nat) : writeS (paF (newSS noneS) kp) 0 k ep = turnS (paF (newSS noneS) kp) 0 ⟨true, k, ep⟩ := by kernel_rfl
theorem pa_eS (k : Nat → Nat) (ep kp : Nat) : slEraseS (paF (paW k ep) kp) 0 = turnS (paF (paW k ep) kp) 0 blankC := by kernel_rfl
theorem pa_wOdd (k : Nat → Nat) (ep kp : Nat) (h : kp % 2 = 1) : readVS (onSS (writeS (paF (newSS noneS) kp) 0 k ep)) 0 = #[.agg (rowOf 16 (w8 k)), .int .u64 (ep : Nat), .int .i64 0] := by
  rw [pa_wS, turn_odd _ _ _ (by kernel_rfl) h]
  kernel_rfl
theorem pa_wEven (k : Nat → Nat) (ep kp : Nat) (h : ¬ kp % 2 = 1) : readVS (onSS (writeS (paF (newSS noneS) kp) 0 k ep)) 0 = #[.agg (rowOf 16 (w8 zeroN)), .int .u64 0, .int .i64 110] := by
  rw [pa_wS, turn_even _ _ _ (by kernel_rfl) h]
  kernel_rfl
theorem pa_eOdd (k : Nat → Nat) (ep kp : Nat) (h : kp % 2 = 1) : readVS (onSS (slEraseS (paF (paW k ep) kp) 0)) 0 = #[.agg (rowOf 16 (w8 zeroN)), .int .u64 0, .int .i64 110] := by
  rw [pa_eS, turn_odd _ _ _ (by kernel_rfl) h]
  kernel_rfl
theorem pa_eEven (k : Nat → Nat) (ep kp : Nat) (h : ¬ kp % 2 = 1) : readVS (onSS (slEraseS (paF (paW k ep) kp) 0)) 0 = #[.agg (rowOf 16 (w8 k)), .int .u64 (ep : Nat), .int .i64 0] := by
  rw [pa_eS, turn_even _ _ _ (by kernel_rfl) h]
  kernel_rfl

set_option maxHeartbeats 4000000 in
set_option maxRecDepth 8000 in
theorem part_nat (k : Nat → Nat) (ep kp : Nat) (hkp : kp < 256) (erase : Bool) (w : World) :
    Calls Try.prog 5 #[.agg (rowOf 16 (w8 k)), .int .u64 (ep : Nat), .int .u8 (kp : Nat), .bool erase] w fun e w' => e = .returned (.bool true) ∧ Below w.heap.size w w' := by
  obtain ⟨w0, hw0⟩ : ∃ w0, Hid (w0 = w.alloc (.cells (rowOf 16 (w8 k)) 31)) := ⟨_, rfl⟩
  have b0 : Below w.heap.size w w0 := by rw [hw0.out]; exact (Below.refl _ _).alloc (Nat.le_refl _) _
  have kr := Lib.hid (RowAt.new w 31 (rowOf 16 (w8 k)))
  rw [← hw0.out] at kr
  have NP := Lib.hid (newPower_any w0)
  have lw0 := b0.size
  go_enter Try.func5, Try.ntmps5
  go_wp2_with fail
  rw [← hw0.out]
  refine NP.out.mono ?_
  rintro e w1 ⟨rfl, r1, b1⟩
  have NS := Lib.hid (slotNew_any w.heap.size w0.heap.size noneS w1 lw0 r1 (by decide) (by decide))
  replace kr := Lib.hid (kr.out.below b1 kr.out.lt)
  replace b0 := b0.trans (b1.mono b0.size)
  clear NP r1 b1 lw0 hw0
  generalize w0.heap.size = pp at *
  go_wp2_with fail
  refine NS.out.mono ?_
  rintro e w2 ⟨rfl, s0, b2⟩
  replace kr := Lib.hid (kr.out.below b2 kr.out.lt)
  replace b0 := b0.trans (b2.mono b0.size)
  clear NS b2
  generalize w1.heap.size = sp at *
  have X := Lib.hid (shown11_any w2)
  go_wp2_with fail
  refine X.out.mono ?_
  rintro e w11 ⟨rfl, bx⟩
  replace s0 := Lib.hid (s0.out.after bx)
  replace kr := Lib.hid (kr.out.below bx kr.out.lt)
  replace b0 := b0.trans (bx.mono b0.size)
  clear X bx
  cases erase with
  | true =>
    have X := Lib.hid (slotWrite_any w.heap.size pp sp _ w11 s0 0 k ep (by decide) (by decide))
    go_wp2_with (refine wpList_wload_row (by rfl) 31 _ rfl w.heap.size rfl 31 (rowOf 16 (w8 k)) _ kr.out Try.underlying31 rfl (info_key _) ?_)
    refine X.out.mono ?_
    rintro e w12 ⟨he, s1, g1⟩
    obtain rfl : e = .returned (.int .i64 0) := he.trans (by rw [pa_w k ep]; rfl)
    replace kr := Lib.hid (s0.out.keeps g1 kr.out (by decide) (by decide))
    replace b0 := b0.trans (s0.out.under g1 b0.size)
    clear X s0 g1
    have s0 : Hid (Sl _ _ _ _ (paW k ep)) := s1
    clear s1
    have X := Lib.hid (slFuse_any w.heap.size pp sp _ w12 s0 1 (kp : Int) 1 kp (.inr ⟨by decide, rfl⟩) (.inr ⟨by omega, rfl⟩) (by omega))
    go_wp2_with fail
    refine X.out.mono ?_
    rintro e w13 ⟨rfl, s1, g1⟩
    replace kr := Lib.hid (s0.out.keeps g1 kr.out (by decide) (by decide))
    replace b0 := b0.trans (s0.out.under g1 b0.size)
    clear X s0 g1
    have s0 : Hid (Sl _ _ _ _ (paF (paW k ep) kp)) := s1
    clear s1
    have lo := pa_low (paW k ep) kp
    have X := Lib.hid (slotErase_any w.heap.size pp sp (paF (paW k ep) kp) w13 s0 0 (lo.low (by decide)) lo.hi)
    go_wp2_with fail
    refine X.out.mono ?_
    rintro e w14 ⟨he, s1, g1⟩
    obtain rfl : e = .returned (.int .i64 4) := he.trans (by rw [pa_e4]; rfl)
    replace kr := Lib.hid (s0.out.keeps g1 kr.out (by decide) (by decide))
    replace b0 := b0.trans (s0.out.under g1 b0.size)
    clear X s0 g1
    have s0 : Hid (Sl _ _ _ _ (slEraseS (paF (paW k ep) kp) 0)) := s1
    clear s1
    have X := Lib.hid (powUp_any pp _ _ _ _ w14 s0.out.pow)
    rw [pa_eu k ep kp] at X
    go_wp2_with fail
    refine X.out.mono ?_
    rintro e w15 ⟨rfl, rfl⟩
    clear X
    have X := Lib.hid (slOn_any w.heap.size pp sp _ w15 s0)
    go_wp2_with fail
    refine X.out.mono ?_
    rintro e w16 ⟨rfl, s1, g1⟩
    replace kr := Lib.hid (s0.out.keeps g1 kr.out (by decide) (by decide))
    replace b0 := b0.trans (s0.out.under g1 b0.size)
    clear X s0 g1
    have s0 : Hid (Sl _ _ _ _ (onSS (slEraseS (paF (paW k ep) kp) 0))) := s1
    clear s1
    by_cases ho : kp % 2 = 1
    · have hm : ((kp : Nat) : Int) % 2 = 1 := by omega
      replace hm : Int.tmod ((kp : Nat) : Int) 2 = 1 := by rw [Int.tmod_eq_emod_of_nonneg (by omega)]; exact hm
      replace ho := Lib.hid ho
      have X := Lib.hid (slotRead_any w.heap.size pp sp (onSS (slEraseS (paF (paW k ep) kp) 0)) w16 s0 0)
      rw [pa_eOdd k ep kp ho.out] at X
      go_wp2_with fail
      refine X.out.mono ?_
      rintro e w17 ⟨rfl, bx⟩
      replace s0 := Lib.hid (s0.out.after bx)
      replace kr := Lib.hid (kr.out.below bx kr.out.lt)
      replace b0 := b0.trans (bx.mono b0.size)
      clear X bx
      have zq := Lib.hid (RowAt.new w17 31 (rowOf 16 (w8 zeroN)))
      have rq := Lib.hid (RowAt.new w17 31 (rowOf 16 (w8 zeroN)))
      have bx : Below w17.heap.size w17 (w17.alloc (.cells (rowOf 16 (w8 zeroN)) 31)) := (Below.refl _ _).alloc (Nat.le_refl _) _
      replace s0 := Lib.hid (s0.out.after bx)
      replace kr := Lib.hid (kr.out.below bx kr.out.lt)
      replace b0 := b0.trans (bx.mono b0.size)
      clear bx
      clear s0
      go_wp2_with (first | (refine wpList_store_row rfl 31 _ _ rfl w17.heap.size (rowOf 16 (w8 zeroN)) rfl rfl 31 _ zq.out (info_key _) (by rw [rowOf_size]) (rowOf_cells8 _ _) ?_; rw [World.setRow_alloc_new]; generalize w17.alloc (.cells (rowOf 16 (w8 zeroN)) 31) = w18 at *) | (refine wpList_wload_row (by rfl) 31 _ rfl w17.heap.size rfl 31 (rowOf 16 (w8 zeroN)) _ rq.out Try.underlying31 rfl (info_key _) ?_) | (refine wpList_unguard rfl ?_; refine wpList_buildTo rfl 31 _ rfl _ rfl (rowOf 16 (w8 zeroN)) (by kernel_rfl) ?_) | (refine wpList_wknown (by rfl) (run_eql_key2 zeroN zeroN true (sameK_rfl _) rfl rfl rfl _) ?_))
      go_ret
      exact ⟨rfl, b0⟩
    · have hm : ((kp : Nat) : Int) % 2 = 0 := by omega
      replace hm : Int.tmod ((kp : Nat) : Int) 2 = 0 := by rw [Int.tmod_eq_emod_of_nonneg (by omega)]; exact hm
      replace ho := Lib.hid ho
      have X := Lib.hid (slotRead_any w.heap.size pp sp (onSS (slEraseS (paF (paW k ep) kp) 0)) w16 s0 0)
      rw [pa_eEven k ep kp ho.out] at X
      go_wp2_with fail
      refine X.out.mono ?_
      rintro e w17 ⟨rfl, bx⟩
      replace s0 := Lib.hid (s0.out.after bx)
      replace kr := Lib.hid (kr.out.below bx kr.out.lt)
      replace b0 := b0.trans (bx.mono b0.size)
      clear X bx
      have zq := Lib.hid (RowAt.new w17 31 (rowOf 16 (w8 zeroN)))
      have rq := Lib.hid (RowAt.new w17 31 (rowOf 16 (w8 k)))
      have bx : Below w17.heap.size w17 (w17.alloc (.cells (rowOf 16 (w8 k)) 31)) := (Below.refl _ _).alloc (Nat.le_refl _) _
      replace s0 := Lib.hid (s0.out.after bx)
      replace kr := Lib.hid (kr.out.below bx kr.out.lt)
      replace b0 := b0.trans (bx.mono b0.size)
      clear bx
      clear s0
      go_wp2_with (first | (refine wpList_store_row rfl 31 _ _ rfl w17.heap.size (rowOf 16 (w8 k)) rfl rfl 31 _ zq.out (info_key _) (by rw [rowOf_size, rowOf_size]) (rowOf_cells8 _ _) ?_; rw [World.setRow_alloc_new]; generalize w17.alloc (.cells (rowOf 16 (w8 k)) 31) = w18 at *) | (refine wpList_wload_row (by rfl) 31 _ rfl w17.heap.size rfl 31 (rowOf 16 (w8 k)) _ rq.out Try.underlying31 rfl (info_key _) ?_) | (refine wpList_wload_row (by rfl) 31 _ rfl w.heap.size rfl 31 (rowOf 16 (w8 k)) _ kr.out Try.underlying31 rfl (info_key _) ?_) | (refine wpList_wknown (by rfl) (run_eql_key2 k k true (sameK_rfl _) rfl rfl rfl _) ?_))
      go_ret
      exact ⟨rfl, b0⟩
  | false =>
    have X := Lib.hid (slFuse_any w.heap.size pp sp _ w11 s0 1 (kp : Int) 1 kp (.inr ⟨by decide, rfl⟩) (.inr ⟨by omega, rfl⟩) (by omega))
    go_wp2_with fail
    refine X.out.mono ?_
    rintro e w12 ⟨rfl, s1, g1⟩
    replace kr := Lib.hid (s0.out.keeps g1 kr.out (by decide) (by decide))
    replace b0 := b0.trans (s0.out.under g1 b0.size)
    clear X s0 g1
    have s0 : Hid (Sl _ _ _ _ (paF (newSS noneS) kp)) := s1
    clear s1
    have lo := pa_low (newSS noneS) kp
    have X := Lib.hid (slotWrite_any w.heap.size pp sp (paF (newSS noneS) kp) w12 s0 0 k ep (lo.low (by decide)) lo.hi)
    go_wp2_with (refine wpList_load_row rfl 31 _ rfl w.heap.size rfl 31 (rowOf 16 (w8 k)) (0, 0) _ kr.out Try.underlying31 rfl (info_key _) ?_)
    refine X.out.mono ?_
    rintro e w13 ⟨he, s1, g1⟩
    obtain rfl : e = .returned (.int .i64 4) := he.trans (by rw [pa_w4]; rfl)
    replace kr := Lib.hid (s0.out.keeps g1 kr.out (by decide) (by decide))
    replace b0 := b0.trans (s0.out.under g1 b0.size)
    clear X s0 g1
    have s0 : Hid (Sl _ _ _ _ (writeS (paF (newSS noneS) kp) 0 k ep)) := s1
    clear s1
    have X := Lib.hid (powUp_any pp _ _ _ _ w13 s0.out.pow)
    rw [pa_wu k ep kp] at X
    go_wp2_with fail
    refine X.out.mono ?_
    rintro e w14 ⟨rfl, rfl⟩
    clear X
    have X := Lib.hid (slOn_any w.heap.size pp sp _ w14 s0)
    go_wp2_with fail
    refine X.out.mono ?_
    rintro e w15 ⟨rfl, s1, g1⟩
    replace kr := Lib.hid (s0.out.keeps g1 kr.out (by decide) (by decide))
    replace b0 := b0.trans (s0.out.under g1 b0.size)
    clear X s0 g1
    have s0 : Hid (Sl _ _ _ _ (onSS (writeS (paF (newSS noneS) kp) 0 k ep))) := s1
    clear s1
    by_cases ho : kp % 2 = 1
    · have hm : ((kp : Nat) : Int) % 2 = 1 := by omega
      replace hm : Int.tmod ((kp : Nat) : Int) 2 = 1 := by rw [Int.tmod_eq_emod_of_nonneg (by omega)]; exact hm
      replace ho := Lib.hid ho
      have X := Lib.hid (slotRead_any w.heap.size pp sp (onSS (writeS (paF (newSS noneS) kp) 0 k ep)) w15 s0 0)
      rw [pa_wOdd k ep kp ho.out] at X
      go_wp2_with fail
      refine X.out.mono ?_
      rintro e w16 ⟨rfl, bx⟩
      replace s0 := Lib.hid (s0.out.after bx)
      replace kr := Lib.hid (kr.out.below bx kr.out.lt)
      replace b0 := b0.trans (bx.mono b0.size)
      clear X bx
      have zq := Lib.hid (RowAt.new w16 31 (rowOf 16 (w8 zeroN)))
      have rq := Lib.hid (RowAt.new w16 31 (rowOf 16 (w8 k)))
      have bx : Below w16.heap.size w16 (w16.alloc (.cells (rowOf 16 (w8 k)) 31)) := (Below.refl _ _).alloc (Nat.le_refl _) _
      replace s0 := Lib.hid (s0.out.after bx)
      replace kr := Lib.hid (kr.out.below bx kr.out.lt)
      replace b0 := b0.trans (bx.mono b0.size)
      clear bx
      clear s0
      go_wp2_with (first | (refine wpList_store_row rfl 31 _ _ rfl w16.heap.size (rowOf 16 (w8 k)) rfl rfl 31 _ zq.out (info_key _) (by rw [rowOf_size, rowOf_size]) (rowOf_cells8 _ _) ?_; rw [World.setRow_alloc_new]; generalize w16.alloc (.cells (rowOf 16 (w8 k)) 31) = w17 at *) | (refine wpList_wload_row (by rfl) 31 _ rfl w16.heap.size rfl 31 (rowOf 16 (w8 k)) _ rq.out Try.underlying31 rfl (info_key _) ?_) | (refine wpList_wload_row (by rfl) 31 _ rfl w.heap.size rfl 31 (rowOf 16 (w8 k)) _ kr.out Try.underlying31 rfl (info_key _) ?_) | (refine wpList_wknown (by rfl) (run_eql_key2 k k true (sameK_rfl _) rfl rfl rfl _) ?_))
      go_ret
      exact ⟨rfl, b0⟩
    · have hm : ((kp : Nat) : Int) % 2 = 0 := by omega
      replace hm : Int.tmod ((kp : Nat) : Int) 2 = 0 := by rw [Int.tmod_eq_emod_of_nonneg (by omega)]; exact hm
      replace ho := Lib.hid ho
      have X := Lib.hid (slotRead_any w.heap.size pp sp (onSS (writeS (paF (newSS noneS) kp) 0 k ep)) w15 s0 0)
      rw [pa_wEven k ep kp ho.out] at X
      go_wp2_with fail
      refine X.out.mono ?_
      rintro e w16 ⟨rfl, bx⟩
      replace s0 := Lib.hid (s0.out.after bx)
      replace kr := Lib.hid (kr.out.below bx kr.out.lt)
      replace b0 := b0.trans (bx.mono b0.size)
      clear X bx
      have zq := Lib.hid (RowAt.new w16 31 (rowOf 16 (w8 zeroN)))
      have rq := Lib.hid (RowAt.new w16 31 (rowOf 16 (w8 zeroN)))
      have bx : Below w16.heap.size w16 (w16.alloc (.cells (rowOf 16 (w8 zeroN)) 31)) := (Below.refl _ _).alloc (Nat.le_refl _) _
      replace s0 := Lib.hid (s0.out.after bx)
      replace kr := Lib.hid (kr.out.below bx kr.out.lt)
      replace b0 := b0.trans (bx.mono b0.size)
      clear bx
      clear s0
      go_wp2_with (first | (refine wpList_store_row rfl 31 _ _ rfl w16.heap.size (rowOf 16 (w8 zeroN)) rfl rfl 31 _ zq.out (info_key _) (by rw [rowOf_size]) (rowOf_cells8 _ _) ?_; rw [World.setRow_alloc_new]; generalize w16.alloc (.cells (rowOf 16 (w8 zeroN)) 31) = w17 at *) | (refine wpList_wload_row (by rfl) 31 _ rfl w16.heap.size rfl 31 (rowOf 16 (w8 zeroN)) _ rq.out Try.underlying31 rfl (info_key _) ?_) | (refine wpList_unguard rfl ?_; refine wpList_buildTo rfl 31 _ rfl _ rfl (rowOf 16 (w8 zeroN)) (by kernel_rfl) ?_) | (refine wpList_wknown (by rfl) (run_eql_key2 zeroN zeroN true (sameK_rfl _) rfl rfl rfl _) ?_))
      go_ret
      exact ⟨rfl, b0⟩

theorem wf11_u64' {n : Int} (h : (Lit.int .u64 n).wf = true) : 0 ≤ n ∧ n < 18446744073709551616 := by
  simp [Lit.wf, IntKind.min, IntKind.max, IntKind.signed, IntKind.bits] at h
  omega

theorem walk_SlotPart (k : Nat → Nat) (h0 : Bytes k) (ep : Int) (h1 : (Lit.int .u64 ep).wf = true) (kp : Int) (h2 : (Lit.int .u8 kp).wf = true) (erase : Bool) (w : World) :
    Calls Try.prog 5 #[.agg (rowOf 16 (w8 k)), .int .u64 ep, .int .u8 kp, .bool erase] w fun e w' => e = .returned (.bool true) ∧ Below w.heap.size w w' := by
  have := wf11_u64' h1
  have := wf_u8 h2
  obtain ⟨n, rfl⟩ : ∃ n : Nat, ep = n := ⟨ep.toNat, by omega⟩
  obtain ⟨m, rfl⟩ : ∃ m : Nat, kp = m := ⟨kp.toNat, by omega⟩
  exact part_nat k n m (by omega) erase w

end Go.Proofs.Ytopajipagacmkaa
