/-
  Contract: shown of layer 11.
-/
import Derived.Test.YtopajipagacmkaaSlotHolds
namespace Go.Proofs.Ytopajipagacmkaa
open Go.RowKit
set_option linter.unusedVariables false

def fourN : Nat → Nat := fun j => if j = 0 then 4 else 0
def shS1 : SS := writeS (newSS noneS) 1 fourN 3
theorem shE1 : writeE (newSS noneS) 1 = 0 := by kernel_rfl
theorem shRe : readVS shS1 1 = #[.agg (rowOf 16 (w8 fourN)), .int .u64 3, .int .i64 0] := by kernel_rfl
theorem shNi : newestI shS1 = 1 := by kernel_rfl
theorem shNe : newestE shS1 = 0 := by kernel_rfl
theorem shEr : slEraseE shS1 1 = 0 := by kernel_rfl
theorem shLo : -1000000 < shS1.p.left ∧ shS1.p.left < 9223372036854775808 := by
  have : shS1.p.left = -1 := by kernel_rfl
  omega

set_option maxHeartbeats 1000000 in
set_option maxRecDepth 8000 in
theorem shown11_any (w : World) :
    Calls Try.prog 8 #[] w fun e w' => e = .returned (.bool true) ∧ Below w.heap.size w w' := by
  have NP := Lib.hid (newPower_any w)
  go_enter Try.func8, Try.ntmps8
  go_wp2_with fail
  refine NP.out.mono ?_
  rintro e w1 ⟨rfl, r1, b1⟩
  have NS := Lib.hid (slotNew_any w.heap.size w.heap.size noneS w1 (Nat.le_refl _) r1 (by decide) (by decide))
  clear NP r1
  go_wp2_with fail
  refine NS.out.mono ?_
  rintro e w2 ⟨rfl, s2, b2⟩
  have b3 := b1.trans (b2.mono b1.size)
  clear NS b1 b2
  generalize w1.heap.size = sp at *
  have Wr := Lib.hid (slotWrite_any w.heap.size w.heap.size sp _ w2 s2 1 fourN 3 (by decide) (by decide))
  go_wp2_with (refine wpList_unguard rfl ?_; refine wpList_buildTo rfl 31 _ rfl _ rfl (rowOf 16 (w8 fourN)) (by kernel_rfl) ?_)
  refine Wr.out.mono ?_
  rintro e w4 ⟨he, s4, g4⟩
  obtain rfl : e = .returned (.int .i64 0) := he.trans (by rw [shE1]; rfl)
  have b4 := b3.trans (s2.out.under g4 b3.size)
  change Hid (Sl _ _ _ _ shS1) at s4
  clear Wr s2 b3 g4 he
  have R := Lib.hid (slotRead_any w.heap.size w.heap.size sp shS1 w4 s4 1)
  rw [shRe] at R
  go_wp2_with fail
  refine R.out.mono ?_
  rintro e w5 ⟨rfl, b5⟩
  replace s4 := Lib.hid (s4.out.after b5)
  replace b4 := b4.trans (b5.mono b4.size)
  clear R b5
  have z5 := Lib.hid (RowAt.new w5 31 (rowOf 16 (w8 zeroN)))
  have r6 := Lib.hid (RowAt.new w5 31 (rowOf 16 (w8 fourN)))
  have b6 : Below w5.heap.size w5 (w5.alloc (.cells (rowOf 16 (w8 fourN)) 31)) := (Below.refl _ _).alloc (Nat.le_refl _) _
  have s6 := Lib.hid (s4.out.after b6)
  replace b4 := b4.trans (b6.mono b4.size)
  have NW := Lib.hid (slotNewest_any w.heap.size w.heap.size sp shS1 _ s6)
  rw [shNi, shNe] at NW
  clear s4 b6
  go_wp2_with (refine wpList_store_row rfl 31 _ _ rfl w5.heap.size (rowOf 16 (w8 fourN)) rfl rfl 31 _ z5.out (info_key _) (by rw [rowOf_size, rowOf_size]) (rowOf_cells8 _ _) ?_; rw [World.setRow_alloc_new]; generalize w5.alloc (.cells (rowOf 16 (w8 fourN)) 31) = w6 at *)
  refine NW.out.mono ?_
  rintro e w7 ⟨rfl, b7⟩
  replace s6 := Lib.hid (s6.out.after b7)
  replace r6 := Lib.hid (r6.out.below b7 r6.out.lt)
  replace b4 := b4.trans (b7.mono b4.size)
  clear NW b7 z5
  have E := Lib.hid (slotErase_any w.heap.size w.heap.size sp shS1 w7 s6 1 shLo.1 shLo.2)
  go_wp2_with (first | (refine wpList_load_row rfl 31 _ rfl w5.heap.size rfl 31 _ (0, 0) _ r6.out Try.underlying31 rfl (info_key _) ?_) | (refine wpList_buildTo rfl 31 _ rfl _ rfl (rowOf 16 (w8 fourN)) (by kernel_rfl) ?_) | (refine wpList_known rfl (run_eql_key2 fourN fourN true (sameK_rfl _) rfl rfl rfl _) ?_))
  refine E.out.mono ?_
  rintro e w8 ⟨he, s8, g8⟩
  obtain rfl : e = .returned (.int .i64 0) := he.trans (by rw [shEr]; rfl)
  have b8 := b4.trans (s6.out.under g8 b4.size)
  clear E s6 b4 g8 he s8 r6
  go_wp2
  go_ret
  exact ⟨rfl, b8⟩

end Go.Proofs.Ytopajipagacmkaa
