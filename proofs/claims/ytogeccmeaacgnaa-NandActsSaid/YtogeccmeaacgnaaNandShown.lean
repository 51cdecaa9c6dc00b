/-
  Contract: shown of layer 10.
-/
import Derived.Test.YtogeccmeaacgnaaNandNew
import Derived.Test.YtogeccmeaacgnaaNandLow
import Derived.Test.YtogeccmeaacgnaaNandRead
namespace Go.Proofs.Ytogeccmeaacgnaa
open Go.RowKit
set_option linter.unusedVariables false

/-- A chip just made: up, no fuse. -/
def freshS (r : Int) (bd : Nat → Bool) : St := newS true 0 0 0 r bd
theorem freshS_low (r : Int) (bd : Nat → Bool) : LowT (freshS r bd) 0 := ⟨Nat.le_refl _, Nat.le_refl _, fun _ => Nat.le_refl _, Nat.le_refl _, Int.le_refl _, by show (0 : Int) < _; decide⟩
def shS1 : St := progS 2 2 (freshS 5 fun _ => false) 0 1 ⟨#[97, 98]⟩
theorem shS1_low : LowT shS1 1 := (freshS_low _ _).prog _ _ _ _ _
theorem shE1 : progE 2 2 (freshS 5 fun _ => false) 0 1 ⟨#[97, 98]⟩ = 0 := by kernel_rfl
theorem shE2 : progE 2 2 shS1 0 1 ⟨#[]⟩ = 100 := by kernel_rfl
theorem shR : readV 2 2 shS1 0 1 = #[.string (pageT ⟨#[97, 98]⟩ 9223372036854775807 0), .bool true, .int .i64 0] := by kernel_rfl
theorem shX : eraseE 2 shS1 0 = 0 := by kernel_rfl
theorem shW : (eraseS 2 shS1 0).wear 0 = 1 := by kernel_rfl
theorem shT : (pageT ⟨#[97, 98]⟩ 9223372036854775807 0).extract 0 2 = ⟨#[97, 98]⟩ := by kernel_rfl

set_option maxHeartbeats 4000000 in
set_option maxRecDepth 8000 in
theorem shown10_any (w : World) : Calls Try.prog 8 #[] w fun e w' => e = .returned (.bool true) ∧ Below w.heap.size w w' := by
  have NP := Lib.hid (newPower_any w)
  go_enter Try.func8, Try.ntmps8
  go_wp2_with fail
  refine NP.out.mono ?_
  rintro e w1 ⟨rfl, r1, b1⟩
  have NW := Lib.hid (new_yes w.heap.size w.heap.size 2 2 5 true 0 0 0 none 0 0 (fun _ => 0) w1 r1 (SeesV.nil _ _ _) (Nat.le_refl _) (Lib.hid (by decide)) (Lib.hid (by decide)) (by decide) (by decide) (by decide) (by decide) (by decide) (by decide))
  clear NP r1
  go_wp2_with fail
  refine NW.out.mono ?_
  rintro e w2 ⟨L, rfl, hpp, hn, hm, h2, b2⟩
  change Hid (Ch w.heap.size w2 L (freshS 5 fun _ => false) _) at h2
  have b3 := b1.trans (b2.mono b1.size)
  clear NW b1 b2
  have P1 := Lib.hid (prog_any w.heap.size w2 L _ _ h2 0 1 ⟨#[97, 98]⟩ ((freshS_low _ _).low (by decide)))
  rw [hn, hm, shE1] at P1
  change Hid (Calls _ _ _ _ fun e w' => _ ∧ ∃ hv', Hid (Ch _ w' L shS1 hv') ∧ _) at P1
  go_wp2_with fail
  refine P1.out.mono ?_
  rintro e w4 ⟨rfl, hv4, h4, g4⟩
  have b4 := b3.trans (g4.under h2.out b3.size)
  clear P1 h2 b3 g4
  have P2 := Lib.hid (prog_any w.heap.size w4 L _ _ h4 0 1 ⟨#[]⟩ (shS1_low.low (by decide)))
  have e2 : progE L.n L.m shS1 0 1 ⟨#[]⟩ = 100 := by rw [hn, hm]; exact shE2
  rw [progS_same (.inr (.inr e2)), e2] at P2
  go_wp2_with fail
  refine P2.out.mono ?_
  rintro e w5 ⟨rfl, hv5, h5, g5⟩
  have b5 := b4.trans (g5.under h4.out b4.size)
  clear P2 h4 b4 g5
  have R := Lib.hid (read_any w.heap.size w5 L _ _ h5 0 1)
  rw [hn, hm, shR] at R
  go_wp2_with fail
  refine R.out.mono ?_
  rintro e w6 ⟨rfl, b6⟩
  have h6 := Lib.hid (h5.out.after b6)
  have b7 := b5.trans (b6.mono b5.size)
  clear R b5 b6 h5
  have sz := pageT_size ⟨#[97, 98]⟩ 9223372036854775807 0
  have sT := shT
  have X := Lib.hid (erase_any w.heap.size w6 L _ _ h6 0 (shS1_low.low (by decide)))
  rw [hn, shX] at X
  generalize pageT ⟨#[97, 98]⟩ 9223372036854775807 0 = t at *
  have szI : ((t.size : Nat) : Int) = 256 := by rw [sz]; rfl
  go_wp2_with fail
  refine X.out.mono ?_
  rintro e w8 ⟨rfl, hv8, h8, g8⟩
  have b8 := b7.trans (g8.under h6.out b7.size)
  have WY := Lib.hid (wear_yes w.heap.size w8 L _ _ h8 0 (by rw [hn]; decide))
  rw [shW] at WY
  change Hid (Calls _ _ #[_, .int .i64 0] _ fun e w' => e = .returned (.int .i64 1) ∧ _) at WY
  clear X h6 b7 g8 h8 sT sz
  go_wp2_with fail
  refine WY.out.mono ?_
  rintro e w9 ⟨rfl, rfl⟩
  go_wp2
  go_ret
  exact ⟨rfl, b8⟩

end Go.Proofs.Ytogeccmeaacgnaa
