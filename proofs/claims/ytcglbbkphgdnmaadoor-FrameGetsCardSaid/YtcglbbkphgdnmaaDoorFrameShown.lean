/-
  Contract: shown.
-/
import Derived.Test.YtcglbbkphgdnmaaDoorFrameGet
import Derived.Test.YtcglbbkphgdnmaaDoorFramePut
namespace Go.Proofs.YtcglbbkphgdnmaaDoor
open Go.RowKit
set_option linter.unusedVariables false

/-- What was put is got. -/
theorem got_page (k n : Nat) (T : List UInt8) (h0 : k ≠ 0) (hk : k < 256) (hn : n < 18446744073709551616) (h : T.length ≤ 229) :
    gotV (pageL k n T) = .agg #[.int .u8 (k : Int), .int .u64 (n : Int), .string (bs T)] ∧ gotE (pageL k n T) = 0 := by
  unfold gotV gotE
  rw [okB_page k n T h0 hk hn h, if_pos rfl, if_pos rfl, kindL_page k n T hk, seqL_page k n T hn, textL_page k n T h]
  exact ⟨rfl, rfl⟩

set_option maxHeartbeats 400000 in
set_option maxRecDepth 8000 in
theorem room_any (w : World) : Calls Tryd.prog 11 #[] w fun e w' => e = .returned (.int .i64 229) ∧ w' = w := by
  go_enter Tryd.func11, Tryd.ntmps11
  go_wp2
  go_ret
  exact ⟨rfl, rfl⟩

set_option maxHeartbeats 400000 in
set_option maxRecDepth 8000 in
theorem shown12_any (w : World) (hk : Hid (KRow w)) :
    Calls Tryd.prog 6 #[] w fun e w' => e = .returned (.bool true) ∧ Below w.heap.size w w' := by
  have S1 : Hid (Calls Tryd.prog 7 #[.agg #[.int .u8 2, .int .u64 5, .string ⟨#[97, 98, 99]⟩]] w fun e w' => e = .returned (.tuple #[.string (bs (pageL 2 5 [97, 98, 99])), .int .i64 0]) ∧ Below w.heap.size w w') :=
    put_any 2 5 (by decide) (by unfold Hid; decide) ⟨#[97, 98, 99]⟩ (by decide) w hk
  have S2 : Hid (∀ w', Below w.heap.size w w' → Calls Tryd.prog 9 #[.string (bs (pageL 2 5 [97, 98, 99]))] w' fun e w'' => e = .returned (.tuple #[.agg #[.int .u8 2, .int .u64 5, .string ⟨#[97, 98, 99]⟩], .int .i64 0]) ∧ Below w'.heap.size w' w'') := fun w' hw => by
    have h := get_list (pageL 2 5 [97, 98, 99]) (by rw [pageL_length (by decide)]; decide) w' (hk.out.below hw hk.out.1 hw.size)
    rw [(got_page 2 5 [97, 98, 99] (by decide) (by decide) (by decide) (by decide)).1, (got_page 2 5 [97, 98, 99] (by decide) (by decide) (by decide) (by decide)).2] at h
    exact h
  have zs : (bs (pageL 2 5 [97, 98, 99])).size = 256 := by rw [bs_size, pageL_length (by decide)]
  generalize bs (pageL 2 5 [97, 98, 99]) = s at *
  clear hk
  go_enter Tryd.func6, Tryd.ntmps6
  go_wp2_with fail
  refine S1.out.mono ?_
  rintro e w1 ⟨rfl, b1⟩
  go_wp2_with fail
  refine (S2.out w1 b1).mono ?_
  rintro e w2 ⟨rfl, hb⟩
  replace b1 : Below w.heap.size w w2 := b1.trans (hb.mono b1.size)
  clear hb S1 S2
  go_wp2_with (first | (refine wpList_store_row rfl 24 _ _ rfl w2.heap.size #[.int .u8 2, .int .u64 5, .string ⟨#[97, 98, 99]⟩] rfl rfl 24 _ (RowAt.new _ _ _) (size_frame _ rfl) rfl (by simp [Value.oneCell']) ?_; rw [World.setRow_alloc_new]; have r := RowAt.new w2 24 #[.int .u8 2, .int .u64 5, .string ⟨#[97, 98, 99]⟩]; have b3 := b1.alloc b1.size (.cells #[.int .u8 2, .int .u64 5, .string ⟨#[97, 98, 99]⟩] 24); generalize w2.alloc _ = w3 at *; have c0 : w3.cell? ⟨w2.heap.size, 0, none⟩ = some (.int .u8 2) := r.one 0 rfl; have c1 : w3.cell? ⟨w2.heap.size, 1, none⟩ = some (.int .u64 5) := r.one 1 rfl; have c2 : w3.cell? ⟨w2.heap.size, 2, none⟩ = some (.string ⟨#[97, 98, 99]⟩) := r.one 2 rfl))
  refine (room_any w3).mono ?_
  rintro e w4 ⟨rfl, rfl⟩
  go_wp2
  go_ret
  exact ⟨rfl, b3⟩

end Go.Proofs.YtcglbbkphgdnmaaDoor
