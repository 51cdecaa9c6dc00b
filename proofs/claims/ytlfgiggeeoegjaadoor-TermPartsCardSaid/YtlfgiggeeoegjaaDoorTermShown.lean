/-
  Contract: shown: a lock has its text.
-/
import Derived.Test.YtlfgiggeeoegjaaDoorTermTextOf
namespace Go.Proofs.YtlfgiggeeoegjaaDoor
open Go.RowKit
set_option linter.unusedVariables false

/-- The three nodes that are shown. -/
def shownK : Nds := fun i j => (([[1, 1, 0], [0, 2, 0], [3, 0, 1]] : List (List Int)).getD i []).getD j 0

theorem shown_may : mayB shownK 3 = true := by decide
theorem shown_place : placeB shownK 3 ((2 : Nat) : Int) = true := by decide
theorem shown_tm : tm shownK 2 = .lock (.key 1) (.atom 2) := by kernel_rfl
theorem shown_tx : txT (.lock (.key 1) (.atom 2)) = [123, 97, 50, 125, 107, 49] := by
  simp [txT, Lib.decDigits_one]
theorem shown_text : textV shownK 3 2 = ⟨#[123, 97, 50, 125, 107, 49]⟩ := by
  have hz : sizeV shownK 3 2 = 6 := by
    have := sizeV_yes shown_place
    rw [show ((2 : Nat) : Int) = 2 from rfl] at this
    rw [this]
    unfold szN szT lnT
    rw [shown_tm, shown_tx]
    rfl
  unfold textV
  rw [hz, if_neg (by decide)]
  show bs (txT (tm shownK 2)) = _
  rw [shown_tm, shown_tx]
  rfl

theorem sees_shown (w : World) : SeesN (w.alloc (.cells #[.int .i64 1, .int .i64 1, .int .i64 0, .int .i64 0, .int .i64 2, .int .i64 0, .int .i64 3, .int .i64 0, .int .i64 1] 41)) (some ⟨w.heap.size, 0, none⟩) 3 shownK := by
  intro m hm
  refine ⟨_, rfl, by simp, ?_⟩
  rw [addr_add, Nat.zero_add]
  have := World.cell?_alloc_mark w #[.int .i64 1, .int .i64 1, .int .i64 0, .int .i64 0, .int .i64 2, .int .i64 0, .int .i64 3, .int .i64 0, .int .i64 1] 41 (0, 0) m
  rw [this]
  match m, hm with
  | 0, _ => rfl
  | 1, _ => rfl
  | 2, _ => rfl
  | 3, _ => rfl
  | 4, _ => rfl
  | 5, _ => rfl
  | 6, _ => rfl
  | 7, _ => rfl
  | 8, _ => rfl

set_option maxHeartbeats 1000000 in
set_option maxRecDepth 8000 in
theorem shown8_any (w : World) (hp : Hid (PTab w.heap.size w)) :
    Calls Tryd.prog 7 #[] w fun e w' => e = .returned (.bool true) ∧ Below w.heap.size w w' := by
  have b0 : Below w.heap.size w (w.alloc (.cells #[.int .i64 1, .int .i64 1, .int .i64 0, .int .i64 0, .int .i64 2, .int .i64 0, .int .i64 3, .int .i64 0, .int .i64 1] 41)) := (Below.refl _ _).alloc (Nat.le_refl _) _
  have s0 := Lib.hid (sees_shown w)
  have M := may_any shownK 3 (some ⟨w.heap.size, 0, none⟩) 3 (by decide) _ s0
  rw [shown_may] at M
  replace M := Lib.hid M
  go_enter Tryd.func7, Tryd.ntmps7
  go_wp2_with fail
  generalize w.alloc (.cells #[.int .i64 1, .int .i64 1, .int .i64 0, .int .i64 0, .int .i64 2, .int .i64 0, .int .i64 3, .int .i64 0, .int .i64 1] 41) = w1 at *
  refine M.out.mono ?_
  rintro e w2 ⟨rfl, hb2⟩
  have b2 := b0.trans (hb2.mono b0.size)
  have X := text_any shownK 3 2 (some ⟨w.heap.size, 0, none⟩) 3 (by decide) w2 (s0.out.after hb2) ((hp.out.on b2).mono b2.size)
  rw [shown_text] at X
  replace X := Lib.hid X
  clear M hb2 b0 s0
  go_wp2_with fail
  refine X.out.mono ?_
  rintro e w3 ⟨rfl, hb3⟩
  have b3 := b2.trans (hb3.mono b2.size)
  go_wp2
  go_ret
  exact ⟨rfl, b3⟩

end Go.Proofs.YtlfgiggeeoegjaaDoor
