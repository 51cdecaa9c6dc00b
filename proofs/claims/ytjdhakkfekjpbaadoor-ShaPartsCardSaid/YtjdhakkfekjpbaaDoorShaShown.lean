/-
  Contract: shown: the sum of abc begins and ends as it should.
-/
import Derived.Test.YtjdhakkfekjpbaaDoorShaRefSum
import Derived.KernelRfl
namespace Go.Proofs.YtjdhakkfekjpbaaDoor
open Go.RowKit

theorem abc0 : sumN [97, 98, 99] 0 = 186 := by kernel_rfl
theorem abc1 : sumN [97, 98, 99] 1 = 120 := by kernel_rfl
theorem abc2 : sumN [97, 98, 99] 2 = 22 := by kernel_rfl
theorem abc3 : sumN [97, 98, 99] 3 = 191 := by kernel_rfl
theorem abc31 : sumN [97, 98, 99] 31 = 173 := by kernel_rfl

/-- A block of texts, as a slice. -/
theorem sees_row {w : World} {p : Nat} {ss : List ByteArray} (h : RowAt w p 9 (ss.map Value.string).toArray) : Sees w (some ⟨p, 0, none⟩) ss := by
  intro j hj
  refine ⟨⟨p, 0, none⟩, rfl, h.lt, ?_⟩
  have ha : (⟨p, 0, none⟩ : Addr).add j = ⟨p, j, none⟩ := by unfold Addr.add; split <;> simp_all
  rw [ha, cell_of_row w p j _ _ _ h]
  simp [List.getElem?_eq_getElem hj]

set_option maxHeartbeats 400000 in
set_option maxRecDepth 8000 in
theorem shown_any (w : World) (hk : Hid (KRow w)) :
    Calls Tryd.prog 9 #[] w fun e w' => e = .returned (.bool true) ∧ Below w.heap.size w w' := by
  have hs : Hid (Sees (w.alloc (.cells #[.string ⟨#[97]⟩, .string ⟨#[98, 99]⟩] 9)) (some ⟨w.heap.size, 0, none⟩) [⟨#[97]⟩, ⟨#[98, 99]⟩]) := sees_row (RowAt.new w 9 _)
  have b0 : Below w.heap.size w (w.alloc (.cells #[.string ⟨#[97]⟩, .string ⟨#[98, 99]⟩] 9)) := (Below.refl _ _).alloc (Nat.le_refl _) _
  have hk0 : Hid (KRow (w.alloc (.cells #[.string ⟨#[97]⟩, .string ⟨#[98, 99]⟩] 9))) := hk.out.below b0 hk.out.1 b0.size
  have hj : Hid (joinTo [⟨#[97]⟩, ⟨#[98, 99]⟩] 2 = [97, 98, 99]) := rfl
  have x0 := Lib.hid abc0
  have x1 := Lib.hid abc1
  have x2 := Lib.hid abc2
  have x3 := Lib.hid abc3
  have x31 := Lib.hid abc31
  have S0 := Lib.hid (sum_any (some ⟨w.heap.size, 0, none⟩) 2 [⟨#[97]⟩, ⟨#[98, 99]⟩] (by decide) (by show (joinTo [⟨#[97]⟩, ⟨#[98, 99]⟩] 2).length ≤ 1000000; rw [hj.out]; decide) _ hk0 hs)
  rw [show ([⟨#[97]⟩, ⟨#[98, 99]⟩] : List ByteArray).length = 2 from rfl, hj.out] at S0
  generalize sumN [97, 98, 99] = y at *
  clear hs hk0
  go_enter Tryd.func9, Tryd.ntmps9
  go_wp2_with fail
  refine S0.out.mono ?_
  rintro e w1 ⟨rfl, hb1⟩
  have b1 : Below w.heap.size w w1 := b0.trans (hb1.mono b0.size)
  clear hb1 b0 S0
  go_wp2_with (refine wpList_store_row rfl 24 _ _ rfl w1.heap.size (rowOf 32 (w8 y)) rfl rfl 24 _ (RowAt.new _ _ _) (info_hash _) (by rw [rowOf_size]; rfl) (rowOf_cells8 _ _) ?_; rw [World.setRow_alloc_new]; have r1 := RowAt.new w1 24 (rowOf 32 (w8 y)); have b2 := b1.alloc b1.size (.cells (rowOf 32 (w8 y)) 24); generalize w1.alloc _ = w2 at *; have c0 := r1.cell 0 (by decide); have c1 := r1.cell 1 (by decide); have c2 := r1.cell 2 (by decide); have c3 := r1.cell 3 (by decide); have c31 := r1.cell 31 (by decide); clear r1; unfold w8 at c0 c1 c2 c3 c31; rw [x0.out] at c0; rw [x1.out] at c1; rw [x2.out] at c2; rw [x3.out] at c3; rw [x31.out] at c31)
  go_ret
  exact ⟨rfl, b2⟩

end Go.Proofs.YtjdhakkfekjpbaaDoor
