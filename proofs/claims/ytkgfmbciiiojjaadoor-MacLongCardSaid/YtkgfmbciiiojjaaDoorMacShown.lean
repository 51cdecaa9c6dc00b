/-
  Contract: shown: a tag begins and ends as it should; Same.
-/
import Derived.Test.YtkgfmbciiiojjaaDoorMacDerive
import Derived.KernelRfl
namespace Go.Proofs.YtkgfmbciiiojjaaDoor
open Go.RowKit

theorem jefeIn : listB 32 (sumN (mixL (blockN [74, 101, 102, 101]) 54 ++ [119, 104, 97, 116, 32, 100, 111, 32, 121, 97, 32, 119, 97, 110, 116, 32, 102, 111, 114, 32, 110, 111, 116, 104, 105, 110, 103, 63])) = [162, 228, 133, 134, 61, 39, 249, 216, 100, 172, 141, 128, 36, 50, 161, 237, 71, 125, 140, 76, 111, 52, 157, 22, 212, 231, 233, 23, 198, 41, 202, 215] := by kernel_rfl
theorem jefe0 : macN [74, 101, 102, 101] [119, 104, 97, 116, 32, 100, 111, 32, 121, 97, 32, 119, 97, 110, 116, 32, 102, 111, 114, 32, 110, 111, 116, 104, 105, 110, 103, 63] 0 = 91 := by
  show sumN (mixL (blockN [74, 101, 102, 101]) 92 ++ listB 32 (sumN (mixL (blockN [74, 101, 102, 101]) 54 ++ [119, 104, 97, 116, 32, 100, 111, 32, 121, 97, 32, 119, 97, 110, 116, 32, 102, 111, 114, 32, 110, 111, 116, 104, 105, 110, 103, 63]))) 0 = 91
  rw [jefeIn]
  kernel_rfl
theorem jefe1 : macN [74, 101, 102, 101] [119, 104, 97, 116, 32, 100, 111, 32, 121, 97, 32, 119, 97, 110, 116, 32, 102, 111, 114, 32, 110, 111, 116, 104, 105, 110, 103, 63] 1 = 220 := by
  show sumN (mixL (blockN [74, 101, 102, 101]) 92 ++ listB 32 (sumN (mixL (blockN [74, 101, 102, 101]) 54 ++ [119, 104, 97, 116, 32, 100, 111, 32, 121, 97, 32, 119, 97, 110, 116, 32, 102, 111, 114, 32, 110, 111, 116, 104, 105, 110, 103, 63]))) 1 = 220
  rw [jefeIn]
  kernel_rfl
theorem jefe2 : macN [74, 101, 102, 101] [119, 104, 97, 116, 32, 100, 111, 32, 121, 97, 32, 119, 97, 110, 116, 32, 102, 111, 114, 32, 110, 111, 116, 104, 105, 110, 103, 63] 2 = 193 := by
  show sumN (mixL (blockN [74, 101, 102, 101]) 92 ++ listB 32 (sumN (mixL (blockN [74, 101, 102, 101]) 54 ++ [119, 104, 97, 116, 32, 100, 111, 32, 121, 97, 32, 119, 97, 110, 116, 32, 102, 111, 114, 32, 110, 111, 116, 104, 105, 110, 103, 63]))) 2 = 193
  rw [jefeIn]
  kernel_rfl
theorem jefe3 : macN [74, 101, 102, 101] [119, 104, 97, 116, 32, 100, 111, 32, 121, 97, 32, 119, 97, 110, 116, 32, 102, 111, 114, 32, 110, 111, 116, 104, 105, 110, 103, 63] 3 = 70 := by
  show sumN (mixL (blockN [74, 101, 102, 101]) 92 ++ listB 32 (sumN (mixL (blockN [74, 101, 102, 101]) 54 ++ [119, 104, 97, 116, 32, 100, 111, 32, 121, 97, 32, 119, 97, 110, 116, 32, 102, 111, 114, 32, 110, 111, 116, 104, 105, 110, 103, 63]))) 3 = 70
  rw [jefeIn]
  kernel_rfl
theorem jefe31 : macN [74, 101, 102, 101] [119, 104, 97, 116, 32, 100, 111, 32, 121, 97, 32, 119, 97, 110, 116, 32, 102, 111, 114, 32, 110, 111, 116, 104, 105, 110, 103, 63] 31 = 67 := by
  show sumN (mixL (blockN [74, 101, 102, 101]) 92 ++ listB 32 (sumN (mixL (blockN [74, 101, 102, 101]) 54 ++ [119, 104, 97, 116, 32, 100, 111, 32, 121, 97, 32, 119, 97, 110, 116, 32, 102, 111, 114, 32, 110, 111, 116, 104, 105, 110, 103, 63]))) 31 = 67
  rw [jefeIn]
  kernel_rfl

set_option maxHeartbeats 400000 in
set_option maxRecDepth 8000 in
theorem shown3_any (w : World) (hk : Hid (KRow w)) :
    Calls Tryd.prog 9 #[] w fun e w' => e = .returned (.bool true) ∧ Below w.heap.size w w' := by
  have rs : RowAt (w.alloc (.cells #[.string ⟨#[119, 104, 97, 116, 32, 100, 111, 32, 121, 97, 32, 119, 97, 110, 116, 32]⟩, .string ⟨#[102, 111, 114, 32, 110, 111, 116, 104, 105, 110, 103, 63]⟩] 9)) w.heap.size 9 (([⟨#[119, 104, 97, 116, 32, 100, 111, 32, 121, 97, 32, 119, 97, 110, 116, 32]⟩, ⟨#[102, 111, 114, 32, 110, 111, 116, 104, 105, 110, 103, 63]⟩] : List ByteArray).map Value.string).toArray := RowAt.new w 9 _
  have hs : Hid (Sees (w.alloc (.cells #[.string ⟨#[119, 104, 97, 116, 32, 100, 111, 32, 121, 97, 32, 119, 97, 110, 116, 32]⟩, .string ⟨#[102, 111, 114, 32, 110, 111, 116, 104, 105, 110, 103, 63]⟩] 9)) (some ⟨w.heap.size, 0, none⟩) [⟨#[119, 104, 97, 116, 32, 100, 111, 32, 121, 97, 32, 119, 97, 110, 116, 32]⟩, ⟨#[102, 111, 114, 32, 110, 111, 116, 104, 105, 110, 103, 63]⟩]) := sees_row rs
  have b0 : Below w.heap.size w (w.alloc (.cells #[.string ⟨#[119, 104, 97, 116, 32, 100, 111, 32, 121, 97, 32, 119, 97, 110, 116, 32]⟩, .string ⟨#[102, 111, 114, 32, 110, 111, 116, 104, 105, 110, 103, 63]⟩] 9)) := (Below.refl _ _).alloc (Nat.le_refl _) _
  have hk0 : Hid (KRow (w.alloc (.cells #[.string ⟨#[119, 104, 97, 116, 32, 100, 111, 32, 121, 97, 32, 119, 97, 110, 116, 32]⟩, .string ⟨#[102, 111, 114, 32, 110, 111, 116, 104, 105, 110, 103, 63]⟩] 9))) := hk.out.below b0 hk.out.1 b0.size
  have hj : Hid (joinTo [⟨#[119, 104, 97, 116, 32, 100, 111, 32, 121, 97, 32, 119, 97, 110, 116, 32]⟩, ⟨#[102, 111, 114, 32, 110, 111, 116, 104, 105, 110, 103, 63]⟩] 2 = [119, 104, 97, 116, 32, 100, 111, 32, 121, 97, 32, 119, 97, 110, 116, 32, 102, 111, 114, 32, 110, 111, 116, 104, 105, 110, 103, 63]) := rfl
  have x0 := Lib.hid jefe0
  have x1 := Lib.hid jefe1
  have x2 := Lib.hid jefe2
  have x3 := Lib.hid jefe3
  have x31 := Lib.hid jefe31
  have S0 := Lib.hid (mac_any ⟨#[74, 101, 102, 101]⟩ (by decide) (some ⟨w.heap.size, 0, none⟩) 2 (fun h => by cases h) [⟨#[119, 104, 97, 116, 32, 100, 111, 32, 121, 97, 32, 119, 97, 110, 116, 32]⟩, ⟨#[102, 111, 114, 32, 110, 111, 116, 104, 105, 110, 103, 63]⟩] (by decide) (by show (joinTo [⟨#[119, 104, 97, 116, 32, 100, 111, 32, 121, 97, 32, 119, 97, 110, 116, 32]⟩, ⟨#[102, 111, 114, 32, 110, 111, 116, 104, 105, 110, 103, 63]⟩] 2).length ≤ 500000; rw [hj.out]; decide) _ hk0 hs)
  rw [show ([⟨#[119, 104, 97, 116, 32, 100, 111, 32, 121, 97, 32, 119, 97, 110, 116, 32]⟩, ⟨#[102, 111, 114, 32, 110, 111, 116, 104, 105, 110, 103, 63]⟩] : List ByteArray).length = 2 from rfl, hj.out] at S0
  have ek : Hid (macN (⟨#[74, 101, 102, 101]⟩ : ByteArray).data.toList [119, 104, 97, 116, 32, 100, 111, 32, 121, 97, 32, 119, 97, 110, 116, 32, 102, 111, 114, 32, 110, 111, 116, 104, 105, 110, 103, 63] = macN [74, 101, 102, 101] [119, 104, 97, 116, 32, 100, 111, 32, 121, 97, 32, 119, 97, 110, 116, 32, 102, 111, 114, 32, 110, 111, 116, 104, 105, 110, 103, 63]) := rfl
  rw [ek.out] at S0
  clear ek rs
  generalize macN [74, 101, 102, 101] [119, 104, 97, 116, 32, 100, 111, 32, 121, 97, 32, 119, 97, 110, 116, 32, 102, 111, 114, 32, 110, 111, 116, 104, 105, 110, 103, 63] = y at *
  clear hs hk0
  go_enter Tryd.func9, Tryd.ntmps9
  go_wp2_with fail
  refine S0.out.mono ?_
  rintro e w1 ⟨rfl, hb1⟩
  have b1 : Below w.heap.size w w1 := b0.trans (hb1.mono b0.size)
  clear hb1 b0 S0
  go_wp2_with (refine wpList_store_row rfl 27 _ _ rfl w1.heap.size (rowOf 32 (w8 y)) rfl rfl 27 _ (RowAt.new _ _ _) (info_hash _) (by rw [rowOf_size]; rfl) (rowOf_cells8 _ _) ?_; rw [World.setRow_alloc_new]; have r1 := RowAt.new w1 27 (rowOf 32 (w8 y)); have b2 := b1.alloc b1.size (.cells (rowOf 32 (w8 y)) 27); generalize w1.alloc _ = w2 at *; have c0 := r1.cell 0 (by decide); have c1 := r1.cell 1 (by decide); have c2 := r1.cell 2 (by decide); have c3 := r1.cell 3 (by decide); have c31 := r1.cell 31 (by decide); clear r1; unfold w8 at c0 c1 c2 c3 c31; rw [x0.out] at c0; rw [x1.out] at c1; rw [x2.out] at c2; rw [x3.out] at c3; rw [x31.out] at c31)
  go_ret
  exact ⟨rfl, b2⟩

/-- Are two texts the same? As the walk tells it. -/
theorem same_any (a b : ByteArray) (w : World) :
    Calls Tryd.prog 15 #[.string a, .string b] w fun e w' => e = .returned (.bool (a.toList == b.toList)) ∧ w' = w := by
  go_enter Tryd.func15, Tryd.ntmps15
  go_wp2
  go_ret
  exact ⟨rfl, rfl⟩

end Go.Proofs.YtkgfmbciiiojjaaDoor
