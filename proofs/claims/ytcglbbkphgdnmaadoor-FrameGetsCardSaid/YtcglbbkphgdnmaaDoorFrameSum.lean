/-
  Contract: sumOf, the first half of a sum, as a text.
-/
import Derived.Test.YtcglbbkphgdnmaaDoorFrameMath
import Derived.Test.YtcglbbkphgdnmaaDoorShaOne
import Derived.Test.YtcglbbkphgdnmaaDoorKeys
namespace Go.Proofs.YtcglbbkphgdnmaaDoor
open Go.RowKit

set_option maxHeartbeats 400000 in
set_option maxRecDepth 8000 in
theorem sumOf_any (s : ByteArray) (hs : s.size ≤ 100000) (w : World) (hk : Hid (KRow w)) :
    Calls Tryd.prog 14 #[.string s] w fun e w' => e = .returned (.string (bs (sumL s.data.toList))) ∧ Below w.heap.size w w' := by
  have S := Lib.hid (sum_one s hs w hk.out)
  have E : Hid (sumL s.data.toList = listB 16 (sumN s.data.toList)) := rfl
  have hY := Lib.hid (sumN_bytes s.data.toList)
  generalize sumN s.data.toList = y at *
  go_enter Tryd.func14, Tryd.ntmps14
  go_wp2_with fail
  refine S.out.mono ?_
  rintro e w1 ⟨rfl, hb1⟩
  go_wp2_with fail
  refine (short_any y w1).mono ?_
  rintro e w2 ⟨rfl, hb2⟩
  have b2 : Below w.heap.size w w2 := hb1.trans (hb2.mono hb1.size)
  clear hb1 hb2 S hk
  go_wp2_with (refine wpList_store_row rfl 70 _ _ rfl w2.heap.size (rowOf 16 (w8 y)) rfl rfl 70 _ (RowAt.new _ _ _) (info_key _) (by rw [rowOf_size]; rfl) (rowOf_cells8 _ _) ?_; rw [World.setRow_alloc_new]; have r1 := RowAt.new w2 70 (rowOf 16 (w8 y)); have b3 := b2.alloc b2.size (.cells (rowOf 16 (w8 y)) 70); generalize w2.alloc _ = w3 at *; have sl := run_slice_all (P := Tryd.prog) Tryd.underlying70 sz8 w2.heap.size; have cv := block_string (P := Tryd.prog) (src := 42) (dst := 9) (cap := 16) hY.out Tryd.underlying42 Tryd.underlying5 Tryd.underlying9 r1; clear r1)
  go_ret
  exact ⟨by rw [E.out]; rfl, b3⟩

end Go.Proofs.YtcglbbkphgdnmaaDoor
