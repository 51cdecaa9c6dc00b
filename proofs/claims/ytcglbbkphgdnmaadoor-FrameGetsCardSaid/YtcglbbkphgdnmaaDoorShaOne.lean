/-
  Sum of one text; arrays of numbers, held against each other.
-/
import Derived.Test.YtcglbbkphgdnmaaDoorShaRefSum
namespace Go.Proofs.YtcglbbkphgdnmaaDoor
open Go.RowKit

/-- A block of texts, as a slice. -/
theorem sees_row {w : World} {p : Nat} {ss : List ByteArray} (h : RowAt w p 9 (ss.map Value.string).toArray) : Sees w (some ⟨p, 0, none⟩) ss := by
  intro j hj
  refine ⟨⟨p, 0, none⟩, rfl, h.lt, ?_⟩
  have ha : (⟨p, 0, none⟩ : Addr).add j = ⟨p, j, none⟩ := by unfold Addr.add; split <;> simp_all
  rw [ha, cell_of_row w p j _ _ _ h]
  simp [List.getElem?_eq_getElem hj]

theorem Tryd.info29 : (Tryd.prog.info? 80).map (fun i => (i.zero, i.size, i.bytes)) = some (some (.int .u32 0), 1, 4) := by kernel_rfl

theorem elem32 : ∃ i, Tryd.prog.info? 80 = some i := by
  obtain ⟨i0, hi, _⟩ := info_parts Tryd.info29
  exact ⟨i0, hi⟩

theorem eq_hash (f g : Nat → Nat) (w : World) : (Op.equalIn 10000 44 (.agg (rowOf 32 (w8 f))) (.agg (rowOf 32 (w8 g)))).run Tryd.prog w = .ok ((List.range 32).all fun i => ((f i : Nat) : Int) == ((g i : Nat) : Int)) w := by
  obtain ⟨i, hi⟩ := elem8
  rw [run_equalIn_array w 9999 _ _ Tryd.underlying44 hi]
  refine eqItems_two w 9998 Tryd.underlying5 (by kernel_rfl) _ _ _ (fun j => ((f j : Nat) : Int)) (fun j => ((g j : Nat) : Int)) _ (fun i hi => ?_)
  have hc : Tryd.prog.cellsOf 5 = 1 := by kernel_rfl
  have hi2 : i < 32 := by simpa using hi
  rw [hc, Nat.mul_one, rowOf_get _ _ _ hi2, rowOf_get _ _ _ hi2]
  exact ⟨rfl, rfl⟩

theorem eq_words (f g : Nat → Nat) (w : World) : (Op.equalIn 10000 87 (.agg (rowOf 8 (w32 f))) (.agg (rowOf 8 (w32 g)))).run Tryd.prog w = .ok ((List.range 8).all fun i => ((f i : Nat) : Int) == ((g i : Nat) : Int)) w := by
  obtain ⟨i, hi⟩ := elem32
  rw [run_equalIn_array w 9999 _ _ Tryd.underlying87 hi]
  refine eqItems_two w 9998 Tryd.underlying80 (by kernel_rfl) _ _ _ (fun j => ((f j : Nat) : Int)) (fun j => ((g j : Nat) : Int)) _ (fun i hi => ?_)
  have hc : Tryd.prog.cellsOf 80 = 1 := by kernel_rfl
  have hi2 : i < 8 := by simpa using hi
  rw [hc, Nat.mul_one, rowOf_get _ _ _ hi2, rowOf_get _ _ _ hi2]
  exact ⟨rfl, rfl⟩

theorem eq_hash_same (f : Nat → Nat) (w : World) : (Op.equalIn 10000 44 (.agg (rowOf 32 (w8 f))) (.agg (rowOf 32 (w8 f)))).run Tryd.prog w = .ok true w := by
  rw [eq_hash]
  simp

theorem eq_words_same (f : Nat → Nat) (w : World) : (Op.equalIn 10000 87 (.agg (rowOf 8 (w32 f))) (.agg (rowOf 8 (w32 f)))).run Tryd.prog w = .ok true w := by
  rw [eq_words]
  simp

theorem joinTo_one (s : ByteArray) : joinTo [s] 1 = s.data.toList := by simp [joinTo]

theorem sees_one (w : World) (s : ByteArray) : Sees (w.alloc (.cells #[.string s] 9)) (some ⟨w.heap.size, 0, none⟩) [s] := sees_row (RowAt.new w 9 #[.string s])

/-- Sum of one text, in a slice of its own. -/
theorem sum_one (s : ByteArray) (hs : s.size ≤ 100000) (w : World) (hk : KRow w) :
    Calls Tryd.prog 36 #[.slice (some ⟨w.heap.size, 0, none⟩) 1 1] (w.alloc (.cells #[.string s] 9)) fun e w' => e = .returned (.agg (rowOf 32 (w8 (sumN s.data.toList)))) ∧ Below w.heap.size w w' := by
  have b0 : Below w.heap.size w (w.alloc (.cells #[.string s] 9)) := (Below.refl _ _).alloc (Nat.le_refl _) _
  have h := sum_any (some ⟨w.heap.size, 0, none⟩) 1 [s] (by simp) (by unfold Hid; show (joinTo [s] 1).length ≤ 1000000; rw [joinTo_one]; simp; omega) _ (hk.below b0 hk.1 b0.size) (sees_one w s)
  rw [show [s].length = 1 from rfl, joinTo_one] at h
  exact h.mono fun e w' ⟨he, hb⟩ => ⟨he, b0.trans (hb.mono b0.size)⟩

end Go.Proofs.YtcglbbkphgdnmaaDoor
