/-
  The walk of the law FrameGets.
-/
import Derived.Test.YtcglbbkphgdnmaaDoorFrameShown
import Derived.Test.YtcglbbkphgdnmaaDoorFrameRefGet
namespace Go.Proofs.YtcglbbkphgdnmaaDoor
open Go.RowKit
set_option linter.unusedVariables false

theorem got_parts (P : List UInt8) : ∃ (k n : Nat) (T : ByteArray), gotV P = .agg #[.int .u8 (k : Int), .int .u64 (n : Int), .string T] := by
  unfold gotV
  split
  · exact ⟨_, _, _, rfl⟩
  · exact ⟨0, 0, ByteArray.empty, rfl⟩

set_option maxHeartbeats 1000000 in
set_option maxRecDepth 8000 in
theorem frameGets_walk (s : ByteArray) (hs0 : s.size ≤ maxLen) (w : World) (hkr : Hid (KRow w)) :
    Calls Tryd.prog 4 #[.string s] w fun e w' => e = .returned (.bool true) ∧ Below w.heap.size w w' := by
  have Sh : Hid (∀ w', Below w.heap.size w w' → Calls Tryd.prog 6 #[] w' fun e w'' => e = .returned (.bool true) ∧ Below w'.heap.size w' w'') := fun w' hw => shown12_any w' (hkr.out.below hw hkr.out.1 hw.size)
  cases hd : decide ((600 : Int) < (s.size : Int)) with
  | true =>
    go_enter Tryd.func4, Tryd.ntmps4
    go_wp2_with fail
    refine (Sh.out _ (Below.refl _ _)).mono ?_
    rintro e w1 ⟨rfl, hb⟩
    clear Sh
    go_wp2
    go_ret
    exact ⟨rfl, hb⟩
  | false =>
    have ht : s.size ≤ 600 := by
      rw [decide_eq_false_iff_not] at hd
      omega
    have Ge : Hid (∀ w', Below w.heap.size w w' → Calls Tryd.prog 9 #[.string s] w' fun e w'' => e = .returned (.tuple #[gotV s.data.toList, .int .i64 (gotE s.data.toList)]) ∧ Below w'.heap.size w' w'') :=
      fun w' hw => get_any s (by omega) w' (hkr.out.below hw hkr.out.1 hw.size)
    have Rg : Hid (∀ w', Calls Tryd.prog 10 #[.string s] w' fun e w'' => e = .returned (.tuple #[gotV s.data.toList, .int .i64 (gotE s.data.toList)]) ∧ Below w'.heap.size w' w'') :=
      fun w' => refGet_any s (by omega) w'
    obtain ⟨k, n, T, hV⟩ := got_parts s.data.toList
    rw [hV] at Ge Rg
    clear hV
    generalize gotE s.data.toList = E at *
    go_enter Tryd.func4, Tryd.ntmps4
    go_wp2_with fail
    refine (Sh.out _ (Below.refl _ _)).mono ?_
    rintro e w1 ⟨rfl, b⟩
    clear Sh
    go_wp2_with fail
    refine (Ge.out _ b).mono ?_
    rintro e w2 ⟨rfl, hb⟩
    replace b : Below w.heap.size w w2 := b.trans (hb.mono b.size)
    clear hb Ge
    go_wp2_with (refine wpList_store_row rfl 24 _ _ rfl w2.heap.size #[.int .u8 (k : Int), .int .u64 (n : Int), .string T] rfl rfl 24 _ (RowAt.new _ _ _) (size_frame _ rfl) rfl (by simp [Value.oneCell']) ?_; rw [World.setRow_alloc_new]; have r := Lib.hid (RowAt.new w2 24 #[.int .u8 (k : Int), .int .u64 (n : Int), .string T]); replace b := b.alloc b.size (.cells #[.int .u8 (k : Int), .int .u64 (n : Int), .string T] 24); generalize w2.alloc _ = w3 at *)
    refine (Rg.out _).mono ?_
    rintro e w4 ⟨rfl, hb⟩
    replace r := Lib.hid (r.out.below hb r.out.lt)
    replace b : Below w.heap.size w w4 := b.trans (hb.mono b.size)
    clear hb Rg
    generalize w2.heap.size = p at *
    go_wp2_with (refine wpList_store_row rfl 30 _ _ rfl w4.heap.size #[.int .u8 (k : Int), .int .u64 (n : Int), .string T] rfl rfl 30 _ (RowAt.new _ _ _) (size_refFrame _ rfl) rfl (by simp [Value.oneCell']) ?_; rw [World.setRow_alloc_new]; have q := RowAt.new w4 30 #[.int .u8 (k : Int), .int .u64 (n : Int), .string T]; replace r := r.out.alloc (.cells #[.int .u8 (k : Int), .int .u64 (n : Int), .string T] 30); replace b := b.alloc b.size (.cells #[.int .u8 (k : Int), .int .u64 (n : Int), .string T] 30); generalize w4.alloc _ = w5 at *; have c0 : w5.cell? ⟨w4.heap.size, 0, none⟩ = some (.int .u8 (k : Int)) := q.one 0 rfl; have c1 : w5.cell? ⟨w4.heap.size, 1, none⟩ = some (.int .u64 (n : Int)) := q.one 1 rfl; have c2 : w5.cell? ⟨w4.heap.size, 2, none⟩ = some (.string T) := q.one 2 rfl; have c3 : w5.cell? ⟨p, 0, none⟩ = some (.int .u8 (k : Int)) := r.one 0 rfl; have c4 : w5.cell? ⟨p, 1, none⟩ = some (.int .u64 (n : Int)) := r.one 1 rfl; have c5 : w5.cell? ⟨p, 2, none⟩ = some (.string T) := r.one 2 rfl)
    go_ret
    exact ⟨rfl, b⟩

end Go.Proofs.YtcglbbkphgdnmaaDoor
