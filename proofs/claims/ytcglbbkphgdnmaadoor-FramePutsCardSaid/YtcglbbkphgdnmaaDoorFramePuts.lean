/-
  The walk of the law FramePuts.
-/
import Derived.Test.YtcglbbkphgdnmaaDoorFrameShown
import Derived.Test.YtcglbbkphgdnmaaDoorFrameRefPut
namespace Go.Proofs.YtcglbbkphgdnmaaDoor
open Go.RowKit
set_option linter.unusedVariables false

/-- The three ways of Put. -/
theorem put_ways (k n : Nat) (t : ByteArray) : (putS k n t = ⟨#[]⟩ ∧ (putE k t = 1 ∨ putE k t = 11)) ∨ (k ≠ 0 ∧ t.size ≤ 229 ∧ putS k n t = bs (pageL k n t.data.toList) ∧ putE k t = 0) := by
  unfold putS putE
  by_cases h0 : k = 0
  · rw [if_pos h0, if_pos h0]
    exact .inl ⟨rfl, .inl rfl⟩
  · rw [if_neg h0, if_neg h0]
    by_cases h1 : 229 < t.size
    · rw [if_pos h1, if_pos h1]
      exact .inl ⟨rfl, .inr rfl⟩
    · rw [if_neg h1, if_neg h1]
      exact .inr ⟨h0, by omega, rfl, rfl⟩

set_option maxHeartbeats 1000000 in
set_option maxRecDepth 8000 in
theorem framePuts_walk (k n : Nat) (t : ByteArray) (hk : Hid (k < 256)) (hn : Hid (n < 18446744073709551616)) (w : World) (hkr : Hid (KRow w)) :
    Calls Tryd.prog 3 #[.agg #[.int .u8 (k : Int), .int .u64 (n : Int), .string t]] w fun e w' => e = .returned (.bool true) ∧ Below w.heap.size w w' := by
  have Sh : Hid (∀ w', Below w.heap.size w w' → Calls Tryd.prog 6 #[] w' fun e w'' => e = .returned (.bool true) ∧ Below w'.heap.size w' w'') := fun w' hw => shown12_any w' (hkr.out.below hw hkr.out.1 hw.size)
  have r := Lib.hid (RowAt.new w 24 #[.int .u8 (k : Int), .int .u64 (n : Int), .string t])
  have b : Below w.heap.size w (w.alloc (.cells #[.int .u8 (k : Int), .int .u64 (n : Int), .string t] 24)) := (Below.refl _ _).alloc (Nat.le_refl _) _
  cases hd : decide ((400 : Int) < (t.size : Int)) with
  | true =>
    go_enter Tryd.func3, Tryd.ntmps3
    go_wp2_with fail
    refine (Sh.out _ b).mono ?_
    rintro e w1 ⟨rfl, hb⟩
    replace b : Below w.heap.size w w1 := b.trans (hb.mono b.size)
    clear hb Sh r
    go_wp2
    go_ret
    exact ⟨rfl, b⟩
  | false =>
    have ht : Hid (t.size ≤ 400) := by
      unfold Hid
      rw [decide_eq_false_iff_not] at hd
      omega
    have Pu : Hid (∀ w', Below w.heap.size w w' → Calls Tryd.prog 7 #[.agg #[.int .u8 (k : Int), .int .u64 (n : Int), .string t]] w' fun e w'' => e = .returned (.tuple #[.string (putS k n t), .int .i64 (putE k t : Int)]) ∧ Below w'.heap.size w' w'') :=
      fun w' hw => put_any k n hk.out hn t (by have := ht.out; omega) w' (hkr.out.below hw hkr.out.1 hw.size)
    have Rp : Hid (∀ w', Calls Tryd.prog 8 #[.agg #[.int .u8 (k : Int), .int .u64 (n : Int), .string t]] w' fun e w'' => e = .returned (.tuple #[.string (putS k n t), .int .i64 (putE k t : Int)]) ∧ Below w'.heap.size w' w'') :=
      fun w' => refPut_any k n hk.out hn t (by have := ht.out; omega) w'
    have hw := Lib.hid (put_ways k n t)
    generalize putS k n t = S at *
    generalize putE k t = E at *
    go_enter Tryd.func3, Tryd.ntmps3
    go_wp2_with fail
    refine (Sh.out _ b).mono ?_
    rintro e w1 ⟨rfl, hb⟩
    replace r := Lib.hid (r.out.below hb r.out.lt)
    replace b : Below w.heap.size w w1 := b.trans (hb.mono b.size)
    clear hb Sh
    go_wp2_with (refine wpList_load_row rfl 24 _ rfl w.heap.size rfl 24 _ (0, 0) _ r.out Tryd.underlying24 rfl (size_frame _ rfl) ?_)
    refine (Pu.out _ b).mono ?_
    rintro e w2 ⟨rfl, hb⟩
    replace r := Lib.hid (r.out.below hb r.out.lt)
    replace b : Below w.heap.size w w2 := b.trans (hb.mono b.size)
    clear hb Pu
    go_wp2_with (refine wpList_load_row rfl 24 _ rfl w.heap.size rfl 24 _ (0, 0) _ r.out Tryd.underlying24 rfl (size_frame _ rfl) ?_)
    refine (Rp.out _).mono ?_
    rintro e w3 ⟨rfl, hb⟩
    replace r := Lib.hid (r.out.below hb r.out.lt)
    replace b : Below w.heap.size w w3 := b.trans (hb.mono b.size)
    clear hb Rp
    rcases hw.out with ⟨rfl, h | h⟩ | ⟨h0, h1, rfl, rfl⟩
    · subst h
      clear hw r
      go_wp2
      go_ret
      exact ⟨rfl, b⟩
    · subst h
      clear hw r
      go_wp2
      go_ret
      exact ⟨rfl, b⟩
    · have G : Hid (Calls Tryd.prog 9 #[.string (bs (pageL k n t.data.toList))] w3 fun e w'' => e = .returned (.tuple #[.agg #[.int .u8 (k : Int), .int .u64 (n : Int), .string t], .int .i64 0]) ∧ Below w3.heap.size w3 w'') := by
        have hl : t.data.toList.length ≤ 229 := by rw [ba_size]; exact h1
        have h := get_list (pageL k n t.data.toList) (by rw [pageL_length hl]; decide) w3 (hkr.out.below b hkr.out.1 b.size)
        rw [(got_page k n t.data.toList h0 hk.out hn.out hl).1, (got_page k n t.data.toList h0 hk.out hn.out hl).2, bs_data] at h
        exact h
      clear hw h0 h1 hd ht
      generalize bs (pageL k n t.data.toList) = S at *
      go_wp2_with fail
      refine G.out.mono ?_
      rintro e w4 ⟨rfl, hb⟩
      replace r := Lib.hid (r.out.below hb r.out.lt)
      replace b : Below w.heap.size w w4 := b.trans (hb.mono b.size)
      clear hb G
      go_wp2_with (first | (refine wpList_store_row rfl 24 _ _ rfl w4.heap.size #[.int .u8 (k : Int), .int .u64 (n : Int), .string t] rfl rfl 24 _ (RowAt.new _ _ _) (size_frame _ rfl) rfl (by simp [Value.oneCell']) ?_; rw [World.setRow_alloc_new]; have q := RowAt.new w4 24 #[.int .u8 (k : Int), .int .u64 (n : Int), .string t]; replace r := r.out.alloc (.cells #[.int .u8 (k : Int), .int .u64 (n : Int), .string t] 24); replace b := b.alloc b.size (.cells #[.int .u8 (k : Int), .int .u64 (n : Int), .string t] 24); generalize w4.alloc _ = w5 at *; have c0 : w5.cell? ⟨w4.heap.size, 0, none⟩ = some (.int .u8 (k : Int)) := q.one 0 rfl; have c1 : w5.cell? ⟨w4.heap.size, 1, none⟩ = some (.int .u64 (n : Int)) := q.one 1 rfl; have c2 : w5.cell? ⟨w4.heap.size, 2, none⟩ = some (.string t) := q.one 2 rfl; have c3 : w5.cell? ⟨w.heap.size, 0, none⟩ = some (.int .u8 (k : Int)) := r.one 0 rfl; have c4 : w5.cell? ⟨w.heap.size, 1, none⟩ = some (.int .u64 (n : Int)) := r.one 1 rfl; have c5 : w5.cell? ⟨w.heap.size, 2, none⟩ = some (.string t) := r.one 2 rfl))
      go_ret
      exact ⟨rfl, b⟩

end Go.Proofs.YtcglbbkphgdnmaaDoor
