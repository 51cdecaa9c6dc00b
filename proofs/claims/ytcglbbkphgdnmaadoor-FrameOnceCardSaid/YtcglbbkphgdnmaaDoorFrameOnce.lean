/-
  The walk of the law FrameOnce.
-/
import Derived.Test.YtcglbbkphgdnmaaDoorFramePuts
namespace Go.Proofs.YtcglbbkphgdnmaaDoor
open Go.RowKit
set_option linter.unusedVariables false

/-- Unlike frames have unlike pages. -/
theorem page_inj {k n k' n' : Nat} {T T' : List UInt8} (hk : k < 256) (hk' : k' < 256) (hn : n < 18446744073709551616) (hn' : n' < 18446744073709551616) (h : T.length ≤ 229) (h' : T'.length ≤ 229) (e : pageL k n T = pageL k' n' T') : k = k' ∧ n = n' ∧ T = T' := by
  have e1 := kindL_page k n T hk
  have e2 := seqL_page k n T hn
  have e3 := textL_page k n T h
  rw [e] at e1 e2 e3
  rw [kindL_page k' n' T' hk'] at e1
  rw [seqL_page k' n' T' hn'] at e2
  rw [textL_page k' n' T' h'] at e3
  exact ⟨e1.symm, e2.symm, e3.symm⟩

theorem list_beq_false {a b : ByteArray} (h : a.data.toList ≠ b.data.toList) : (a.toList == b.toList) = false := by
  rw [beq_eq_false_iff_ne, ByteArray.toList_eq, ByteArray.toList_eq]
  exact h

/-- Two frames, and whether they are the same, as their pages. -/
theorem two_ways (k n k' n' : Nat) (t t' : ByteArray) (hk : k < 256) (hk' : k' < 256) (hn : n < 18446744073709551616) (hn' : n' < 18446744073709551616) (h : t.size ≤ 229) (h' : t'.size ≤ 229) :
    (k = k' ∧ n = n' ∧ t = t') ∨ (((bs (pageL k n t.data.toList)).toList == (bs (pageL k' n' t'.data.toList)).toList) = false ∧ (((k : Int) == (k' : Int)) = false ∨ (k = k' ∧ ((n : Int) == (n' : Int)) = false) ∨ (k = k' ∧ n = n' ∧ (t.toList == t'.toList) = false))) := by
  have lt : t.data.toList.length ≤ 229 := by rw [ba_size]; exact h
  have lt' : t'.data.toList.length ≤ 229 := by rw [ba_size]; exact h'
  have hne : ¬ (k = k' ∧ n = n' ∧ t.data.toList = t'.data.toList) → ((bs (pageL k n t.data.toList)).toList == (bs (pageL k' n' t'.data.toList)).toList) = false := fun hh => list_beq_false fun e => hh (page_inj hk hk' hn hn' lt lt' e)
  by_cases ek : k = k'
  · by_cases en : n = n'
    · by_cases et : t.data.toList = t'.data.toList
      · exact .inl ⟨ek, en, ba_ext et⟩
      · exact .inr ⟨hne fun h => et h.2.2, .inr (.inr ⟨ek, en, list_beq_false et⟩)⟩
    · exact .inr ⟨hne fun h => en h.2.1, .inr (.inl ⟨ek, beq_eq_false_iff_ne.2 (by omega)⟩)⟩
  · exact .inr ⟨hne fun h => ek h.1, .inl (beq_eq_false_iff_ne.2 (by omega))⟩

set_option maxHeartbeats 2000000 in
set_option maxRecDepth 8000 in
theorem frameOnce_walk (k n : Nat) (t : ByteArray) (hk : Hid (k < 256)) (hn : Hid (n < 18446744073709551616)) (k' n' : Nat) (t' : ByteArray) (hk' : Hid (k' < 256)) (hn' : Hid (n' < 18446744073709551616)) (w : World) (hkr : Hid (KRow w)) :
    Calls Tryd.prog 5 #[.agg #[.int .u8 (k : Int), .int .u64 (n : Int), .string t], .agg #[.int .u8 (k' : Int), .int .u64 (n' : Int), .string t']] w fun e w' => e = .returned (.bool true) ∧ Below w.heap.size w w' := by
  have Sh : Hid (∀ w', Below w.heap.size w w' → Calls Tryd.prog 6 #[] w' fun e w'' => e = .returned (.bool true) ∧ Below w'.heap.size w' w'') := fun w' hw => shown12_any w' (hkr.out.below hw hkr.out.1 hw.size)
  obtain ⟨w2, hw2⟩ : ∃ w2, (w.alloc (.cells #[.int .u8 (k : Int), .int .u64 (n : Int), .string t] 24)).alloc (.cells #[.int .u8 (k' : Int), .int .u64 (n' : Int), .string t'] 24) = w2 := ⟨_, rfl⟩
  have b : Below w.heap.size w w2 := by rw [← hw2]; exact ((Below.refl _ _).alloc (Nat.le_refl _) _).alloc (by simp) _
  have r : RowAt w2 w.heap.size 24 #[.int .u8 (k : Int), .int .u64 (n : Int), .string t] := by rw [← hw2]; exact (RowAt.new _ _ _).alloc _
  have q : RowAt w2 (w.heap.size + 1) 24 #[.int .u8 (k' : Int), .int .u64 (n' : Int), .string t'] := by
    have := RowAt.new (w.alloc (.cells #[.int .u8 (k : Int), .int .u64 (n : Int), .string t] 24)) 24 #[.int .u8 (k' : Int), .int .u64 (n' : Int), .string t']
    rw [hw2] at this
    simpa using this
  have HW := Lib.hid hw2
  clear hw2
  replace r := Lib.hid r
  replace q := Lib.hid q
  cases hd : decide ((300 : Int) < (t.size : Int)) with
  | true =>
    go_enter Tryd.func5, Tryd.ntmps5
    go_wp2_with fail
    rw [HW.out]
    refine (Sh.out _ b).mono ?_
    rintro e w1 ⟨rfl, hb⟩
    replace b : Below w.heap.size w w1 := b.trans (hb.mono b.size)
    clear hb Sh r q HW
    go_wp2
    go_ret
    exact ⟨rfl, b⟩
  | false =>
    have ht : Hid (t.size ≤ 300) := by
      unfold Hid
      rw [decide_eq_false_iff_not] at hd
      omega
    cases hd' : decide ((300 : Int) < (t'.size : Int)) with
    | true =>
      go_enter Tryd.func5, Tryd.ntmps5
      go_wp2_with fail
      rw [HW.out]
      refine (Sh.out _ b).mono ?_
      rintro e w1 ⟨rfl, hb⟩
      replace b : Below w.heap.size w w1 := b.trans (hb.mono b.size)
      clear hb Sh r q HW
      go_wp2
      go_ret
      exact ⟨rfl, b⟩
    | false =>
      have ht' : Hid (t'.size ≤ 300) := by
        unfold Hid
        rw [decide_eq_false_iff_not] at hd'
        omega
      have P1 : Hid (∀ w', Below w.heap.size w w' → Calls Tryd.prog 7 #[.agg #[.int .u8 (k : Int), .int .u64 (n : Int), .string t]] w' fun e w'' => e = .returned (.tuple #[.string (putS k n t), .int .i64 (putE k t : Int)]) ∧ Below w'.heap.size w' w'') :=
        fun w' hw => put_any k n hk.out hn t (by have := ht.out; omega) w' (hkr.out.below hw hkr.out.1 hw.size)
      have P2 : Hid (∀ w', Below w.heap.size w w' → Calls Tryd.prog 7 #[.agg #[.int .u8 (k' : Int), .int .u64 (n' : Int), .string t']] w' fun e w'' => e = .returned (.tuple #[.string (putS k' n' t'), .int .i64 (putE k' t' : Int)]) ∧ Below w'.heap.size w' w'') :=
        fun w' hw => put_any k' n' hk'.out hn' t' (by have := ht'.out; omega) w' (hkr.out.below hw hkr.out.1 hw.size)
      have h1 := Lib.hid (put_ways k n t)
      have h2 := Lib.hid (put_ways k' n' t')
      generalize putS k n t = S at *
      generalize putE k t = E at *
      generalize putS k' n' t' = S' at *
      generalize putE k' t' = E' at *
      go_enter Tryd.func5, Tryd.ntmps5
      go_wp2_with fail
      rw [HW.out]
      refine (Sh.out _ b).mono ?_
      rintro e w3 ⟨rfl, hb⟩
      replace r := Lib.hid (r.out.below hb r.out.lt)
      replace q := Lib.hid (q.out.below hb q.out.lt)
      replace b : Below w.heap.size w w3 := b.trans (hb.mono b.size)
      clear hb Sh HW
      go_wp2_with (refine wpList_load_row rfl 24 _ rfl (w.heap.size) rfl 24 _ (0, 0) _ r.out Tryd.underlying24 rfl (size_frame _ rfl) ?_)
      refine (P1.out _ b).mono ?_
      rintro e w4 ⟨rfl, hb⟩
      replace r := Lib.hid (r.out.below hb r.out.lt)
      replace q := Lib.hid (q.out.below hb q.out.lt)
      replace b : Below w.heap.size w w4 := b.trans (hb.mono b.size)
      clear hb P1
      go_wp2_with (refine wpList_load_row rfl 24 _ rfl (w.heap.size + 1) rfl 24 _ (0, 0) _ q.out Tryd.underlying24 rfl (size_frame _ rfl) ?_)
      refine (P2.out _ b).mono ?_
      rintro e w5 ⟨rfl, hb⟩
      replace r := Lib.hid (r.out.below hb r.out.lt)
      replace q := Lib.hid (q.out.below hb q.out.lt)
      replace b : Below w.heap.size w w5 := b.trans (hb.mono b.size)
      clear hb P2
      rcases h1.out with ⟨rfl, h | h⟩ | ⟨h0, hz, rfl, rfl⟩
      · subst h
        rcases h2.out with ⟨rfl, h | h⟩ | ⟨h0', hz', rfl, rfl⟩
        · subst h
          clear h1 h2 r q
          go_wp2
          go_ret
          exact ⟨rfl, b⟩
        · subst h
          clear h1 h2 r q
          go_wp2
          go_ret
          exact ⟨rfl, b⟩
        · clear h0' hz'
          generalize bs (pageL k' n' t'.data.toList) = S' at *
          clear h1 h2 r q
          go_wp2
          go_ret
          exact ⟨rfl, b⟩
      · subst h
        rcases h2.out with ⟨rfl, h | h⟩ | ⟨h0', hz', rfl, rfl⟩
        · subst h
          clear h1 h2 r q
          go_wp2
          go_ret
          exact ⟨rfl, b⟩
        · subst h
          clear h1 h2 r q
          go_wp2
          go_ret
          exact ⟨rfl, b⟩
        · clear h0' hz'
          generalize bs (pageL k' n' t'.data.toList) = S' at *
          clear h1 h2 r q
          go_wp2
          go_ret
          exact ⟨rfl, b⟩
      · rcases h2.out with ⟨rfl, h | h⟩ | ⟨h0', hz', rfl, rfl⟩
        · subst h
          clear h0 hz
          generalize bs (pageL k n t.data.toList) = S at *
          clear h1 h2 r q
          go_wp2
          go_ret
          exact ⟨rfl, b⟩
        · subst h
          clear h0 hz
          generalize bs (pageL k n t.data.toList) = S at *
          clear h1 h2 r q
          go_wp2
          go_ret
          exact ⟨rfl, b⟩
        · have W2 := Lib.hid (two_ways k n k' n' t t' hk.out hk'.out hn.out hn'.out hz hz')
          clear h1 h2 h0 h0' hz hz' hd hd' ht ht' hkr hk hn hk' hn'
          have c0 : w5.cell? ⟨w.heap.size, 0, none⟩ = some (.int .u8 (k : Int)) := r.out.one 0 rfl
          have c1 : w5.cell? ⟨w.heap.size, 1, none⟩ = some (.int .u64 (n : Int)) := r.out.one 1 rfl
          have c2 : w5.cell? ⟨w.heap.size, 2, none⟩ = some (.string t) := r.out.one 2 rfl
          have c3 : w5.cell? ⟨w.heap.size + 1, 0, none⟩ = some (.int .u8 (k' : Int)) := q.out.one 0 rfl
          have c4 : w5.cell? ⟨w.heap.size + 1, 1, none⟩ = some (.int .u64 (n' : Int)) := q.out.one 1 rfl
          have c5 : w5.cell? ⟨w.heap.size + 1, 2, none⟩ = some (.string t') := q.out.one 2 rfl
          clear r q
          rcases W2.out with ⟨rfl, rfl, rfl⟩ | ⟨hS, h | ⟨rfl, h⟩ | ⟨rfl, rfl, h⟩⟩
          · clear W2
            generalize bs (pageL k n t.data.toList) = S at *
            go_wp2
            go_ret
            exact ⟨rfl, b⟩
          · clear W2
            generalize bs (pageL k n t.data.toList) = S at *
            generalize bs (pageL k' n' t'.data.toList) = S' at *
            go_wp2
            go_ret
            exact ⟨rfl, b⟩
          · clear W2
            generalize bs (pageL k n t.data.toList) = S at *
            generalize bs (pageL k n' t'.data.toList) = S' at *
            go_wp2
            go_ret
            exact ⟨rfl, b⟩
          · clear W2
            generalize bs (pageL k n t.data.toList) = S at *
            generalize bs (pageL k n t'.data.toList) = S' at *
            go_wp2
            go_ret
            exact ⟨rfl, b⟩

end Go.Proofs.YtcglbbkphgdnmaaDoor
