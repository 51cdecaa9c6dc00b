/-
  The walk of the law FieldTexts.
-/
import Derived.Test.YtemlfpiclpopbaaKey
import Derived.DeepKeys
namespace Go.Proofs.Ytemlfpiclpopbaa
open Go.RowKit

theorem list16 {α : Type} (l : List α) (h : l.length = 16) : ∃ x0 x1 x2 x3 x4 x5 x6 x7 x8 x9 x10 x11 x12 x13 x14 x15 : α, l = [x0, x1, x2, x3, x4, x5, x6, x7, x8, x9, x10, x11, x12, x13, x14, x15] := by
  match l, h with
  | [x0, x1, x2, x3, x4, x5, x6, x7, x8, x9, x10, x11, x12, x13, x14, x15], _ => exact ⟨x0, x1, x2, x3, x4, x5, x6, x7, x8, x9, x10, x11, x12, x13, x14, x15, rfl⟩

theorem tkK_form (L : List UInt8) : ∃ x0 x1 x2 x3 x4 x5 x6 x7 x8 x9 x10 x11 x12 x13 x14 x15 : Int, tkK L = #[.int .u8 x0, .int .u8 x1, .int .u8 x2, .int .u8 x3, .int .u8 x4, .int .u8 x5, .int .u8 x6, .int .u8 x7, .int .u8 x8, .int .u8 x9, .int .u8 x10, .int .u8 x11, .int .u8 x12, .int .u8 x13, .int .u8 x14, .int .u8 x15] := by
  unfold tkK
  split
  · exact ⟨0, 0, 0, 0, 0, 0, 0, 0, 0, 0, 0, 0, 0, 0, 0, 0, keyC_zero⟩
  · rename_i h
    obtain ⟨b0, b1, b2, b3, b4, b5, b6, b7, b8, b9, b10, b11, b12, b13, b14, b15, e⟩ := list16 (L.take 16) (by rw [List.length_take]; omega)
    rw [e]
    exact ⟨_, _, _, _, _, _, _, _, _, _, _, _, _, _, _, _, rfl⟩

theorem eqItems_same {P : Program} (w : World) (d : Nat) {e : TypeId} (he : P.underlying e = some (.int .u8)) (hp : P.plainKey e = true) (c : Nat) (xs : Array Value) :
    ∀ is : List Nat, (∀ i ∈ is, ∃ n : Int, xs[i * c]? = some (.int .u8 n)) → (Op.eqItems (d + 1) e c xs xs is).run P w = .ok true w
  | [], _ => rfl
  | i :: is, h => by
    obtain ⟨n, hn⟩ := h i (List.mem_cons_self ..)
    have ih := eqItems_same w d he hp c xs is (fun j hj => h j (List.mem_cons_of_mem _ hj))
    simp only [Op.eqItems, Sem.run_bind, run_part_plain w hp hn, Result.andThen_ok, run_equalIn_int w d e .u8 .u8 n n he, beq_self_eq_true, Bool.not_true, Bool.false_eq_true, if_false]
    exact ih

theorem keyElem : ∃ i, Try.prog.info? 5 = some i := by
  obtain ⟨i0, hi, _⟩ := info_parts Try.info5
  exact ⟨i0, hi⟩

theorem key_eq (x0 x1 x2 x3 x4 x5 x6 x7 x8 x9 x10 x11 x12 x13 x14 x15 : Int) (w : World) :
    (Op.equalIn 10000 34 (Value.agg #[.int .u8 x0, .int .u8 x1, .int .u8 x2, .int .u8 x3, .int .u8 x4, .int .u8 x5, .int .u8 x6, .int .u8 x7, .int .u8 x8, .int .u8 x9, .int .u8 x10, .int .u8 x11, .int .u8 x12, .int .u8 x13, .int .u8 x14, .int .u8 x15]) (Value.agg #[.int .u8 x0, .int .u8 x1, .int .u8 x2, .int .u8 x3, .int .u8 x4, .int .u8 x5, .int .u8 x6, .int .u8 x7, .int .u8 x8, .int .u8 x9, .int .u8 x10, .int .u8 x11, .int .u8 x12, .int .u8 x13, .int .u8 x14, .int .u8 x15])).run Try.prog w = .ok true w := by
  obtain ⟨i, hi⟩ := keyElem
  rw [run_equalIn_array w 9999 _ _ Try.underlying34 hi]
  refine eqItems_same w 9998 Try.underlying5 (by kernel_rfl) _ _ _ (fun i hi => ?_)
  have hc : Try.prog.cellsOf 5 = 1 := by kernel_rfl
  rw [hc, Nat.mul_one]
  have hi16 : i < 16 := by simpa using hi
  have h16 : i = 0 ∨ i = 1 ∨ i = 2 ∨ i = 3 ∨ i = 4 ∨ i = 5 ∨ i = 6 ∨ i = 7 ∨ i = 8 ∨ i = 9 ∨ i = 10 ∨ i = 11 ∨ i = 12 ∨ i = 13 ∨ i = 14 ∨ i = 15 := by omega
  rcases h16 with rfl | rfl | rfl | rfl | rfl | rfl | rfl | rfl | rfl | rfl | rfl | rfl | rfl | rfl | rfl | rfl <;> exact ⟨_, rfl⟩

/-- TakeText's end, its answers under names. -/
theorem takeText_named (s : ByteArray) (w : World) :
    Calls Try.prog 17 #[.string s] w fun e w' => e = .returned (.tuple #[.string (bs (ttT s.data.toList)), .string (bs (ttR s.data.toList)), .int .i64 (ttE s.data.toList)]) ∧ Below w.heap.size w w' := takeText_any s w
theorem refTakeText_named (s : ByteArray) (hm : s.size ≤ 3000) (w : World) :
    Calls Try.prog 18 #[.string s] w fun e w' => e = .returned (.tuple #[.string (bs (ttT s.data.toList)), .string (bs (ttR s.data.toList)), .int .i64 (ttE s.data.toList)]) ∧ Below w.heap.size w w' := refTakeText_any s hm w

/-- Text's answers. -/
def txS (s : ByteArray) : ByteArray := if 1000 < s.size then bs [] else bs (txt s)
def txE (s : ByteArray) : Int := if 1000 < s.size then 11 else 0
theorem text_any (s : ByteArray) (w : World) :
    Calls Try.prog 15 #[.string s] w fun e w' => e = .returned (.tuple #[.string (txS s), .int .i64 (txE s)]) ∧ Below w.heap.size w w' := by
  unfold txS txE
  by_cases h : 1000 < s.size
  · rw [if_pos h, if_pos h]; exact text_no s h w
  · rw [if_neg h, if_neg h]; exact text_yes s (by omega) w
theorem refText_any (s : ByteArray) (w : World) :
    Calls Try.prog 16 #[.string s] w fun e w' => e = .returned (.tuple #[.string (txS s), .int .i64 (txE s)]) ∧ Below w.heap.size w w' := by
  unfold txS txE
  by_cases h : 1000 < s.size
  · rw [if_pos h, if_pos h]; exact refText_no s h w
  · rw [if_neg h, if_neg h]; exact refText_yes s (by omega) w

set_option maxRecDepth 100000 in
set_option maxHeartbeats 1000000 in
theorem walk_FieldTexts (t : ByteArray) (_ht : t.size ≤ maxLen) (s : ByteArray) (_hs : s.size ≤ maxLen) (w : World) :
    Calls Try.prog 4 #[.string t, .string s] w fun e w' => e = .returned (.bool true) ∧ Below w.heap.size w w' := by
  clear _ht _hs
  by_cases h1 : (3000 : Int) < (s.size : Int)
  · have d : decide ((3000 : Int) < (s.size : Int)) = true := by simpa using h1
    go_enter Try.func4, Try.ntmps4
    go_wp2_with fail
    refine (shown_any _).mono ?_
    rintro e w1 ⟨rfl, hb1⟩
    go_wp2
    go_ret
    exact ⟨rfl, hb1⟩
  · have d : decide ((3000 : Int) < (s.size : Int)) = false := by simpa using h1
    by_cases h2 : (3000 : Int) < (t.size : Int)
    · have d2 : decide ((3000 : Int) < (t.size : Int)) = true := by simpa using h2
      go_enter Try.func4, Try.ntmps4
      go_wp2_with fail
      refine (shown_any _).mono ?_
      rintro e w1 ⟨rfl, hb1⟩
      go_wp2
      go_ret
      exact ⟨rfl, hb1⟩
    · have d2 : decide ((3000 : Int) < (t.size : Int)) = false := by simpa using h2
      have hm : Hid (s.size ≤ 3000) := by unfold Hid; omega
      obtain ⟨x0, x1, x2, x3, x4, x5, x6, x7, x8, x9, x10, x11, x12, x13, x14, x15, hx⟩ := tkK_form s.data.toList
      have HX := Lib.hid hx; clear hx
      go_enter Try.func4, Try.ntmps4
      go_wp2_with fail
      refine (shown_any _).mono ?_
      rintro e w1 ⟨rfl, hb1⟩
      go_wp2_with fail
      refine (text_any t _).mono ?_
      rintro e w2 ⟨rfl, hb2⟩
      go_wp2_with fail
      refine (refText_any t _).mono ?_
      rintro e w3 ⟨rfl, hb3⟩
      go_wp2_with fail
      refine (takeText_named s _).mono ?_
      rintro e w4 ⟨rfl, hb4⟩
      go_wp2_with fail
      refine (refTakeText_named s hm.out _).mono ?_
      rintro e w5 ⟨rfl, hb5⟩
      have hb : Below w.heap.size w w5 := by
        have s1 := hb1.size
        have s2 := hb2.size
        have s3 := hb3.size
        have s4 := hb4.size
        exact (((hb1.trans (hb2.mono (by omega))).trans (hb3.mono (by omega))).trans (hb4.mono (by omega))).trans (hb5.mono (by omega))
      clear hb1 hb2 hb3 hb4 hb5
      go_wp2_with fail
      refine (takeKey_any s _).mono ?_
      rw [HX.out]
      rintro e w6 ⟨rfl, hb6⟩
      have hbb : Below w.heap.size w w6 := hb.trans (hb6.mono hb.size)
      clear hb hb6
      go_wp2_with fail
      refine (refTakeKey_any s (by have := hm.out; omega) _).mono ?_
      rw [HX.out]
      rintro e w7 ⟨rfl, hb7⟩
      have hk := Lib.hid ((hb7.block w6.heap.size (by simp)).trans (heap_alloc_new w6 _))
      have hlt : w6.heap.size < w7.heap.size := lt_of_block hk.out
      have c0 : w7.cell? ⟨w6.heap.size, 0, none⟩ = some (.int .u8 x0) := cell_of_row w7 _ 0 _ _ _ hk.out
      have c1 : w7.cell? ⟨w6.heap.size, 1, none⟩ = some (.int .u8 x1) := cell_of_row w7 _ 1 _ _ _ hk.out
      have c2 : w7.cell? ⟨w6.heap.size, 2, none⟩ = some (.int .u8 x2) := cell_of_row w7 _ 2 _ _ _ hk.out
      have c3 : w7.cell? ⟨w6.heap.size, 3, none⟩ = some (.int .u8 x3) := cell_of_row w7 _ 3 _ _ _ hk.out
      have c4 : w7.cell? ⟨w6.heap.size, 4, none⟩ = some (.int .u8 x4) := cell_of_row w7 _ 4 _ _ _ hk.out
      have c5 : w7.cell? ⟨w6.heap.size, 5, none⟩ = some (.int .u8 x5) := cell_of_row w7 _ 5 _ _ _ hk.out
      have c6 : w7.cell? ⟨w6.heap.size, 6, none⟩ = some (.int .u8 x6) := cell_of_row w7 _ 6 _ _ _ hk.out
      have c7 : w7.cell? ⟨w6.heap.size, 7, none⟩ = some (.int .u8 x7) := cell_of_row w7 _ 7 _ _ _ hk.out
      have c8 : w7.cell? ⟨w6.heap.size, 8, none⟩ = some (.int .u8 x8) := cell_of_row w7 _ 8 _ _ _ hk.out
      have c9 : w7.cell? ⟨w6.heap.size, 9, none⟩ = some (.int .u8 x9) := cell_of_row w7 _ 9 _ _ _ hk.out
      have c10 : w7.cell? ⟨w6.heap.size, 10, none⟩ = some (.int .u8 x10) := cell_of_row w7 _ 10 _ _ _ hk.out
      have c11 : w7.cell? ⟨w6.heap.size, 11, none⟩ = some (.int .u8 x11) := cell_of_row w7 _ 11 _ _ _ hk.out
      have c12 : w7.cell? ⟨w6.heap.size, 12, none⟩ = some (.int .u8 x12) := cell_of_row w7 _ 12 _ _ _ hk.out
      have c13 : w7.cell? ⟨w6.heap.size, 13, none⟩ = some (.int .u8 x13) := cell_of_row w7 _ 13 _ _ _ hk.out
      have c14 : w7.cell? ⟨w6.heap.size, 14, none⟩ = some (.int .u8 x14) := cell_of_row w7 _ 14 _ _ _ hk.out
      have c15 : w7.cell? ⟨w6.heap.size, 15, none⟩ = some (.int .u8 x15) := cell_of_row w7 _ 15 _ _ _ hk.out
      have hb8 : Below w.heap.size w w7 := (hbb.alloc hbb.size _).trans (hb7.mono (by have := hbb.size; simp; omega))
      clear hb7 hbb
      have heq := key_eq x0 x1 x2 x3 x4 x5 x6 x7 x8 x9 x10 x11 x12 x13 x14 x15
      go_wp2
      go_ret
      exact ⟨rfl, hb8.alloc hb8.size _⟩

end Go.Proofs.Ytemlfpiclpopbaa
