/-
  Contracts: the atomic number; Next, Left, Used.
-/
import Derived.Test.YtedmdojmgccclaaDoorDrawNew
import Derived.Test.YtedmdojmgccclaaDoorShaKit
import Derived.Test.YtedmdojmgccclaaDoorWant
import Derived.Laws.LoneSync
namespace Go.Proofs.YtedmdojmgccclaaDoor
open Go.RowKit

set_option maxRecDepth 8000 in
/-- Add, of draws that told x. -/
theorem told_add (a : Addr) (x d s : Int) (w : World) (hc : w.cell? a = some (.int .i64 x)) (hz : w.frozen? a = false) (hs : IntKind.i64.wrap (x + d) = s) :
    Calls Tryd.prog 17 #[.pointer (some a), .int .i64 d] w fun e w' => e = .returned (.int .i64 s) ∧ w' = w.setCell a (.int .i64 s) := by
  have hadd := run_call_add (P := Tryd.prog) Tryd.func21 (by kernel_rfl) (by kernel_rfl) (by kernel_rfl) .i64 (by kernel_rfl) (y := d) (s := s) hc hz (by simp [go_sem]; exact hs)
  go_enter Tryd.func17, Tryd.ntmps17
  go_wp2
  go_ret
  exact ⟨rfl, rfl⟩

set_option maxRecDepth 8000 in
/-- Load. -/
theorem told_load (a : Addr) (x : Int) (w : World) (hc : w.cell? a = some (.int .i64 x)) :
    Calls Tryd.prog 22 #[.pointer (some a)] w fun e w' => e = .returned (.int .i64 x) ∧ w' = w := by
  have hl := run_call_load (P := Tryd.prog) Tryd.func29 (by kernel_rfl) (by kernel_rfl) (by kernel_rfl) .i64 (by kernel_rfl) hc
  go_enter Tryd.func22, Tryd.ntmps22
  go_wp2
  go_ret
  exact ⟨rfl, rfl⟩

theorem wrap_up (t : Nat) (h : t ≤ 1000000) : IntKind.i64.wrap ((t : Int) + 1) = ((t + 1 : Nat) : Int) := by
  simp [IntKind.wrap, IntKind.bits, IntKind.signed]
  omega
theorem wrap_down (t : Nat) (h : t ≤ 1000000) : IntKind.i64.wrap (((t + 1 : Nat) : Int) + -1) = (t : Int) := by
  simp [IntKind.wrap, IntKind.bits, IntKind.signed]
  omega

theorem Dr.cell0 {B p n c t : Nat} {a : Option Addr} {K : Nat → Nat → Nat} {w : World} (h : Dr B w p a n c K t) : w.cell? ⟨p, 0, none⟩ = some (.slice a n c) := by
  rw [cell_of_row w p 0 _ _ _ h.row]; rfl
theorem Dr.cell1 {B p n c t : Nat} {a : Option Addr} {K : Nat → Nat → Nat} {w : World} (h : Dr B w p a n c K t) : w.cell? ⟨p, 1, none⟩ = some (.int .i64 (t : Nat)) := by
  rw [cell_of_row w p 1 _ _ _ h.row]; rfl

set_option maxHeartbeats 1000000 in
set_option maxRecDepth 8000 in
theorem drawNext_yes (B p n c t : Nat) (hn : n ≤ 1000000) (a : Option Addr) (K : Nat → Nat → Nat) (w : World) (h0 : Hid (Dr B w p a n c K t)) (ht : t < n) :
    Calls Tryd.prog 8 #[.pointer (some ⟨p, 0, none⟩)] w fun e w' => e = .returned (.tuple #[.agg (rowOf 16 (w8 (K t))), .int .i64 0]) ∧ Hid (Dr B w' p a n c K (t + 1)) ∧ Apart p w w' := by
  have b0 : Below w.heap.size w (w.alloc (.cells (rowOf 16 (w8 zeroN)) 27)) := (Below.refl _ _).alloc (Nat.le_refl _) _
  have D0 := Lib.hid (h0.out.after b0)
  have q0 := Lib.hid (RowAt.new w 27 (rowOf 16 (w8 zeroN)))
  have hpq : w.heap.size ≠ p := by have := h0.out.row.lt; omega
  have c1 := D0.out.cell1
  have f1 := D0.out.row.free 1
  have A1 := Lib.hid (told_add ⟨p, 1, none⟩ (t : Int) 1 ((t + 1 : Nat) : Int) _ c1 f1 (wrap_up t (by omega)))
  have ap : Apart p w (w.alloc (.cells (rowOf 16 (w8 zeroN)) 27)) := .of_below b0
  clear c1 f1
  rw [z8_16] at D0 q0 A1 ap b0
  go_enter Tryd.func8, Tryd.ntmps8
  go_wp2_with fail
  rw [← z8_16] at D0 q0 A1 ap b0
  rw [← z8_16]
  generalize w.alloc (.cells (rowOf 16 (w8 zeroN)) 27) = w0 at *
  refine A1.out.mono ?_
  rintro e w1 ⟨rfl, rfl⟩
  clear A1
  have r1 : RowAt (w0.setCell ⟨p, 1, none⟩ (.int .i64 ((t + 1 : Nat) : Int))) p 46 #[.slice a n c, .int .i64 ((t + 1 : Nat) : Int)] := D0.out.row.set 1 _
  have ap1 : Apart p w0 (w0.setCell ⟨p, 1, none⟩ (.int .i64 ((t + 1 : Nat) : Int))) := (Apart.refl p w0).setCell D0.out.row _
  have D1 := Lib.hid (D0.out.turn ap1 r1 (by omega))
  have q1 := Lib.hid (q0.out.setOther ⟨p, 1, none⟩ (.int .i64 ((t + 1 : Nat) : Int)) hpq)
  replace ap := ap.trans ap1
  clear D0 r1 ap1 q0 b0
  generalize w0.setCell ⟨p, 1, none⟩ (.int .i64 ((t + 1 : Nat) : Int)) = w1 at *
  have c0 := D1.out.cell0
  have lt : ¬ (t : Int) ≥ (n : Int) := by omega
  have s1 := Lib.hid D1.out.keys
  go_wp2_with (first | (refine wpList_known rfl (run_index_el s1.out ht rfl rfl rfl _) ?_) | (refine wpList_known rfl (run_load_el s1.out ht rfl rfl) ?_) | (refine wpList_store_row rfl 27 _ _ rfl w.heap.size (rowOf 16 (w8 (K t))) rfl rfl 27 _ q1.out (info_key _) (by rw [rowOf_size, rowOf_size]) (rowOf_cells8 _ _) ?_))
  refine bodyPost_ret (v := .tuple #[.agg (rowOf 16 (w8 (K t))), .int .i64 0]) ?_ rfl ⟨rfl, D1.out.far _ (fun e => hpq e.symm) (fun ad e => by have := (h0.out.away ad e).2.1; omega), ap.far (Nat.le_refl _) _⟩
  exact results_row_one Tryd.results8 _ _ w.heap.size 27 (rowOf 16 (w8 (K t))) (0, 0) _ rfl (q1.out.setRow _) Tryd.underlying27 rfl (info_key _)

set_option maxHeartbeats 1000000 in
set_option maxRecDepth 8000 in
theorem drawNext_dry (B p n c : Nat) (hn : n ≤ 1000000) (a : Option Addr) (K : Nat → Nat → Nat) (w : World) (h0 : Hid (Dr B w p a n c K n)) :
    Calls Tryd.prog 8 #[.pointer (some ⟨p, 0, none⟩)] w fun e w' => e = .returned (.tuple #[.agg (rowOf 16 (w8 zeroN)), .int .i64 70]) ∧ Hid (Dr B w' p a n c K n) ∧ Apart p w w' := by
  have b0 : Below w.heap.size w (w.alloc (.cells (rowOf 16 (w8 zeroN)) 27)) := (Below.refl _ _).alloc (Nat.le_refl _) _
  have D0 := Lib.hid (h0.out.after b0)
  have q0 := Lib.hid (RowAt.new w 27 (rowOf 16 (w8 zeroN)))
  have hpq : w.heap.size ≠ p := by have := h0.out.row.lt; omega
  have c1 := D0.out.cell1
  have f1 := D0.out.row.free 1
  have A1 := Lib.hid (told_add ⟨p, 1, none⟩ (n : Int) 1 ((n + 1 : Nat) : Int) _ c1 f1 (wrap_up n (by omega)))
  have ap : Apart p w (w.alloc (.cells (rowOf 16 (w8 zeroN)) 27)) := .of_below b0
  clear c1 f1
  rw [z8_16] at D0 q0 A1 ap b0
  go_enter Tryd.func8, Tryd.ntmps8
  go_wp2_with fail
  rw [← z8_16] at D0 q0 A1 ap b0
  rw [← z8_16]
  generalize w.alloc (.cells (rowOf 16 (w8 zeroN)) 27) = w0 at *
  refine A1.out.mono ?_
  rintro e w1 ⟨rfl, rfl⟩
  clear A1
  have r1 : RowAt (w0.setCell ⟨p, 1, none⟩ (.int .i64 ((n + 1 : Nat) : Int))) p 46 #[.slice a n c, .int .i64 ((n + 1 : Nat) : Int)] := D0.out.row.set 1 _
  have ap1 : Apart p w0 (w0.setCell ⟨p, 1, none⟩ (.int .i64 ((n + 1 : Nat) : Int))) := (Apart.refl p w0).setCell D0.out.row _
  have q1 := Lib.hid (q0.out.setOther ⟨p, 1, none⟩ (.int .i64 ((n + 1 : Nat) : Int)) hpq)
  generalize w0.setCell ⟨p, 1, none⟩ (.int .i64 ((n + 1 : Nat) : Int)) = w1 at *
  have c0 : w1.cell? ⟨p, 0, none⟩ = some (.slice a n c) := by rw [cell_of_row w1 p 0 _ _ _ r1]; rfl
  have c1 : w1.cell? ⟨p, 1, none⟩ = some (.int .i64 ((n + 1 : Nat) : Int)) := by rw [cell_of_row w1 p 1 _ _ _ r1]; rfl
  have f1 := r1.free 1
  have A2 := Lib.hid (told_add ⟨p, 1, none⟩ ((n + 1 : Nat) : Int) (-1) (n : Int) _ c1 f1 (wrap_down n (by omega)))
  have r2 : RowAt (w1.setCell ⟨p, 1, none⟩ (.int .i64 (n : Int))) p 46 #[.slice a n c, .int .i64 (n : Int)] := r1.set 1 _
  have ap2 : Apart p w0 (w1.setCell ⟨p, 1, none⟩ (.int .i64 (n : Int))) := ap1.setCell r1 _
  have q2 := Lib.hid (q1.out.setOther ⟨p, 1, none⟩ (.int .i64 (n : Int)) hpq)
  have D2 := Lib.hid (D0.out.turn ap2 r2 (Nat.le_refl _))
  replace ap := ap.trans ap2
  clear D0 r1 ap1 q0 b0 c1 f1 r2 ap2 q1
  have lt : (n : Int) ≥ (n : Int) := Int.le_refl _
  go_wp2_with fail
  refine A2.out.mono ?_
  rintro e w2 ⟨rfl, rfl⟩
  clear A2 c0
  generalize w1.setCell ⟨p, 1, none⟩ (.int .i64 (n : Int)) = w2 at *
  go_wp2_with (first | (refine wpList_store_row rfl 27 _ _ rfl w.heap.size (rowOf 16 (w8 zeroN)) rfl rfl 27 _ q2.out (info_key _) (by rw [rowOf_size]) (rowOf_cells8 _ _) ?_))
  refine bodyPost_ret (v := .tuple #[.agg (rowOf 16 (w8 zeroN)), .int .i64 70]) ?_ rfl ⟨rfl, D2.out.far _ (fun e => hpq e.symm) (fun ad e => by have := (h0.out.away ad e).2.1; omega), ap.far (Nat.le_refl _) _⟩
  exact results_row_one Tryd.results8 _ _ w.heap.size 27 (rowOf 16 (w8 zeroN)) (0, 0) _ rfl (q2.out.setRow _) Tryd.underlying27 rfl (info_key _)


end Go.Proofs.YtedmdojmgccclaaDoor
