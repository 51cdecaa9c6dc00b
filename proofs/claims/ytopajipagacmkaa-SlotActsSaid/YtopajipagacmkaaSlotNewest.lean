/-
  Contract: Newest.
-/
import Derived.Test.YtopajipagacmkaaSlotWrite
import Derived.Deep.RegionHeld
namespace Go.Proofs.Ytopajipagacmkaa
open Go.RowKit
set_option linter.unusedVariables false

/-- The cell with the greater epoch, and its answer. -/
def newestE (S : SS) : Nat := if S.p.up = false then 4 else if (S.c 0).h = false ∧ (S.c 1).h = false then 110 else 0
def newestI (S : SS) : Nat := if S.p.up = false then 0 else if (S.c 0).h = false ∧ (S.c 1).h = false then 0 else if (S.c 0).h = false ∨ (S.c 0).e < (S.c 1).e then 1 else 0

theorem run_loadCell_at {w : World} {g i : Nat} {pp : Nat} {c : Nat → Cel} (hg : RowAt w g 74 (rowOf 37 (slF pp c))) (hi : i < 2) {o : Oper} {a : Act} {x : Operand} {s : Nat} (hs : s = 1 + i * 18) (ho : o.op = .load 71 x) (hx : a.eval x = .pointer (some ⟨g, s, none⟩)) :
    (execOp a.eval o).run Try.prog w = .ok (.value (.agg (rowOf 18 (celF (c i))))) w := by
  subst hs
  unfold execOp
  simp only [ho, hx, Instr.loadAt, Instr.sureAddr, Sem.run_bind, Sem.run_pure, Result.andThen_ok, run_loadVar_at w g (1 + i * 18) 74 71 _ _ 18 (celF (c i)) hg (fun j hj => by rw [rowOf_get _ _ _ (by omega), slF_at _ _ _ _ hj]) Try.underlying71 rfl infoCell]
theorem run_allocCell {o : Oper} {a : Act} (ho : o.op = .alloc 71) (w : World) : (execOp a.eval o).run Try.prog w = .ok (.value (.pointer (some ⟨w.heap.size, 0, none⟩))) (w.alloc (.cells (rowOf 18 (celF blankC)) 71)) := by
  unfold execOp
  rw [ho]
  kernel_rfl

/-- An operation of a region in whatever order: what it makes. -/
theorem wp_new {P : Program} {o : Oper} {a : Act} {w w' : World} {K : Act → World → Prop} {Q : Exit → Act → World → Prop} {v : Value} (hr : (execOp a.eval o).run P w = .ok (.value v) w') (h : K (a.put o.dst v) w') : o.wp P a w K Q := by
  unfold Oper.wp
  simp only [hr, Oper.upon]
  exact h

set_option maxHeartbeats 400000 in
set_option maxRecDepth 8000 in
theorem slotNewest_any (B pp sp : Nat) (S : SS) (w : World) (h : Hid (Sl B w pp sp S)) :
    Calls Try.prog 19 #[.pointer (some ⟨sp, 0, none⟩)] w fun e w' => e = .returned (.tuple #[.int .i64 (newestI S : Nat), .int .i64 (newestE S : Nat)]) ∧ Below w.heap.size w w' := by
  obtain ⟨x0, hx0⟩ : ∃ x : Int, Hid (((S.c 0).e : Int) = x) := ⟨_, rfl⟩
  obtain ⟨x1, hx1⟩ : ∃ x : Int, Hid (((S.c 1).e : Int) = x) := ⟨_, rfl⟩
  go_enter Try.func19, Try.ntmps19
  go_wp2_with fail
  refine wp_region_held_drew (S := fun w' => Sl B w' pp sp S) (by kernel_rfl) (h.out.after ((Below.refl _ w).drew)) fun hS => ?_
  change wpAnyH _ _ _ _ _ 14 #[false, false, false, false, false, false, false, false, false, false, false, false, false, false] _ _
  have bd : Below w.heap.size w (World.drew w) := (Below.refl _ _).drew
  replace hS := Lib.hid hS
  clear h
  generalize World.drew w = w0 at *
  refine wpAnyH_take (i := 0) (v := .pointer (some ⟨sp, 0, none⟩)) rfl (by kernel_rfl) (by kernel_rfl) (by kernel_rfl) (fun _ _ _ h => h) (Or.inl ⟨by rfl, fun w' hw' => by go_simp⟩) hS.out ?_
  change wpAnyH _ _ _ _ _ 13 #[true, false, false, false, false, false, false, false, false, false, false, false, false, false] ⟨#[.pointer (some ⟨sp, 0, none⟩), undef, .int .i64 0, .int .i64 0, undef, undef, .pointer (some ⟨sp, 0, none⟩), undef, undef, undef, undef, undef, undef, undef, undef, undef, undef, undef, undef, undef, undef, undef, undef, undef, undef, undef, undef, undef, undef, undef, undef, undef, undef, undef, undef, undef, undef, undef, undef, undef], []⟩ _
  refine wpAnyH_take (i := 1) (v := .pointer (some ⟨sp, 0, none⟩)) rfl (by kernel_rfl) (by kernel_rfl) (by kernel_rfl) (fun _ _ _ h => h) (Or.inl ⟨by rfl, fun w' hw' => by go_simp⟩) hS.out ?_
  change wpAnyH _ _ _ _ _ 12 #[true, true, false, false, false, false, false, false, false, false, false, false, false, false] ⟨#[.pointer (some ⟨sp, 0, none⟩), undef, .int .i64 0, .int .i64 0, undef, undef, .pointer (some ⟨sp, 0, none⟩), .pointer (some ⟨sp, 0, none⟩), undef, undef, undef, undef, undef, undef, undef, undef, undef, undef, undef, undef, undef, undef, undef, undef, undef, undef, undef, undef, undef, undef, undef, undef, undef, undef, undef, undef, undef, undef, undef, undef], []⟩ _
  refine wpAnyH_take (i := 2) (v := .pointer (some ⟨sp, 1, none⟩)) rfl (by kernel_rfl) (by kernel_rfl) (by kernel_rfl) (fun _ _ _ h => h) (Or.inl ⟨by rfl, fun w' hw' => by go_simp⟩) hS.out ?_
  change wpAnyH _ _ _ _ _ 11 #[true, true, true, false, false, false, false, false, false, false, false, false, false, false] ⟨#[.pointer (some ⟨sp, 0, none⟩), undef, .int .i64 0, .int .i64 0, undef, undef, .pointer (some ⟨sp, 0, none⟩), .pointer (some ⟨sp, 0, none⟩), .pointer (some ⟨sp, 1, none⟩), undef, undef, undef, undef, undef, undef, undef, undef, undef, undef, undef, undef, undef, undef, undef, undef, undef, undef, undef, undef, undef, undef, undef, undef, undef, undef, undef, undef, undef, undef, undef], []⟩ _
  refine wpAnyH_take (i := 3) (v := .pointer (some ⟨sp, 1, none⟩)) rfl (by kernel_rfl) (by kernel_rfl) (by kernel_rfl) (fun _ _ _ h => h) (Or.inl ⟨by rfl, fun w' hw' => by go_simp⟩) hS.out ?_
  change wpAnyH _ _ _ _ _ 10 #[true, true, true, true, false, false, false, false, false, false, false, false, false, false] ⟨#[.pointer (some ⟨sp, 0, none⟩), undef, .int .i64 0, .int .i64 0, undef, undef, .pointer (some ⟨sp, 0, none⟩), .pointer (some ⟨sp, 0, none⟩), .pointer (some ⟨sp, 1, none⟩), .pointer (some ⟨sp, 1, none⟩), undef, undef, undef, undef, undef, undef, undef, undef, undef, undef, undef, undef, undef, undef, undef, undef, undef, undef, undef, undef, undef, undef, undef, undef, undef, undef, undef, undef, undef, undef], []⟩ _
  refine wpAnyH_take (i := 4) (v := .agg (rowOf 18 (celF (S.c 0)))) rfl (by kernel_rfl) (by kernel_rfl) (by kernel_rfl) (fun _ _ _ h => h) (Or.inl ⟨by rfl, fun w' hw' => run_loadCell_at (g := sp) (i := 0) (s := 1) (pp := pp) (c := S.c) hw'.row (by decide) rfl rfl rfl⟩) hS.out ?_
  change wpAnyH _ _ _ _ _ 9 #[true, true, true, true, true, false, false, false, false, false, false, false, false, false] ⟨#[.pointer (some ⟨sp, 0, none⟩), undef, .int .i64 0, .int .i64 0, undef, undef, .pointer (some ⟨sp, 0, none⟩), .pointer (some ⟨sp, 0, none⟩), .pointer (some ⟨sp, 1, none⟩), .pointer (some ⟨sp, 1, none⟩), .agg (rowOf 18 (celF (S.c 0))), undef, undef, undef, undef, undef, undef, undef, undef, undef, undef, undef, undef, undef, undef, undef, undef, undef, undef, undef, undef, undef, undef, undef, undef, undef, undef, undef, undef, undef], []⟩ _
  refine wpAnyH_take (i := 5) (v := .pointer (some ⟨sp, 0, none⟩)) rfl (by kernel_rfl) (by kernel_rfl) (by kernel_rfl) (fun _ _ _ h => h) (Or.inl ⟨by rfl, fun w' hw' => by go_simp⟩) hS.out ?_
  change wpAnyH _ _ _ _ _ 8 #[true, true, true, true, true, true, false, false, false, false, false, false, false, false] ⟨#[.pointer (some ⟨sp, 0, none⟩), undef, .int .i64 0, .int .i64 0, undef, undef, .pointer (some ⟨sp, 0, none⟩), .pointer (some ⟨sp, 0, none⟩), .pointer (some ⟨sp, 1, none⟩), .pointer (some ⟨sp, 1, none⟩), .agg (rowOf 18 (celF (S.c 0))), .pointer (some ⟨sp, 0, none⟩), undef, undef, undef, undef, undef, undef, undef, undef, undef, undef, undef, undef, undef, undef, undef, undef, undef, undef, undef, undef, undef, undef, undef, undef, undef, undef, undef, undef], []⟩ _
  refine wpAnyH_take (i := 6) (v := .pointer (some ⟨sp, 0, none⟩)) rfl (by kernel_rfl) (by kernel_rfl) (by kernel_rfl) (fun _ _ _ h => h) (Or.inl ⟨by rfl, fun w' hw' => by go_simp⟩) hS.out ?_
  change wpAnyH _ _ _ _ _ 7 #[true, true, true, true, true, true, true, false, false, false, false, false, false, false] ⟨#[.pointer (some ⟨sp, 0, none⟩), undef, .int .i64 0, .int .i64 0, undef, undef, .pointer (some ⟨sp, 0, none⟩), .pointer (some ⟨sp, 0, none⟩), .pointer (some ⟨sp, 1, none⟩), .pointer (some ⟨sp, 1, none⟩), .agg (rowOf 18 (celF (S.c 0))), .pointer (some ⟨sp, 0, none⟩), .pointer (some ⟨sp, 0, none⟩), undef, undef, undef, undef, undef, undef, undef, undef, undef, undef, undef, undef, undef, undef, undef, undef, undef, undef, undef, undef, undef, undef, undef, undef, undef, undef, undef], []⟩ _
  refine wpAnyH_take (i := 7) (v := .pointer (some ⟨sp, 1, none⟩)) rfl (by kernel_rfl) (by kernel_rfl) (by kernel_rfl) (fun _ _ _ h => h) (Or.inl ⟨by rfl, fun w' hw' => by go_simp⟩) hS.out ?_
  change wpAnyH _ _ _ _ _ 6 #[true, true, true, true, true, true, true, true, false, false, false, false, false, false] ⟨#[.pointer (some ⟨sp, 0, none⟩), undef, .int .i64 0, .int .i64 0, undef, undef, .pointer (some ⟨sp, 0, none⟩), .pointer (some ⟨sp, 0, none⟩), .pointer (some ⟨sp, 1, none⟩), .pointer (some ⟨sp, 1, none⟩), .agg (rowOf 18 (celF (S.c 0))), .pointer (some ⟨sp, 0, none⟩), .pointer (some ⟨sp, 0, none⟩), .pointer (some ⟨sp, 1, none⟩), undef, undef, undef, undef, undef, undef, undef, undef, undef, undef, undef, undef, undef, undef, undef, undef, undef, undef, undef, undef, undef, undef, undef, undef, undef, undef], []⟩ _
  refine wpAnyH_take (i := 8) (v := .pointer (some ⟨sp, 19, none⟩)) rfl (by kernel_rfl) (by kernel_rfl) (by kernel_rfl) (fun _ _ _ h => h) (Or.inl ⟨by rfl, fun w' hw' => by go_simp⟩) hS.out ?_
  change wpAnyH _ _ _ _ _ 5 #[true, true, true, true, true, true, true, true, true, false, false, false, false, false] ⟨#[.pointer (some ⟨sp, 0, none⟩), undef, .int .i64 0, .int .i64 0, undef, undef, .pointer (some ⟨sp, 0, none⟩), .pointer (some ⟨sp, 0, none⟩), .pointer (some ⟨sp, 1, none⟩), .pointer (some ⟨sp, 1, none⟩), .agg (rowOf 18 (celF (S.c 0))), .pointer (some ⟨sp, 0, none⟩), .pointer (some ⟨sp, 0, none⟩), .pointer (some ⟨sp, 1, none⟩), .pointer (some ⟨sp, 19, none⟩), undef, undef, undef, undef, undef, undef, undef, undef, undef, undef, undef, undef, undef, undef, undef, undef, undef, undef, undef, undef, undef, undef, undef, undef, undef], []⟩ _
  refine wpAnyH_take (i := 9) (v := .agg (rowOf 18 (celF (S.c 1)))) rfl (by kernel_rfl) (by kernel_rfl) (by kernel_rfl) (fun _ _ _ h => h) (Or.inl ⟨by rfl, fun w' hw' => run_loadCell_at (g := sp) (i := 1) (s := 19) (pp := pp) (c := S.c) hw'.row (by decide) rfl rfl rfl⟩) hS.out ?_
  change wpAnyH _ _ _ _ _ 4 #[true, true, true, true, true, true, true, true, true, true, false, false, false, false] ⟨#[.pointer (some ⟨sp, 0, none⟩), undef, .int .i64 0, .int .i64 0, undef, undef, .pointer (some ⟨sp, 0, none⟩), .pointer (some ⟨sp, 0, none⟩), .pointer (some ⟨sp, 1, none⟩), .pointer (some ⟨sp, 1, none⟩), .agg (rowOf 18 (celF (S.c 0))), .pointer (some ⟨sp, 0, none⟩), .pointer (some ⟨sp, 0, none⟩), .pointer (some ⟨sp, 1, none⟩), .pointer (some ⟨sp, 19, none⟩), .agg (rowOf 18 (celF (S.c 1))), undef, undef, undef, undef, undef, undef, undef, undef, undef, undef, undef, undef, undef, undef, undef, undef, undef, undef, undef, undef, undef, undef, undef, undef], []⟩ _
  refine wpAnyH_ready (rs := [10, 11]) (by kernel_rfl) (by simp) (AllReadyH.cons rfl (fun K hK => ?_) (AllReadyH.cons rfl (fun K hK => ?_) AllReadyH.nil))
  · rw [if_pos (by rfl)]
    have b1 : Below w0.heap.size w0 (w0.alloc (.cells (rowOf 18 (celF blankC)) 71)) := (Below.refl _ _).alloc (Nat.le_refl _) _
    refine wp_new (run_allocCell rfl _) (hK.out _ _ (hS.out.after b1) fun hS => ?_)
    change wpAnyH _ _ _ _ _ 3 #[true, true, true, true, true, true, true, true, true, true, true, false, false, false] ⟨#[.pointer (some ⟨sp, 0, none⟩), undef, .int .i64 0, .int .i64 0, .pointer (some ⟨w0.heap.size, 0, none⟩), undef, .pointer (some ⟨sp, 0, none⟩), .pointer (some ⟨sp, 0, none⟩), .pointer (some ⟨sp, 1, none⟩), .pointer (some ⟨sp, 1, none⟩), .agg (rowOf 18 (celF (S.c 0))), .pointer (some ⟨sp, 0, none⟩), .pointer (some ⟨sp, 0, none⟩), .pointer (some ⟨sp, 1, none⟩), .pointer (some ⟨sp, 19, none⟩), .agg (rowOf 18 (celF (S.c 1))), undef, undef, undef, undef, undef, undef, undef, undef, undef, undef, undef, undef, undef, undef, undef, undef, undef, undef, undef, undef, undef, undef, undef, undef], []⟩ _
    clear hK K
    replace hS := Lib.hid hS
    have x1 := Lib.hid (RowAt.new w0 71 (rowOf 18 (celF blankC)))
    have l1 : w0.heap.size < (w0.alloc (.cells (rowOf 18 (celF blankC)) 71)).heap.size := x1.out.lt
    generalize hn1 : w0.heap.size = n1 at x1 l1 ⊢
    have bl : w.heap.size ≤ n1 := by have := bd.size; omega
    replace bd := bd.trans (b1.mono bd.size)
    clear b1
    generalize w0.alloc (.cells (rowOf 18 (celF blankC)) 71) = w1 at *
    clear hn1
    refine wpAnyH_ready (rs := [11]) (by kernel_rfl) (by simp) (AllReadyH.cons rfl (fun K hK => ?_) AllReadyH.nil)
    rw [if_pos (by rfl)]
    have b1 : Below w1.heap.size w1 (w1.alloc (.cells (rowOf 18 (celF blankC)) 71)) := (Below.refl _ _).alloc (Nat.le_refl _) _
    refine wp_new (run_allocCell rfl _) (hK.out _ _ (hS.out.after b1) fun hS => ?_)
    change wpAnyH _ _ _ _ _ 2 #[true, true, true, true, true, true, true, true, true, true, true, true, false, false] ⟨#[.pointer (some ⟨sp, 0, none⟩), undef, .int .i64 0, .int .i64 0, .pointer (some ⟨n1, 0, none⟩), .pointer (some ⟨w1.heap.size, 0, none⟩), .pointer (some ⟨sp, 0, none⟩), .pointer (some ⟨sp, 0, none⟩), .pointer (some ⟨sp, 1, none⟩), .pointer (some ⟨sp, 1, none⟩), .agg (rowOf 18 (celF (S.c 0))), .pointer (some ⟨sp, 0, none⟩), .pointer (some ⟨sp, 0, none⟩), .pointer (some ⟨sp, 1, none⟩), .pointer (some ⟨sp, 19, none⟩), .agg (rowOf 18 (celF (S.c 1))), undef, undef, undef, undef, undef, undef, undef, undef, undef, undef, undef, undef, undef, undef, undef, undef, undef, undef, undef, undef, undef, undef, undef, undef], []⟩ _
    clear hK K
    replace hS := Lib.hid hS
    have x2 := Lib.hid (RowAt.new w1 71 (rowOf 18 (celF blankC)))
    have l2 : w1.heap.size < (w1.alloc (.cells (rowOf 18 (celF blankC)) 71)).heap.size := x2.out.lt
    replace x1 := Lib.hid (x1.out.below b1 l1)
    generalize hn2 : w1.heap.size = n2 at x2 l2 ⊢
    have hne : Hid (n1 ≠ n2) := by unfold Hid; omega
    have bl2 : w.heap.size ≤ n2 := by omega
    replace bd := bd.trans (b1.mono bd.size)
    clear b1
    generalize w1.alloc (.cells (rowOf 18 (celF blankC)) 71) = w2 at *
    clear hn2 l1
    refine wpAnyH_ready (rs := [12]) (by kernel_rfl) (by simp) (AllReadyH.cons rfl (fun K hK => ?_) AllReadyH.nil)
    rw [if_pos (by rfl)]
    have far1 : Beside (fun k => k = n1) w2 (w2.setRow n1 (rowOf 18 (celF (S.c 0)))) := (Beside.refl (fun k => k = n1) w2).setRow (.inl rfl) _
    have hS2 : Sl B (w2.setRow n1 (rowOf 18 (celF (S.c 0)))) pp sp S := ⟨hS.out.pow.beside far1 (hS.out.pow.apart x1.out (by decide)), hS.out.row.beside far1 (hS.out.row.apart x1.out (by decide)), hS.out.low, hS.out.ok, hS.out.byte, hS.out.tall⟩
    refine wp_store_row 71 _ _ rfl n1 (rowOf 18 (celF (S.c 0))) rfl rfl 71 (rowOf 18 (celF blankC)) x1.out (infoCell' _) (by rw [rowOf_size, rowOf_size]) (celF_all _) (hK.out _ _ hS2 fun _ => ?_)
    change wpAnyH _ _ _ _ _ 1 #[true, true, true, true, true, true, true, true, true, true, true, true, true, false] ⟨#[.pointer (some ⟨sp, 0, none⟩), undef, .int .i64 0, .int .i64 0, .pointer (some ⟨n1, 0, none⟩), .pointer (some ⟨n2, 0, none⟩), .pointer (some ⟨sp, 0, none⟩), .pointer (some ⟨sp, 0, none⟩), .pointer (some ⟨sp, 1, none⟩), .pointer (some ⟨sp, 1, none⟩), .agg (rowOf 18 (celF (S.c 0))), .pointer (some ⟨sp, 0, none⟩), .pointer (some ⟨sp, 0, none⟩), .pointer (some ⟨sp, 1, none⟩), .pointer (some ⟨sp, 19, none⟩), .agg (rowOf 18 (celF (S.c 1))), undef, undef, undef, undef, undef, undef, undef, undef, undef, undef, undef, undef, undef, undef, undef, undef, undef, undef, undef, undef, undef, undef, undef, undef], []⟩ _
    clear hK K
    replace x2 := Lib.hid (x2.out.beside far1 (hne.out.symm))
    replace x1 := Lib.hid (x1.out.setRow (rowOf 18 (celF (S.c 0))))
    replace hS := Lib.hid hS2
    replace bd := below_setRow' bd bl (rowOf 18 (celF (S.c 0)))
    clear far1 hS2
    generalize w2.setRow n1 (rowOf 18 (celF (S.c 0))) = w3 at *
    refine wpAnyH_ready (rs := [13]) (by kernel_rfl) (by simp) (AllReadyH.cons rfl (fun K hK => ?_) AllReadyH.nil)
    rw [if_pos (by rfl)]
    have far1 : Beside (fun k => k = n2) w3 (w3.setRow n2 (rowOf 18 (celF (S.c 1)))) := (Beside.refl (fun k => k = n2) w3).setRow (.inl rfl) _
    have hS2 : Sl B (w3.setRow n2 (rowOf 18 (celF (S.c 1)))) pp sp S := ⟨hS.out.pow.beside far1 (hS.out.pow.apart x2.out (by decide)), hS.out.row.beside far1 (hS.out.row.apart x2.out (by decide)), hS.out.low, hS.out.ok, hS.out.byte, hS.out.tall⟩
    refine wp_store_row 71 _ _ rfl n2 (rowOf 18 (celF (S.c 1))) rfl rfl 71 (rowOf 18 (celF blankC)) x2.out (infoCell' _) (by rw [rowOf_size, rowOf_size]) (celF_all _) (hK.out _ _ hS2 fun _ => ?_)
    change wpAnyH _ _ _ _ _ 0 #[true, true, true, true, true, true, true, true, true, true, true, true, true, true] ⟨#[.pointer (some ⟨sp, 0, none⟩), undef, .int .i64 0, .int .i64 0, .pointer (some ⟨n1, 0, none⟩), .pointer (some ⟨n2, 0, none⟩), .pointer (some ⟨sp, 0, none⟩), .pointer (some ⟨sp, 0, none⟩), .pointer (some ⟨sp, 1, none⟩), .pointer (some ⟨sp, 1, none⟩), .agg (rowOf 18 (celF (S.c 0))), .pointer (some ⟨sp, 0, none⟩), .pointer (some ⟨sp, 0, none⟩), .pointer (some ⟨sp, 1, none⟩), .pointer (some ⟨sp, 19, none⟩), .agg (rowOf 18 (celF (S.c 1))), undef, undef, undef, undef, undef, undef, undef, undef, undef, undef, undef, undef, undef, undef, undef, undef, undef, undef, undef, undef, undef, undef, undef, undef], []⟩ _
    clear hK K
    replace x1 := Lib.hid (x1.out.beside far1 (hne.out.symm.symm))
    replace x2 := Lib.hid (x2.out.setRow (rowOf 18 (celF (S.c 1))))
    replace hS := Lib.hid hS2
    replace bd := below_setRow' bd bl2 (rowOf 18 (celF (S.c 1)))
    clear far1 hS2
    generalize w3.setRow n2 (rowOf 18 (celF (S.c 1))) = w4 at *
    refine wpAnyH_done (by kernel_rfl) ?_ _
    clear hne l2
    have y0 := Lib.hid x1.out
    have y1 := Lib.hid x2.out
    clear x1 x2
    dsimp only
    have U := Lib.hid (powUp_any pp S.p.up S.p.left S.p.keep S.p.junk w4 hS.out.pow)
    have I0 := Lib.hid (fun w' => isBlank_any (S.c 0) (hS.out.ok 0) w')
    have I1 := Lib.hid (fun w' => isBlank_any (S.c 1) (hS.out.ok 1) w')
    have c0 := hS.out.c0
    by_cases hu : S.p.up = false
    · have e1 : Hid (newestI S = 0) := if_pos hu
      have e2 : Hid (newestE S = 4) := if_pos hu
      rw [hu] at U
      clear hu I0 I1 y0 y1
      go_wp2_with fail
      refine U.out.mono ?_
      rintro e w5 ⟨rfl, rfl⟩
      go_wp2
      go_ret2
      exact ⟨by rw [e1.out, e2.out]; rfl, bd⟩
    have hu' : S.p.up = true := by simpa using hu
    rw [hu'] at U
    cases h0 : (S.c 0).h with
    | false =>
      rw [h0] at I0
      cases h1 : (S.c 1).h with
      | false =>
        rw [h1] at I1
        have e1 : Hid (newestI S = 0) := by unfold Hid newestI; rw [if_neg hu, if_pos ⟨h0, h1⟩]
        have e2 : Hid (newestE S = 110) := by unfold Hid newestE; rw [if_neg hu, if_pos ⟨h0, h1⟩]
        clear hu hu' h0 h1 hS
        go_wp2_with fail
        refine U.out.mono ?_
        rintro e w5 ⟨rfl, rfl⟩
        clear U c0
        go_wp2_with (first | (refine wpList_load_row rfl 71 _ rfl n1 rfl 71 (rowOf 18 (celF (S.c 0))) (0, 0) _ y0.out Try.underlying71 rfl (infoCell' _) ?_) | (refine wpList_wload_row (by rfl) 71 _ rfl n2 rfl 71 (rowOf 18 (celF (S.c 1))) _ y1.out Try.underlying71 rfl (infoCell' _) ?_))
        refine (I0.out _).mono ?_
        rintro e w6 ⟨rfl, bb⟩
        replace y0 := Lib.hid (y0.out.below bb y0.out.lt)
        replace y1 := Lib.hid (y1.out.below bb y1.out.lt)
        replace bd := bd.trans (bb.mono bd.size)
        clear bb
        go_wp2_with (first | (refine wpList_load_row rfl 71 _ rfl n1 rfl 71 (rowOf 18 (celF (S.c 0))) (0, 0) _ y0.out Try.underlying71 rfl (infoCell' _) ?_) | (refine wpList_wload_row (by rfl) 71 _ rfl n2 rfl 71 (rowOf 18 (celF (S.c 1))) _ y1.out Try.underlying71 rfl (infoCell' _) ?_))
        refine (I1.out _).mono ?_
        rintro e w7 ⟨rfl, bb⟩
        replace y0 := Lib.hid (y0.out.below bb y0.out.lt)
        replace y1 := Lib.hid (y1.out.below bb y1.out.lt)
        replace bd := bd.trans (bb.mono bd.size)
        clear bb
        go_wp2
        go_ret2
        exact ⟨by rw [e1.out, e2.out]; rfl, bd⟩
      | true =>
        rw [h1] at I1
        have e1 : Hid (newestI S = 1) := by unfold Hid newestI; rw [if_neg hu, if_neg (by rw [h1]; simp), if_pos (.inl h0)]
        have e2 : Hid (newestE S = 0) := by unfold Hid newestE; rw [if_neg hu, if_neg (by rw [h1]; simp)]
        clear hu hu' h0 h1 hS
        go_wp2_with fail
        refine U.out.mono ?_
        rintro e w5 ⟨rfl, rfl⟩
        clear U c0
        go_wp2_with (first | (refine wpList_load_row rfl 71 _ rfl n1 rfl 71 (rowOf 18 (celF (S.c 0))) (0, 0) _ y0.out Try.underlying71 rfl (infoCell' _) ?_) | (refine wpList_wload_row (by rfl) 71 _ rfl n2 rfl 71 (rowOf 18 (celF (S.c 1))) _ y1.out Try.underlying71 rfl (infoCell' _) ?_))
        refine (I0.out _).mono ?_
        rintro e w6 ⟨rfl, bb⟩
        replace y0 := Lib.hid (y0.out.below bb y0.out.lt)
        replace y1 := Lib.hid (y1.out.below bb y1.out.lt)
        replace bd := bd.trans (bb.mono bd.size)
        clear bb
        go_wp2_with (first | (refine wpList_load_row rfl 71 _ rfl n1 rfl 71 (rowOf 18 (celF (S.c 0))) (0, 0) _ y0.out Try.underlying71 rfl (infoCell' _) ?_) | (refine wpList_wload_row (by rfl) 71 _ rfl n2 rfl 71 (rowOf 18 (celF (S.c 1))) _ y1.out Try.underlying71 rfl (infoCell' _) ?_))
        refine (I1.out _).mono ?_
        rintro e w7 ⟨rfl, bb⟩
        replace y0 := Lib.hid (y0.out.below bb y0.out.lt)
        replace y1 := Lib.hid (y1.out.below bb y1.out.lt)
        replace bd := bd.trans (bb.mono bd.size)
        clear bb
        go_wp2_with (first | (refine wpList_load_row rfl 71 _ rfl n1 rfl 71 (rowOf 18 (celF (S.c 0))) (0, 0) _ y0.out Try.underlying71 rfl (infoCell' _) ?_) | (refine wpList_wload_row (by rfl) 71 _ rfl n2 rfl 71 (rowOf 18 (celF (S.c 1))) _ y1.out Try.underlying71 rfl (infoCell' _) ?_))
        refine (I0.out _).mono ?_
        rintro e w8 ⟨rfl, bb⟩
        replace y0 := Lib.hid (y0.out.below bb y0.out.lt)
        replace y1 := Lib.hid (y1.out.below bb y1.out.lt)
        replace bd := bd.trans (bb.mono bd.size)
        clear bb
        go_wp2
        go_ret2
        exact ⟨by rw [e1.out, e2.out]; rfl, bd⟩
    | true =>
      rw [h0] at I0
      have e2 : Hid (newestE S = 0) := by unfold Hid newestE; rw [if_neg hu, if_neg (by rw [h0]; simp)]
      by_cases hl : (S.c 0).e < (S.c 1).e
      · have e1 : Hid (newestI S = 1) := by unfold Hid newestI; rw [if_neg hu, if_neg (by rw [h0]; simp), if_pos (.inr hl)]
        have d1 : decide (x1 > x0) = true := decide_eq_true (by have := hx0.out; have := hx1.out; omega)
        clear hu hu' h0 hl hS
        go_wp2_with fail
        refine U.out.mono ?_
        rintro e w5 ⟨rfl, rfl⟩
        clear U c0
        go_wp2_with (first | (refine wpList_load_row rfl 71 _ rfl n1 rfl 71 (rowOf 18 (celF (S.c 0))) (0, 0) _ y0.out Try.underlying71 rfl (infoCell' _) ?_) | (refine wpList_wload_row (by rfl) 71 _ rfl n2 rfl 71 (rowOf 18 (celF (S.c 1))) _ y1.out Try.underlying71 rfl (infoCell' _) ?_))
        refine (I0.out _).mono ?_
        rintro e w6 ⟨rfl, bb⟩
        replace y0 := Lib.hid (y0.out.below bb y0.out.lt)
        replace y1 := Lib.hid (y1.out.below bb y1.out.lt)
        replace bd := bd.trans (bb.mono bd.size)
        clear bb
        go_wp2_with (first | (refine wpList_load_row rfl 71 _ rfl n1 rfl 71 (rowOf 18 (celF (S.c 0))) (0, 0) _ y0.out Try.underlying71 rfl (infoCell' _) ?_) | (refine wpList_wload_row (by rfl) 71 _ rfl n2 rfl 71 (rowOf 18 (celF (S.c 1))) _ y1.out Try.underlying71 rfl (infoCell' _) ?_))
        refine (I0.out _).mono ?_
        rintro e w7 ⟨rfl, bb⟩
        replace y0 := Lib.hid (y0.out.below bb y0.out.lt)
        replace y1 := Lib.hid (y1.out.below bb y1.out.lt)
        replace bd := bd.trans (bb.mono bd.size)
        clear bb
        have z0 : w7.cell? ⟨n1, 17, none⟩ = some (.int .u64 x0) := by rw [← hx0.out]; exact y0.out.cell 17 (by decide)
        have z1 : w7.cell? ⟨n2, 17, none⟩ = some (.int .u64 x1) := by rw [← hx1.out]; exact y1.out.cell 17 (by decide)
        go_wp2
        go_ret2
        exact ⟨by rw [e1.out, e2.out]; rfl, bd⟩
      · have e1 : Hid (newestI S = 0) := by unfold Hid newestI; rw [if_neg hu, if_neg (by rw [h0]; simp), if_neg (by rw [h0]; simpa using hl)]
        have d1 : decide (x1 > x0) = false := decide_eq_false (by have := hx0.out; have := hx1.out; omega)
        clear hu hu' h0 hl hS
        go_wp2_with fail
        refine U.out.mono ?_
        rintro e w5 ⟨rfl, rfl⟩
        clear U c0
        go_wp2_with (first | (refine wpList_load_row rfl 71 _ rfl n1 rfl 71 (rowOf 18 (celF (S.c 0))) (0, 0) _ y0.out Try.underlying71 rfl (infoCell' _) ?_) | (refine wpList_wload_row (by rfl) 71 _ rfl n2 rfl 71 (rowOf 18 (celF (S.c 1))) _ y1.out Try.underlying71 rfl (infoCell' _) ?_))
        refine (I0.out _).mono ?_
        rintro e w6 ⟨rfl, bb⟩
        replace y0 := Lib.hid (y0.out.below bb y0.out.lt)
        replace y1 := Lib.hid (y1.out.below bb y1.out.lt)
        replace bd := bd.trans (bb.mono bd.size)
        clear bb
        go_wp2_with (first | (refine wpList_load_row rfl 71 _ rfl n1 rfl 71 (rowOf 18 (celF (S.c 0))) (0, 0) _ y0.out Try.underlying71 rfl (infoCell' _) ?_) | (refine wpList_wload_row (by rfl) 71 _ rfl n2 rfl 71 (rowOf 18 (celF (S.c 1))) _ y1.out Try.underlying71 rfl (infoCell' _) ?_))
        refine (I0.out _).mono ?_
        rintro e w7 ⟨rfl, bb⟩
        replace y0 := Lib.hid (y0.out.below bb y0.out.lt)
        replace y1 := Lib.hid (y1.out.below bb y1.out.lt)
        replace bd := bd.trans (bb.mono bd.size)
        clear bb
        have z0 : w7.cell? ⟨n1, 17, none⟩ = some (.int .u64 x0) := by rw [← hx0.out]; exact y0.out.cell 17 (by decide)
        have z1 : w7.cell? ⟨n2, 17, none⟩ = some (.int .u64 x1) := by rw [← hx1.out]; exact y1.out.cell 17 (by decide)
        go_wp2
        go_ret2
        exact ⟨by rw [e1.out, e2.out]; rfl, bd⟩
  · rw [if_pos (by rfl)]
    have b1 : Below w0.heap.size w0 (w0.alloc (.cells (rowOf 18 (celF blankC)) 71)) := (Below.refl _ _).alloc (Nat.le_refl _) _
    refine wp_new (run_allocCell rfl _) (hK.out _ _ (hS.out.after b1) fun hS => ?_)
    change wpAnyH _ _ _ _ _ 3 #[true, true, true, true, true, true, true, true, true, true, false, true, false, false] ⟨#[.pointer (some ⟨sp, 0, none⟩), undef, .int .i64 0, .int .i64 0, undef, .pointer (some ⟨w0.heap.size, 0, none⟩), .pointer (some ⟨sp, 0, none⟩), .pointer (some ⟨sp, 0, none⟩), .pointer (some ⟨sp, 1, none⟩), .pointer (some ⟨sp, 1, none⟩), .agg (rowOf 18 (celF (S.c 0))), .pointer (some ⟨sp, 0, none⟩), .pointer (some ⟨sp, 0, none⟩), .pointer (some ⟨sp, 1, none⟩), .pointer (some ⟨sp, 19, none⟩), .agg (rowOf 18 (celF (S.c 1))), undef, undef, undef, undef, undef, undef, undef, undef, undef, undef, undef, undef, undef, undef, undef, undef, undef, undef, undef, undef, undef, undef, undef, undef], []⟩ _
    clear hK K
    replace hS := Lib.hid hS
    have x1 := Lib.hid (RowAt.new w0 71 (rowOf 18 (celF blankC)))
    have l1 : w0.heap.size < (w0.alloc (.cells (rowOf 18 (celF blankC)) 71)).heap.size := x1.out.lt
    generalize hn1 : w0.heap.size = n1 at x1 l1 ⊢
    have bl : w.heap.size ≤ n1 := by have := bd.size; omega
    replace bd := bd.trans (b1.mono bd.size)
    clear b1
    generalize w0.alloc (.cells (rowOf 18 (celF blankC)) 71) = w1 at *
    clear hn1
    refine wpAnyH_ready (rs := [10]) (by kernel_rfl) (by simp) (AllReadyH.cons rfl (fun K hK => ?_) AllReadyH.nil)
    rw [if_pos (by rfl)]
    have b1 : Below w1.heap.size w1 (w1.alloc (.cells (rowOf 18 (celF blankC)) 71)) := (Below.refl _ _).alloc (Nat.le_refl _) _
    refine wp_new (run_allocCell rfl _) (hK.out _ _ (hS.out.after b1) fun hS => ?_)
    change wpAnyH _ _ _ _ _ 2 #[true, true, true, true, true, true, true, true, true, true, true, true, false, false] ⟨#[.pointer (some ⟨sp, 0, none⟩), undef, .int .i64 0, .int .i64 0, .pointer (some ⟨w1.heap.size, 0, none⟩), .pointer (some ⟨n1, 0, none⟩), .pointer (some ⟨sp, 0, none⟩), .pointer (some ⟨sp, 0, none⟩), .pointer (some ⟨sp, 1, none⟩), .pointer (some ⟨sp, 1, none⟩), .agg (rowOf 18 (celF (S.c 0))), .pointer (some ⟨sp, 0, none⟩), .pointer (some ⟨sp, 0, none⟩), .pointer (some ⟨sp, 1, none⟩), .pointer (some ⟨sp, 19, none⟩), .agg (rowOf 18 (celF (S.c 1))), undef, undef, undef, undef, undef, undef, undef, undef, undef, undef, undef, undef, undef, undef, undef, undef, undef, undef, undef, undef, undef, undef, undef, undef], []⟩ _
    clear hK K
    replace hS := Lib.hid hS
    have x2 := Lib.hid (RowAt.new w1 71 (rowOf 18 (celF blankC)))
    have l2 : w1.heap.size < (w1.alloc (.cells (rowOf 18 (celF blankC)) 71)).heap.size := x2.out.lt
    replace x1 := Lib.hid (x1.out.below b1 l1)
    generalize hn2 : w1.heap.size = n2 at x2 l2 ⊢
    have hne : Hid (n1 ≠ n2) := by unfold Hid; omega
    have bl2 : w.heap.size ≤ n2 := by omega
    replace bd := bd.trans (b1.mono bd.size)
    clear b1
    generalize w1.alloc (.cells (rowOf 18 (celF blankC)) 71) = w2 at *
    clear hn2 l1
    refine wpAnyH_ready (rs := [12]) (by kernel_rfl) (by simp) (AllReadyH.cons rfl (fun K hK => ?_) AllReadyH.nil)
    rw [if_pos (by rfl)]
    have far1 : Beside (fun k => k = n2) w2 (w2.setRow n2 (rowOf 18 (celF (S.c 0)))) := (Beside.refl (fun k => k = n2) w2).setRow (.inl rfl) _
    have hS2 : Sl B (w2.setRow n2 (rowOf 18 (celF (S.c 0)))) pp sp S := ⟨hS.out.pow.beside far1 (hS.out.pow.apart x2.out (by decide)), hS.out.row.beside far1 (hS.out.row.apart x2.out (by decide)), hS.out.low, hS.out.ok, hS.out.byte, hS.out.tall⟩
    refine wp_store_row 71 _ _ rfl n2 (rowOf 18 (celF (S.c 0))) rfl rfl 71 (rowOf 18 (celF blankC)) x2.out (infoCell' _) (by rw [rowOf_size, rowOf_size]) (celF_all _) (hK.out _ _ hS2 fun _ => ?_)
    change wpAnyH _ _ _ _ _ 1 #[true, true, true, true, true, true, true, true, true, true, true, true, true, false] ⟨#[.pointer (some ⟨sp, 0, none⟩), undef, .int .i64 0, .int .i64 0, .pointer (some ⟨n2, 0, none⟩), .pointer (some ⟨n1, 0, none⟩), .pointer (some ⟨sp, 0, none⟩), .pointer (some ⟨sp, 0, none⟩), .pointer (some ⟨sp, 1, none⟩), .pointer (some ⟨sp, 1, none⟩), .agg (rowOf 18 (celF (S.c 0))), .pointer (some ⟨sp, 0, none⟩), .pointer (some ⟨sp, 0, none⟩), .pointer (some ⟨sp, 1, none⟩), .pointer (some ⟨sp, 19, none⟩), .agg (rowOf 18 (celF (S.c 1))), undef, undef, undef, undef, undef, undef, undef, undef, undef, undef, undef, undef, undef, undef, undef, undef, undef, undef, undef, undef, undef, undef, undef, undef], []⟩ _
    clear hK K
    replace x1 := Lib.hid (x1.out.beside far1 (hne.out.symm.symm))
    replace x2 := Lib.hid (x2.out.setRow (rowOf 18 (celF (S.c 0))))
    replace hS := Lib.hid hS2
    replace bd := below_setRow' bd bl2 (rowOf 18 (celF (S.c 0)))
    clear far1 hS2
    generalize w2.setRow n2 (rowOf 18 (celF (S.c 0))) = w3 at *
    refine wpAnyH_ready (rs := [13]) (by kernel_rfl) (by simp) (AllReadyH.cons rfl (fun K hK => ?_) AllReadyH.nil)
    rw [if_pos (by rfl)]
    have far1 : Beside (fun k => k = n1) w3 (w3.setRow n1 (rowOf 18 (celF (S.c 1)))) := (Beside.refl (fun k => k = n1) w3).setRow (.inl rfl) _
    have hS2 : Sl B (w3.setRow n1 (rowOf 18 (celF (S.c 1)))) pp sp S := ⟨hS.out.pow.beside far1 (hS.out.pow.apart x1.out (by decide)), hS.out.row.beside far1 (hS.out.row.apart x1.out (by decide)), hS.out.low, hS.out.ok, hS.out.byte, hS.out.tall⟩
    refine wp_store_row 71 _ _ rfl n1 (rowOf 18 (celF (S.c 1))) rfl rfl 71 (rowOf 18 (celF blankC)) x1.out (infoCell' _) (by rw [rowOf_size, rowOf_size]) (celF_all _) (hK.out _ _ hS2 fun _ => ?_)
    change wpAnyH _ _ _ _ _ 0 #[true, true, true, true, true, true, true, true, true, true, true, true, true, true] ⟨#[.pointer (some ⟨sp, 0, none⟩), undef, .int .i64 0, .int .i64 0, .pointer (some ⟨n2, 0, none⟩), .pointer (some ⟨n1, 0, none⟩), .pointer (some ⟨sp, 0, none⟩), .pointer (some ⟨sp, 0, none⟩), .pointer (some ⟨sp, 1, none⟩), .pointer (some ⟨sp, 1, none⟩), .agg (rowOf 18 (celF (S.c 0))), .pointer (some ⟨sp, 0, none⟩), .pointer (some ⟨sp, 0, none⟩), .pointer (some ⟨sp, 1, none⟩), .pointer (some ⟨sp, 19, none⟩), .agg (rowOf 18 (celF (S.c 1))), undef, undef, undef, undef, undef, undef, undef, undef, undef, undef, undef, undef, undef, undef, undef, undef, undef, undef, undef, undef, undef, undef, undef, undef], []⟩ _
    clear hK K
    replace x2 := Lib.hid (x2.out.beside far1 (hne.out.symm.symm.symm))
    replace x1 := Lib.hid (x1.out.setRow (rowOf 18 (celF (S.c 1))))
    replace hS := Lib.hid hS2
    replace bd := below_setRow' bd bl (rowOf 18 (celF (S.c 1)))
    clear far1 hS2
    generalize w3.setRow n1 (rowOf 18 (celF (S.c 1))) = w4 at *
    refine wpAnyH_done (by kernel_rfl) ?_ _
    clear hne l2
    have y0 := Lib.hid x2.out
    have y1 := Lib.hid x1.out
    clear x1 x2
    dsimp only
    have U := Lib.hid (powUp_any pp S.p.up S.p.left S.p.keep S.p.junk w4 hS.out.pow)
    have I0 := Lib.hid (fun w' => isBlank_any (S.c 0) (hS.out.ok 0) w')
    have I1 := Lib.hid (fun w' => isBlank_any (S.c 1) (hS.out.ok 1) w')
    have c0 := hS.out.c0
    by_cases hu : S.p.up = false
    · have e1 : Hid (newestI S = 0) := if_pos hu
      have e2 : Hid (newestE S = 4) := if_pos hu
      rw [hu] at U
      clear hu I0 I1 y0 y1
      go_wp2_with fail
      refine U.out.mono ?_
      rintro e w5 ⟨rfl, rfl⟩
      go_wp2
      go_ret2
      exact ⟨by rw [e1.out, e2.out]; rfl, bd⟩
    have hu' : S.p.up = true := by simpa using hu
    rw [hu'] at U
    cases h0 : (S.c 0).h with
    | false =>
      rw [h0] at I0
      cases h1 : (S.c 1).h with
      | false =>
        rw [h1] at I1
        have e1 : Hid (newestI S = 0) := by unfold Hid newestI; rw [if_neg hu, if_pos ⟨h0, h1⟩]
        have e2 : Hid (newestE S = 110) := by unfold Hid newestE; rw [if_neg hu, if_pos ⟨h0, h1⟩]
        clear hu hu' h0 h1 hS
        go_wp2_with fail
        refine U.out.mono ?_
        rintro e w5 ⟨rfl, rfl⟩
        clear U c0
        go_wp2_with (first | (refine wpList_load_row rfl 71 _ rfl n2 rfl 71 (rowOf 18 (celF (S.c 0))) (0, 0) _ y0.out Try.underlying71 rfl (infoCell' _) ?_) | (refine wpList_wload_row (by rfl) 71 _ rfl n1 rfl 71 (rowOf 18 (celF (S.c 1))) _ y1.out Try.underlying71 rfl (infoCell' _) ?_))
        refine (I0.out _).mono ?_
        rintro e w6 ⟨rfl, bb⟩
        replace y0 := Lib.hid (y0.out.below bb y0.out.lt)
        replace y1 := Lib.hid (y1.out.below bb y1.out.lt)
        replace bd := bd.trans (bb.mono bd.size)
        clear bb
        go_wp2_with (first | (refine wpList_load_row rfl 71 _ rfl n2 rfl 71 (rowOf 18 (celF (S.c 0))) (0, 0) _ y0.out Try.underlying71 rfl (infoCell' _) ?_) | (refine wpList_wload_row (by rfl) 71 _ rfl n1 rfl 71 (rowOf 18 (celF (S.c 1))) _ y1.out Try.underlying71 rfl (infoCell' _) ?_))
        refine (I1.out _).mono ?_
        rintro e w7 ⟨rfl, bb⟩
        replace y0 := Lib.hid (y0.out.below bb y0.out.lt)
        replace y1 := Lib.hid (y1.out.below bb y1.out.lt)
        replace bd := bd.trans (bb.mono bd.size)
        clear bb
        go_wp2
        go_ret2
        exact ⟨by rw [e1.out, e2.out]; rfl, bd⟩
      | true =>
        rw [h1] at I1
        have e1 : Hid (newestI S = 1) := by unfold Hid newestI; rw [if_neg hu, if_neg (by rw [h1]; simp), if_pos (.inl h0)]
        have e2 : Hid (newestE S = 0) := by unfold Hid newestE; rw [if_neg hu, if_neg (by rw [h1]; simp)]
        clear hu hu' h0 h1 hS
        go_wp2_with fail
        refine U.out.mono ?_
        rintro e w5 ⟨rfl, rfl⟩
        clear U c0
        go_wp2_with (first | (refine wpList_load_row rfl 71 _ rfl n2 rfl 71 (rowOf 18 (celF (S.c 0))) (0, 0) _ y0.out Try.underlying71 rfl (infoCell' _) ?_) | (refine wpList_wload_row (by rfl) 71 _ rfl n1 rfl 71 (rowOf 18 (celF (S.c 1))) _ y1.out Try.underlying71 rfl (infoCell' _) ?_))
        refine (I0.out _).mono ?_
        rintro e w6 ⟨rfl, bb⟩
        replace y0 := Lib.hid (y0.out.below bb y0.out.lt)
        replace y1 := Lib.hid (y1.out.below bb y1.out.lt)
        replace bd := bd.trans (bb.mono bd.size)
        clear bb
        go_wp2_with (first | (refine wpList_load_row rfl 71 _ rfl n2 rfl 71 (rowOf 18 (celF (S.c 0))) (0, 0) _ y0.out Try.underlying71 rfl (infoCell' _) ?_) | (refine wpList_wload_row (by rfl) 71 _ rfl n1 rfl 71 (rowOf 18 (celF (S.c 1))) _ y1.out Try.underlying71 rfl (infoCell' _) ?_))
        refine (I1.out _).mono ?_
        rintro e w7 ⟨rfl, bb⟩
        replace y0 := Lib.hid (y0.out.below bb y0.out.lt)
        replace y1 := Lib.hid (y1.out.below bb y1.out.lt)
        replace bd := bd.trans (bb.mono bd.size)
        clear bb
        go_wp2_with (first | (refine wpList_load_row rfl 71 _ rfl n2 rfl 71 (rowOf 18 (celF (S.c 0))) (0, 0) _ y0.out Try.underlying71 rfl (infoCell' _) ?_) | (refine wpList_wload_row (by rfl) 71 _ rfl n1 rfl 71 (rowOf 18 (celF (S.c 1))) _ y1.out Try.underlying71 rfl (infoCell' _) ?_))
        refine (I0.out _).mono ?_
        rintro e w8 ⟨rfl, bb⟩
        replace y0 := Lib.hid (y0.out.below bb y0.out.lt)
        replace y1 := Lib.hid (y1.out.below bb y1.out.lt)
        replace bd := bd.trans (bb.mono bd.size)
        clear bb
        go_wp2
        go_ret2
        exact ⟨by rw [e1.out, e2.out]; rfl, bd⟩
    | true =>
      rw [h0] at I0
      have e2 : Hid (newestE S = 0) := by unfold Hid newestE; rw [if_neg hu, if_neg (by rw [h0]; simp)]
      by_cases hl : (S.c 0).e < (S.c 1).e
      · have e1 : Hid (newestI S = 1) := by unfold Hid newestI; rw [if_neg hu, if_neg (by rw [h0]; simp), if_pos (.inr hl)]
        have d1 : decide (x1 > x0) = true := decide_eq_true (by have := hx0.out; have := hx1.out; omega)
        clear hu hu' h0 hl hS
        go_wp2_with fail
        refine U.out.mono ?_
        rintro e w5 ⟨rfl, rfl⟩
        clear U c0
        go_wp2_with (first | (refine wpList_load_row rfl 71 _ rfl n2 rfl 71 (rowOf 18 (celF (S.c 0))) (0, 0) _ y0.out Try.underlying71 rfl (infoCell' _) ?_) | (refine wpList_wload_row (by rfl) 71 _ rfl n1 rfl 71 (rowOf 18 (celF (S.c 1))) _ y1.out Try.underlying71 rfl (infoCell' _) ?_))
        refine (I0.out _).mono ?_
        rintro e w6 ⟨rfl, bb⟩
        replace y0 := Lib.hid (y0.out.below bb y0.out.lt)
        replace y1 := Lib.hid (y1.out.below bb y1.out.lt)
        replace bd := bd.trans (bb.mono bd.size)
        clear bb
        go_wp2_with (first | (refine wpList_load_row rfl 71 _ rfl n2 rfl 71 (rowOf 18 (celF (S.c 0))) (0, 0) _ y0.out Try.underlying71 rfl (infoCell' _) ?_) | (refine wpList_wload_row (by rfl) 71 _ rfl n1 rfl 71 (rowOf 18 (celF (S.c 1))) _ y1.out Try.underlying71 rfl (infoCell' _) ?_))
        refine (I0.out _).mono ?_
        rintro e w7 ⟨rfl, bb⟩
        replace y0 := Lib.hid (y0.out.below bb y0.out.lt)
        replace y1 := Lib.hid (y1.out.below bb y1.out.lt)
        replace bd := bd.trans (bb.mono bd.size)
        clear bb
        have z0 : w7.cell? ⟨n2, 17, none⟩ = some (.int .u64 x0) := by rw [← hx0.out]; exact y0.out.cell 17 (by decide)
        have z1 : w7.cell? ⟨n1, 17, none⟩ = some (.int .u64 x1) := by rw [← hx1.out]; exact y1.out.cell 17 (by decide)
        go_wp2
        go_ret2
        exact ⟨by rw [e1.out, e2.out]; rfl, bd⟩
      · have e1 : Hid (newestI S = 0) := by unfold Hid newestI; rw [if_neg hu, if_neg (by rw [h0]; simp), if_neg (by rw [h0]; simpa using hl)]
        have d1 : decide (x1 > x0) = false := decide_eq_false (by have := hx0.out; have := hx1.out; omega)
        clear hu hu' h0 hl hS
        go_wp2_with fail
        refine U.out.mono ?_
        rintro e w5 ⟨rfl, rfl⟩
        clear U c0
        go_wp2_with (first | (refine wpList_load_row rfl 71 _ rfl n2 rfl 71 (rowOf 18 (celF (S.c 0))) (0, 0) _ y0.out Try.underlying71 rfl (infoCell' _) ?_) | (refine wpList_wload_row (by rfl) 71 _ rfl n1 rfl 71 (rowOf 18 (celF (S.c 1))) _ y1.out Try.underlying71 rfl (infoCell' _) ?_))
        refine (I0.out _).mono ?_
        rintro e w6 ⟨rfl, bb⟩
        replace y0 := Lib.hid (y0.out.below bb y0.out.lt)
        replace y1 := Lib.hid (y1.out.below bb y1.out.lt)
        replace bd := bd.trans (bb.mono bd.size)
        clear bb
        go_wp2_with (first | (refine wpList_load_row rfl 71 _ rfl n2 rfl 71 (rowOf 18 (celF (S.c 0))) (0, 0) _ y0.out Try.underlying71 rfl (infoCell' _) ?_) | (refine wpList_wload_row (by rfl) 71 _ rfl n1 rfl 71 (rowOf 18 (celF (S.c 1))) _ y1.out Try.underlying71 rfl (infoCell' _) ?_))
        refine (I0.out _).mono ?_
        rintro e w7 ⟨rfl, bb⟩
        replace y0 := Lib.hid (y0.out.below bb y0.out.lt)
        replace y1 := Lib.hid (y1.out.below bb y1.out.lt)
        replace bd := bd.trans (bb.mono bd.size)
        clear bb
        have z0 : w7.cell? ⟨n2, 17, none⟩ = some (.int .u64 x0) := by rw [← hx0.out]; exact y0.out.cell 17 (by decide)
        have z1 : w7.cell? ⟨n1, 17, none⟩ = some (.int .u64 x1) := by rw [← hx1.out]; exact y1.out.cell 17 (by decide)
        go_wp2
        go_ret2
        exact ⟨by rw [e1.out, e2.out]; rfl, bd⟩

end Go.Proofs.Ytopajipagacmkaa
