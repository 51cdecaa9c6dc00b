/-
  Contract: Read.
-/
import Derived.Test.YtopajipagacmkaaSlotWrite
import Derived.Test.YtopajipagacmkaaNandRefPow
import Derived.Deep.RegionHeld
namespace Go.Proofs.Ytopajipagacmkaa
open Go.RowKit
set_option linter.unusedVariables false

/-- What Read answers. -/
def readE (S : SS) (z : Int) : Nat := if S.p.up = false then 4 else if inB z 2 = false then 1 else if (S.c z.toNat).h = false then 110 else 0
def readC (S : SS) (z : Int) : Cel := if S.p.up = false then blankC else if inB z 2 = false then blankC else S.c z.toNat
def readVS (S : SS) (z : Int) : Array Value := #[.agg (rowOf 16 (w8 (readC S z).k)), .int .u64 ((readC S z).e : Nat), .int .i64 (readE S z : Nat)]

theorem run_allocKey {o : Oper} {a : Act} (ho : o.op = .alloc 31) (w : World) : (execOp a.eval o).run Try.prog w = .ok (.value (.pointer (some ⟨w.heap.size, 0, none⟩))) (w.alloc (.cells (rowOf 16 (w8 zeroN)) 31)) := by
  unfold execOp
  rw [ho]
  kernel_rfl
/-- A part of a row, loaded at the operation. -/
theorem run_load_part {P : Program} {w : World} {g s n : Nat} {t ty : TypeId} {cs : Array Value} {d : TypeDesc} {f : Nat → Value} (hg : RowAt w g t cs) (hc : ∀ j, j < n → cs[s + j]? = some (f j)) (hu : P.underlying ty = some d) (hd : (match d with | .struct _ | .array _ _ => true | _ => false) = true) (hi : (P.info? ty).map (·.size) = some n)
    {o : Oper} {a : Act} {x : Operand} (ho : o.op = .load ty x) (hx : a.eval x = .pointer (some ⟨g, s, none⟩)) : (execOp a.eval o).run P w = .ok (.value (.agg (rowOf n f))) w := by
  unfold execOp
  simp only [ho, hx, Instr.loadAt, Instr.sureAddr, Sem.run_bind, Sem.run_pure, Result.andThen_ok, run_loadVar_at w g s t ty cs d n f hg hc hu hd hi]

/-- One cell, loaded at the operation. -/
theorem run_load_cell {P : Program} {w : World} {x : Addr} {v : Value} {ty : TypeId} {d : TypeDesc} (hc : w.cell? x = some v) (hu : P.underlying ty = some d) (hd : (match d with | .struct _ | .array _ _ => false | _ => true) = true)
    {o : Oper} {a : Act} {y : Operand} (ho : o.op = .load ty y) (hx : a.eval y = .pointer (some x)) : (execOp a.eval o).run P w = .ok (.value v) w := by
  unfold execOp
  simp only [ho, hx, Instr.loadAt, Instr.sureAddr, Sem.run_bind, Sem.run_pure, Result.andThen_ok, run_loadVar_one w _ v hc hu hd]

theorem celF_key (c : Cel) (j : Nat) (hj : j < 16) : celF c (1 + j) = w8 c.k j := by
  unfold celF w8
  rw [if_neg (by omega), if_pos (by omega), show 1 + j - 1 = j by omega]
theorem Sl.getKey {B : Nat} {w : World} {pp sp : Nat} {S : SS} (h : Sl B w pp sp S) {i : Nat} (hi : i < 2) : ∀ j, j < 16 → (rowOf 37 (slF pp S.c))[1 + i * 18 + 1 + j]? = some (w8 (S.c i).k j) := fun j hj => by
  have := h.get hi (1 + j) (by omega)
  rw [celF_key _ _ hj, ← Nat.add_assoc] at this
  exact this

theorem Sl.getEpoch {B : Nat} {w : World} {pp sp : Nat} {S : SS} (h : Sl B w pp sp S) {i : Nat} (hi : i < 2) : w.cell? ⟨sp, 1 + i * 18 + 17, none⟩ = some (.int .u64 ((S.c i).e : Nat)) := by
  rw [h.row.cell (1 + i * 18 + 17) (by omega), slF_at _ _ _ _ (by decide)]
  rfl

set_option maxHeartbeats 1000000 in
set_option maxRecDepth 8000 in
theorem slotRead_any (B pp sp : Nat) (S : SS) (w : World) (h : Hid (Sl B w pp sp S)) (z : Int) :
    Calls Try.prog 25 #[.pointer (some ⟨sp, 0, none⟩), .int .i64 z] w fun e w' => e = .returned (.tuple (readVS S z)) ∧ Below w.heap.size w w' := by
  have b0 : Below w.heap.size w (w.alloc (.cells (rowOf 16 (w8 zeroN)) 31)) := (Below.refl _ _).alloc (Nat.le_refl _) _
  have r0 := Lib.hid (RowAt.new w 31 (rowOf 16 (w8 zeroN)))
  have s0 := Lib.hid (h.out.after b0)
  have hsz : w.heap.size ≤ w.heap.size := Nat.le_refl _
  have c0 := s0.out.c0
  have U := Lib.hid (powUp_any pp S.p.up S.p.left S.p.keep S.p.junk _ s0.out.pow)
  have H := Lib.hid (fun w' => slotHas_any (.pointer (some ⟨sp, 0, none⟩)) z w')
  clear h
  by_cases hu : S.p.up = false
  · have eV : Hid (readVS S z = #[.agg (rowOf 16 (w8 zeroN)), .int .u64 0, .int .i64 4]) := by unfold Hid readVS readC readE; rw [if_pos hu, if_pos hu]; rfl
    rw [hu] at U
    clear hu
    go_enter Try.func25, Try.ntmps25
    go_wp2_with (refine wpList_new rfl (run_allocKey rfl _) ?_; generalize w.alloc (.cells (rowOf 16 (w8 zeroN)) 31) = w0 at *)
    refine U.out.mono ?_
    rintro e w1 ⟨rfl, rfl⟩
    go_wp2_with (refine wpList_buildTo rfl 31 _ rfl _ rfl (rowOf 16 (w8 zeroN)) (by kernel_rfl) ?_; refine wpList_store_row rfl 31 _ _ rfl w.heap.size (rowOf 16 (w8 zeroN)) rfl rfl 31 _ r0.out (info_key _) rfl (rowOf_cells8 _ _) ?_)
    refine bodyPost_ret (v := .tuple #[.agg (rowOf 16 (w8 zeroN)), .int .u64 0, .int .i64 4]) ?_ rfl ⟨by rw [eV.out], below_setRow' b0 (Nat.le_refl _) _⟩
    exact results_row_two' Try.results25 _ _ w.heap.size 31 (rowOf 16 (w8 zeroN)) (0, 0) _ rfl (r0.out.setRow _) Try.underlying31 rfl (info_key _)
  have hu' : S.p.up = true := by simpa using hu
  rw [hu'] at U
  by_cases hin : inB z 2 = false
  · have eV : Hid (readVS S z = #[.agg (rowOf 16 (w8 zeroN)), .int .u64 0, .int .i64 1]) := by unfold Hid readVS readC readE; rw [if_neg hu, if_neg hu, if_pos hin, if_pos hin]; rfl
    rw [hin] at H
    clear hu hu' hin
    go_enter Try.func25, Try.ntmps25
    go_wp2_with (refine wpList_new rfl (run_allocKey rfl _) ?_; generalize w.alloc (.cells (rowOf 16 (w8 zeroN)) 31) = w0 at *)
    refine U.out.mono ?_
    rintro e w1 ⟨rfl, rfl⟩
    go_wp2_with fail
    refine (H.out _).mono ?_
    rintro e w1 ⟨rfl, rfl⟩
    go_wp2_with (refine wpList_buildTo rfl 31 _ rfl _ rfl (rowOf 16 (w8 zeroN)) (by kernel_rfl) ?_; refine wpList_store_row rfl 31 _ _ rfl w.heap.size (rowOf 16 (w8 zeroN)) rfl rfl 31 _ r0.out (info_key _) rfl (rowOf_cells8 _ _) ?_)
    refine bodyPost_ret (v := .tuple #[.agg (rowOf 16 (w8 zeroN)), .int .u64 0, .int .i64 1]) ?_ rfl ⟨by rw [eV.out], below_setRow' b0 (Nat.le_refl _) _⟩
    exact results_row_two' Try.results25 _ _ w.heap.size 31 (rowOf 16 (w8 zeroN)) (0, 0) _ rfl (r0.out.setRow _) Try.underlying31 rfl (info_key _)
  have hin' : inB z 2 = true := by simpa using hin
  rw [hin'] at H
  obtain ⟨i, rfl, hi⟩ := inB_get hin'
  have i1 := (cell_no i hi).2
  have Bl := Lib.hid (fun w' => isBlank_any (S.c i) (s0.out.ok i) w')
  have G := Lib.hid (s0.out.get hi)
  by_cases hc : (S.c i).h = false
  · have eV : Hid (readVS S (i : Nat) = #[.agg (rowOf 16 (w8 zeroN)), .int .u64 0, .int .i64 110]) := by
      unfold Hid readVS readC readE
      rw [if_neg hu, if_neg hu, if_neg hin, if_neg hin, show ((i : Nat) : Int).toNat = i from rfl, if_pos hc, (s0.out.ok i).no hc]
      rfl
    rw [hc] at Bl
    clear hu hu' hin hin' hc
    go_enter Try.func25, Try.ntmps25
    go_wp2_with (refine wpList_new rfl (run_allocKey rfl _) ?_; generalize w.alloc (.cells (rowOf 16 (w8 zeroN)) 31) = w0 at *)
    refine U.out.mono ?_
    rintro e w1 ⟨rfl, rfl⟩
    go_wp2_with fail
    refine (H.out _).mono ?_
    rintro e w1 ⟨rfl, rfl⟩
    go_wp2_with (refine wpList_load_at rfl 71 _ rfl sp (1 + i * 18) rfl 74 _ _ 18 (celF (S.c i)) s0.out.row G.out Try.underlying71 rfl infoCell ?_)
    refine (Bl.out _).mono ?_
    rintro e w1 ⟨rfl, b1⟩
    replace r0 := Lib.hid (r0.out.below b1 r0.out.lt)
    replace b0 := b0.trans (b1.mono b0.size)
    go_wp2_with (refine wpList_buildTo rfl 31 _ rfl _ rfl (rowOf 16 (w8 zeroN)) (by kernel_rfl) ?_; refine wpList_store_row rfl 31 _ _ rfl w.heap.size (rowOf 16 (w8 zeroN)) rfl rfl 31 _ r0.out (info_key _) rfl (rowOf_cells8 _ _) ?_)
    refine bodyPost_ret (v := .tuple #[.agg (rowOf 16 (w8 zeroN)), .int .u64 0, .int .i64 110]) ?_ rfl ⟨by rw [eV.out], below_setRow' b0 (Nat.le_refl _) _⟩
    exact results_row_two' Try.results25 _ _ w.heap.size 31 (rowOf 16 (w8 zeroN)) (0, 0) _ rfl (r0.out.setRow _) Try.underlying31 rfl (info_key _)
  · have hc' : (S.c i).h = true := by simpa using hc
    have eV : Hid (readVS S (i : Nat) = #[.agg (rowOf 16 (w8 (S.c i).k)), .int .u64 ((S.c i).e : Nat), .int .i64 0]) := by
      unfold Hid readVS readC readE
      rw [if_neg hu, if_neg hu, if_neg hin, if_neg hin, show ((i : Nat) : Int).toNat = i from rfl, if_neg hc]
      rfl
    rw [hc'] at Bl
    clear hu hu' hin hin' hc hc'
    go_enter Try.func25, Try.ntmps25
    go_wp2_with (refine wpList_new rfl (run_allocKey rfl _) ?_; generalize w.alloc (.cells (rowOf 16 (w8 zeroN)) 31) = w0 at *)
    refine U.out.mono ?_
    rintro e w1 ⟨rfl, rfl⟩
    go_wp2_with fail
    refine (H.out _).mono ?_
    rintro e w1 ⟨rfl, rfl⟩
    go_wp2_with (refine wpList_load_at rfl 71 _ rfl sp (1 + i * 18) rfl 74 _ _ 18 (celF (S.c i)) s0.out.row G.out Try.underlying71 rfl infoCell ?_)
    refine (Bl.out _).mono ?_
    rintro e w1 ⟨rfl, b1⟩
    replace r0 := Lib.hid (r0.out.below b1 r0.out.lt)
    replace b0 := b0.trans (b1.mono b0.size)
    replace s0 := Lib.hid (s0.out.after b1)
    clear b1 U H Bl c0 G
    go_wp2_with fail
    refine wp_region_held_drew (S := fun w' => Sl B w' pp sp S) (by kernel_rfl) (s0.out.after ((Below.refl _ w1).drew)) fun hS => ?_
    change wpAnyH _ _ _ _ _ 17 #[false, false, false, false, false, false, false, false, false, false, false, false, false, false, false, false, false] _ _
    have bd : Below w1.heap.size w1 (World.drew w1) := (Below.refl _ _).drew
    replace hS := Lib.hid hS
    replace r0 := Lib.hid (r0.out.below bd r0.out.lt)
    replace b0 := b0.trans (bd.mono b0.size)
    clear bd s0
    generalize World.drew w1 = w2 at *
    refine wpAnyH_take (i := 0) (v := .pointer (some ⟨sp, 0, none⟩)) rfl (by kernel_rfl) (by kernel_rfl) (by kernel_rfl) (fun _ _ _ h => h) (Or.inl ⟨by rfl, fun w' hw' => by go_simp⟩) hS.out ?_
    change wpAnyH _ _ _ _ _ 16 #[true, false, false, false, false, false, false, false, false, false, false, false, false, false, false, false, false] ⟨#[.pointer (some ⟨sp, 0, none⟩), .int .i64 (i : Nat), undef, undef, .pointer (some ⟨w.heap.size, 0, none⟩), .int .u64 0, .int .i64 0, .bool false, .pointer (some ⟨sp, 0, none⟩), .pointer (some ⟨sp, 0, none⟩), .pointer (some ⟨sp, 0, none⟩), .pointer (some ⟨pp, 0, none⟩), .bool true, .bool false, undef, .bool false, .pointer (some ⟨sp, 0, none⟩), .int .i64 (i : Nat), .bool true, .bool false, undef, .bool false, .pointer (some ⟨sp, 0, none⟩), .int .i64 (i : Nat), .pointer (some ⟨sp, 0, none⟩), .pointer (some ⟨sp, 1, none⟩), .pointer (some ⟨sp, 1 + i * 18, none⟩), .agg (rowOf 18 (celF (S.c i))), .bool false, undef, .pointer (some ⟨sp, 0, none⟩), undef, undef, undef, undef, undef, undef, undef, undef, undef, undef, undef, undef, undef], []⟩ _
    refine wpAnyH_take (i := 1) (v := .int .i64 (i : Nat)) rfl (by kernel_rfl) (by kernel_rfl) (by kernel_rfl) (fun _ _ _ h => h) (Or.inl ⟨by rfl, fun w' hw' => by go_simp⟩) hS.out ?_
    change wpAnyH _ _ _ _ _ 15 #[true, true, false, false, false, false, false, false, false, false, false, false, false, false, false, false, false] ⟨#[.pointer (some ⟨sp, 0, none⟩), .int .i64 (i : Nat), undef, undef, .pointer (some ⟨w.heap.size, 0, none⟩), .int .u64 0, .int .i64 0, .bool false, .pointer (some ⟨sp, 0, none⟩), .pointer (some ⟨sp, 0, none⟩), .pointer (some ⟨sp, 0, none⟩), .pointer (some ⟨pp, 0, none⟩), .bool true, .bool false, undef, .bool false, .pointer (some ⟨sp, 0, none⟩), .int .i64 (i : Nat), .bool true, .bool false, undef, .bool false, .pointer (some ⟨sp, 0, none⟩), .int .i64 (i : Nat), .pointer (some ⟨sp, 0, none⟩), .pointer (some ⟨sp, 1, none⟩), .pointer (some ⟨sp, 1 + i * 18, none⟩), .agg (rowOf 18 (celF (S.c i))), .bool false, undef, .pointer (some ⟨sp, 0, none⟩), .int .i64 (i : Nat), undef, undef, undef, undef, undef, undef, undef, undef, undef, undef, undef, undef], []⟩ _
    refine wpAnyH_take (i := 2) (v := .pointer (some ⟨sp, 0, none⟩)) rfl (by kernel_rfl) (by kernel_rfl) (by kernel_rfl) (fun _ _ _ h => h) (Or.inl ⟨by rfl, fun w' hw' => by go_simp⟩) hS.out ?_
    change wpAnyH _ _ _ _ _ 14 #[true, true, true, false, false, false, false, false, false, false, false, false, false, false, false, false, false] ⟨#[.pointer (some ⟨sp, 0, none⟩), .int .i64 (i : Nat), undef, undef, .pointer (some ⟨w.heap.size, 0, none⟩), .int .u64 0, .int .i64 0, .bool false, .pointer (some ⟨sp, 0, none⟩), .pointer (some ⟨sp, 0, none⟩), .pointer (some ⟨sp, 0, none⟩), .pointer (some ⟨pp, 0, none⟩), .bool true, .bool false, undef, .bool false, .pointer (some ⟨sp, 0, none⟩), .int .i64 (i : Nat), .bool true, .bool false, undef, .bool false, .pointer (some ⟨sp, 0, none⟩), .int .i64 (i : Nat), .pointer (some ⟨sp, 0, none⟩), .pointer (some ⟨sp, 1, none⟩), .pointer (some ⟨sp, 1 + i * 18, none⟩), .agg (rowOf 18 (celF (S.c i))), .bool false, undef, .pointer (some ⟨sp, 0, none⟩), .int .i64 (i : Nat), .pointer (some ⟨sp, 0, none⟩), undef, undef, undef, undef, undef, undef, undef, undef, undef, undef, undef], []⟩ _
    refine wpAnyH_take (i := 3) (v := .pointer (some ⟨sp, 1, none⟩)) rfl (by kernel_rfl) (by kernel_rfl) (by kernel_rfl) (fun _ _ _ h => h) (Or.inl ⟨by rfl, fun w' hw' => by go_simp⟩) hS.out ?_
    change wpAnyH _ _ _ _ _ 13 #[true, true, true, true, false, false, false, false, false, false, false, false, false, false, false, false, false] ⟨#[.pointer (some ⟨sp, 0, none⟩), .int .i64 (i : Nat), undef, undef, .pointer (some ⟨w.heap.size, 0, none⟩), .int .u64 0, .int .i64 0, .bool false, .pointer (some ⟨sp, 0, none⟩), .pointer (some ⟨sp, 0, none⟩), .pointer (some ⟨sp, 0, none⟩), .pointer (some ⟨pp, 0, none⟩), .bool true, .bool false, undef, .bool false, .pointer (some ⟨sp, 0, none⟩), .int .i64 (i : Nat), .bool true, .bool false, undef, .bool false, .pointer (some ⟨sp, 0, none⟩), .int .i64 (i : Nat), .pointer (some ⟨sp, 0, none⟩), .pointer (some ⟨sp, 1, none⟩), .pointer (some ⟨sp, 1 + i * 18, none⟩), .agg (rowOf 18 (celF (S.c i))), .bool false, undef, .pointer (some ⟨sp, 0, none⟩), .int .i64 (i : Nat), .pointer (some ⟨sp, 0, none⟩), .pointer (some ⟨sp, 1, none⟩), undef, undef, undef, undef, undef, undef, undef, undef, undef, undef], []⟩ _
    refine wpAnyH_take (i := 4) (v := .pointer (some ⟨sp, 1 + i * 18, none⟩)) rfl (by kernel_rfl) (by kernel_rfl) (by kernel_rfl) (fun _ _ _ h => h) (Or.inl ⟨by rfl, fun w' hw' => by go_simp⟩) hS.out ?_
    change wpAnyH _ _ _ _ _ 12 #[true, true, true, true, true, false, false, false, false, false, false, false, false, false, false, false, false] ⟨#[.pointer (some ⟨sp, 0, none⟩), .int .i64 (i : Nat), undef, undef, .pointer (some ⟨w.heap.size, 0, none⟩), .int .u64 0, .int .i64 0, .bool false, .pointer (some ⟨sp, 0, none⟩), .pointer (some ⟨sp, 0, none⟩), .pointer (some ⟨sp, 0, none⟩), .pointer (some ⟨pp, 0, none⟩), .bool true, .bool false, undef, .bool false, .pointer (some ⟨sp, 0, none⟩), .int .i64 (i : Nat), .bool true, .bool false, undef, .bool false, .pointer (some ⟨sp, 0, none⟩), .int .i64 (i : Nat), .pointer (some ⟨sp, 0, none⟩), .pointer (some ⟨sp, 1, none⟩), .pointer (some ⟨sp, 1 + i * 18, none⟩), .agg (rowOf 18 (celF (S.c i))), .bool false, undef, .pointer (some ⟨sp, 0, none⟩), .int .i64 (i : Nat), .pointer (some ⟨sp, 0, none⟩), .pointer (some ⟨sp, 1, none⟩), .pointer (some ⟨sp, 1 + i * 18, none⟩), undef, undef, undef, undef, undef, undef, undef, undef, undef], []⟩ _
    refine wpAnyH_take (i := 5) (v := .pointer (some ⟨sp, 1 + i * 18 + 1, none⟩)) rfl (by kernel_rfl) (by kernel_rfl) (by kernel_rfl) (fun _ _ _ h => h) (Or.inl ⟨by rfl, fun w' hw' => by go_simp⟩) hS.out ?_
    change wpAnyH _ _ _ _ _ 11 #[true, true, true, true, true, true, false, false, false, false, false, false, false, false, false, false, false] ⟨#[.pointer (some ⟨sp, 0, none⟩), .int .i64 (i : Nat), undef, undef, .pointer (some ⟨w.heap.size, 0, none⟩), .int .u64 0, .int .i64 0, .bool false, .pointer (some ⟨sp, 0, none⟩), .pointer (some ⟨sp, 0, none⟩), .pointer (some ⟨sp, 0, none⟩), .pointer (some ⟨pp, 0, none⟩), .bool true, .bool false, undef, .bool false, .pointer (some ⟨sp, 0, none⟩), .int .i64 (i : Nat), .bool true, .bool false, undef, .bool false, .pointer (some ⟨sp, 0, none⟩), .int .i64 (i : Nat), .pointer (some ⟨sp, 0, none⟩), .pointer (some ⟨sp, 1, none⟩), .pointer (some ⟨sp, 1 + i * 18, none⟩), .agg (rowOf 18 (celF (S.c i))), .bool false, undef, .pointer (some ⟨sp, 0, none⟩), .int .i64 (i : Nat), .pointer (some ⟨sp, 0, none⟩), .pointer (some ⟨sp, 1, none⟩), .pointer (some ⟨sp, 1 + i * 18, none⟩), .pointer (some ⟨sp, 1 + i * 18 + 1, none⟩), undef, undef, undef, undef, undef, undef, undef, undef], []⟩ _
    refine wpAnyH_take (i := 6) (v := .agg (rowOf 16 (w8 (S.c i).k))) rfl (by kernel_rfl) (by kernel_rfl) (by kernel_rfl) (fun _ _ _ h => h) (Or.inl ⟨by rfl, fun w' hw' => run_load_part (g := sp) (s := 1 + i * 18 + 1) hw'.row (hw'.getKey hi) Try.underlying31 rfl info_key18 rfl rfl⟩) hS.out ?_
    change wpAnyH _ _ _ _ _ 10 #[true, true, true, true, true, true, true, false, false, false, false, false, false, false, false, false, false] ⟨#[.pointer (some ⟨sp, 0, none⟩), .int .i64 (i : Nat), undef, undef, .pointer (some ⟨w.heap.size, 0, none⟩), .int .u64 0, .int .i64 0, .bool false, .pointer (some ⟨sp, 0, none⟩), .pointer (some ⟨sp, 0, none⟩), .pointer (some ⟨sp, 0, none⟩), .pointer (some ⟨pp, 0, none⟩), .bool true, .bool false, undef, .bool false, .pointer (some ⟨sp, 0, none⟩), .int .i64 (i : Nat), .bool true, .bool false, undef, .bool false, .pointer (some ⟨sp, 0, none⟩), .int .i64 (i : Nat), .pointer (some ⟨sp, 0, none⟩), .pointer (some ⟨sp, 1, none⟩), .pointer (some ⟨sp, 1 + i * 18, none⟩), .agg (rowOf 18 (celF (S.c i))), .bool false, undef, .pointer (some ⟨sp, 0, none⟩), .int .i64 (i : Nat), .pointer (some ⟨sp, 0, none⟩), .pointer (some ⟨sp, 1, none⟩), .pointer (some ⟨sp, 1 + i * 18, none⟩), .pointer (some ⟨sp, 1 + i * 18 + 1, none⟩), .agg (rowOf 16 (w8 (S.c i).k)), undef, undef, undef, undef, undef, undef, undef], []⟩ _
    refine wpAnyH_take (i := 7) (v := .pointer (some ⟨sp, 0, none⟩)) rfl (by kernel_rfl) (by kernel_rfl) (by kernel_rfl) (fun _ _ _ h => h) (Or.inl ⟨by rfl, fun w' hw' => by go_simp⟩) hS.out ?_
    change wpAnyH _ _ _ _ _ 9 #[true, true, true, true, true, true, true, true, false, false, false, false, false, false, false, false, false] ⟨#[.pointer (some ⟨sp, 0, none⟩), .int .i64 (i : Nat), undef, undef, .pointer (some ⟨w.heap.size, 0, none⟩), .int .u64 0, .int .i64 0, .bool false, .pointer (some ⟨sp, 0, none⟩), .pointer (some ⟨sp, 0, none⟩), .pointer (some ⟨sp, 0, none⟩), .pointer (some ⟨pp, 0, none⟩), .bool true, .bool false, undef, .bool false, .pointer (some ⟨sp, 0, none⟩), .int .i64 (i : Nat), .bool true, .bool false, undef, .bool false, .pointer (some ⟨sp, 0, none⟩), .int .i64 (i : Nat), .pointer (some ⟨sp, 0, none⟩), .pointer (some ⟨sp, 1, none⟩), .pointer (some ⟨sp, 1 + i * 18, none⟩), .agg (rowOf 18 (celF (S.c i))), .bool false, undef, .pointer (some ⟨sp, 0, none⟩), .int .i64 (i : Nat), .pointer (some ⟨sp, 0, none⟩), .pointer (some ⟨sp, 1, none⟩), .pointer (some ⟨sp, 1 + i * 18, none⟩), .pointer (some ⟨sp, 1 + i * 18 + 1, none⟩), .agg (rowOf 16 (w8 (S.c i).k)), .pointer (some ⟨sp, 0, none⟩), undef, undef, undef, undef, undef, undef], []⟩ _
    refine wpAnyH_take (i := 8) (v := .int .i64 (i : Nat)) rfl (by kernel_rfl) (by kernel_rfl) (by kernel_rfl) (fun _ _ _ h => h) (Or.inl ⟨by rfl, fun w' hw' => by go_simp⟩) hS.out ?_
    change wpAnyH _ _ _ _ _ 8 #[true, true, true, true, true, true, true, true, true, false, false, false, false, false, false, false, false] ⟨#[.pointer (some ⟨sp, 0, none⟩), .int .i64 (i : Nat), undef, undef, .pointer (some ⟨w.heap.size, 0, none⟩), .int .u64 0, .int .i64 0, .bool false, .pointer (some ⟨sp, 0, none⟩), .pointer (some ⟨sp, 0, none⟩), .pointer (some ⟨sp, 0, none⟩), .pointer (some ⟨pp, 0, none⟩), .bool true, .bool false, undef, .bool false, .pointer (some ⟨sp, 0, none⟩), .int .i64 (i : Nat), .bool true, .bool false, undef, .bool false, .pointer (some ⟨sp, 0, none⟩), .int .i64 (i : Nat), .pointer (some ⟨sp, 0, none⟩), .pointer (some ⟨sp, 1, none⟩), .pointer (some ⟨sp, 1 + i * 18, none⟩), .agg (rowOf 18 (celF (S.c i))), .bool false, undef, .pointer (some ⟨sp, 0, none⟩), .int .i64 (i : Nat), .pointer (some ⟨sp, 0, none⟩), .pointer (some ⟨sp, 1, none⟩), .pointer (some ⟨sp, 1 + i * 18, none⟩), .pointer (some ⟨sp, 1 + i * 18 + 1, none⟩), .agg (rowOf 16 (w8 (S.c i).k)), .pointer (some ⟨sp, 0, none⟩), .int .i64 (i : Nat), undef, undef, undef, undef, undef], []⟩ _
    refine wpAnyH_take (i := 9) (v := .pointer (some ⟨sp, 0, none⟩)) rfl (by kernel_rfl) (by kernel_rfl) (by kernel_rfl) (fun _ _ _ h => h) (Or.inl ⟨by rfl, fun w' hw' => by go_simp⟩) hS.out ?_
    change wpAnyH _ _ _ _ _ 7 #[true, true, true, true, true, true, true, true, true, true, false, false, false, false, false, false, false] ⟨#[.pointer (some ⟨sp, 0, none⟩), .int .i64 (i : Nat), undef, undef, .pointer (some ⟨w.heap.size, 0, none⟩), .int .u64 0, .int .i64 0, .bool false, .pointer (some ⟨sp, 0, none⟩), .pointer (some ⟨sp, 0, none⟩), .pointer (some ⟨sp, 0, none⟩), .pointer (some ⟨pp, 0, none⟩), .bool true, .bool false, undef, .bool false, .pointer (some ⟨sp, 0, none⟩), .int .i64 (i : Nat), .bool true, .bool false, undef, .bool false, .pointer (some ⟨sp, 0, none⟩), .int .i64 (i : Nat), .pointer (some ⟨sp, 0, none⟩), .pointer (some ⟨sp, 1, none⟩), .pointer (some ⟨sp, 1 + i * 18, none⟩), .agg (rowOf 18 (celF (S.c i))), .bool false, undef, .pointer (some ⟨sp, 0, none⟩), .int .i64 (i : Nat), .pointer (some ⟨sp, 0, none⟩), .pointer (some ⟨sp, 1, none⟩), .pointer (some ⟨sp, 1 + i * 18, none⟩), .pointer (some ⟨sp, 1 + i * 18 + 1, none⟩), .agg (rowOf 16 (w8 (S.c i).k)), .pointer (some ⟨sp, 0, none⟩), .int .i64 (i : Nat), .pointer (some ⟨sp, 0, none⟩), undef, undef, undef, undef], []⟩ _
    refine wpAnyH_take (i := 10) (v := .pointer (some ⟨sp, 1, none⟩)) rfl (by kernel_rfl) (by kernel_rfl) (by kernel_rfl) (fun _ _ _ h => h) (Or.inl ⟨by rfl, fun w' hw' => by go_simp⟩) hS.out ?_
    change wpAnyH _ _ _ _ _ 6 #[true, true, true, true, true, true, true, true, true, true, true, false, false, false, false, false, false] ⟨#[.pointer (some ⟨sp, 0, none⟩), .int .i64 (i : Nat), undef, undef, .pointer (some ⟨w.heap.size, 0, none⟩), .int .u64 0, .int .i64 0, .bool false, .pointer (some ⟨sp, 0, none⟩), .pointer (some ⟨sp, 0, none⟩), .pointer (some ⟨sp, 0, none⟩), .pointer (some ⟨pp, 0, none⟩), .bool true, .bool false, undef, .bool false, .pointer (some ⟨sp, 0, none⟩), .int .i64 (i : Nat), .bool true, .bool false, undef, .bool false, .pointer (some ⟨sp, 0, none⟩), .int .i64 (i : Nat), .pointer (some ⟨sp, 0, none⟩), .pointer (some ⟨sp, 1, none⟩), .pointer (some ⟨sp, 1 + i * 18, none⟩), .agg (rowOf 18 (celF (S.c i))), .bool false, undef, .pointer (some ⟨sp, 0, none⟩), .int .i64 (i : Nat), .pointer (some ⟨sp, 0, none⟩), .pointer (some ⟨sp, 1, none⟩), .pointer (some ⟨sp, 1 + i * 18, none⟩), .pointer (some ⟨sp, 1 + i * 18 + 1, none⟩), .agg (rowOf 16 (w8 (S.c i).k)), .pointer (some ⟨sp, 0, none⟩), .int .i64 (i : Nat), .pointer (some ⟨sp, 0, none⟩), .pointer (some ⟨sp, 1, none⟩), undef, undef, undef], []⟩ _
    refine wpAnyH_take (i := 11) (v := .pointer (some ⟨sp, 1 + i * 18, none⟩)) rfl (by kernel_rfl) (by kernel_rfl) (by kernel_rfl) (fun _ _ _ h => h) (Or.inl ⟨by rfl, fun w' hw' => by go_simp⟩) hS.out ?_
    change wpAnyH _ _ _ _ _ 5 #[true, true, true, true, true, true, true, true, true, true, true, true, false, false, false, false, false] ⟨#[.pointer (some ⟨sp, 0, none⟩), .int .i64 (i : Nat), undef, undef, .pointer (some ⟨w.heap.size, 0, none⟩), .int .u64 0, .int .i64 0, .bool false, .pointer (some ⟨sp, 0, none⟩), .pointer (some ⟨sp, 0, none⟩), .pointer (some ⟨sp, 0, none⟩), .pointer (some ⟨pp, 0, none⟩), .bool true, .bool false, undef, .bool false, .pointer (some ⟨sp, 0, none⟩), .int .i64 (i : Nat), .bool true, .bool false, undef, .bool false, .pointer (some ⟨sp, 0, none⟩), .int .i64 (i : Nat), .pointer (some ⟨sp, 0, none⟩), .pointer (some ⟨sp, 1, none⟩), .pointer (some ⟨sp, 1 + i * 18, none⟩), .agg (rowOf 18 (celF (S.c i))), .bool false, undef, .pointer (some ⟨sp, 0, none⟩), .int .i64 (i : Nat), .pointer (some ⟨sp, 0, none⟩), .pointer (some ⟨sp, 1, none⟩), .pointer (some ⟨sp, 1 + i * 18, none⟩), .pointer (some ⟨sp, 1 + i * 18 + 1, none⟩), .agg (rowOf 16 (w8 (S.c i).k)), .pointer (some ⟨sp, 0, none⟩), .int .i64 (i : Nat), .pointer (some ⟨sp, 0, none⟩), .pointer (some ⟨sp, 1, none⟩), .pointer (some ⟨sp, 1 + i * 18, none⟩), undef, undef], []⟩ _
    refine wpAnyH_take (i := 12) (v := .pointer (some ⟨sp, 1 + i * 18 + 17, none⟩)) rfl (by kernel_rfl) (by kernel_rfl) (by kernel_rfl) (fun _ _ _ h => h) (Or.inl ⟨by rfl, fun w' hw' => by go_simp⟩) hS.out ?_
    change wpAnyH _ _ _ _ _ 4 #[true, true, true, true, true, true, true, true, true, true, true, true, true, false, false, false, false] ⟨#[.pointer (some ⟨sp, 0, none⟩), .int .i64 (i : Nat), undef, undef, .pointer (some ⟨w.heap.size, 0, none⟩), .int .u64 0, .int .i64 0, .bool false, .pointer (some ⟨sp, 0, none⟩), .pointer (some ⟨sp, 0, none⟩), .pointer (some ⟨sp, 0, none⟩), .pointer (some ⟨pp, 0, none⟩), .bool true, .bool false, undef, .bool false, .pointer (some ⟨sp, 0, none⟩), .int .i64 (i : Nat), .bool true, .bool false, undef, .bool false, .pointer (some ⟨sp, 0, none⟩), .int .i64 (i : Nat), .pointer (some ⟨sp, 0, none⟩), .pointer (some ⟨sp, 1, none⟩), .pointer (some ⟨sp, 1 + i * 18, none⟩), .agg (rowOf 18 (celF (S.c i))), .bool false, undef, .pointer (some ⟨sp, 0, none⟩), .int .i64 (i : Nat), .pointer (some ⟨sp, 0, none⟩), .pointer (some ⟨sp, 1, none⟩), .pointer (some ⟨sp, 1 + i * 18, none⟩), .pointer (some ⟨sp, 1 + i * 18 + 1, none⟩), .agg (rowOf 16 (w8 (S.c i).k)), .pointer (some ⟨sp, 0, none⟩), .int .i64 (i : Nat), .pointer (some ⟨sp, 0, none⟩), .pointer (some ⟨sp, 1, none⟩), .pointer (some ⟨sp, 1 + i * 18, none⟩), .pointer (some ⟨sp, 1 + i * 18 + 17, none⟩), undef], []⟩ _
    refine wpAnyH_take (i := 13) (v := .int .u64 ((S.c i).e : Nat)) rfl (by kernel_rfl) (by kernel_rfl) (by kernel_rfl) (fun _ _ _ h => h) (Or.inl ⟨by rfl, fun w' hw' => run_load_cell (x := ⟨sp, 1 + i * 18 + 17, none⟩) (hw'.getEpoch hi) Try.underlying32 rfl rfl rfl⟩) hS.out ?_
    change wpAnyH _ _ _ _ _ 3 #[true, true, true, true, true, true, true, true, true, true, true, true, true, true, false, false, false] ⟨#[.pointer (some ⟨sp, 0, none⟩), .int .i64 (i : Nat), undef, undef, .pointer (some ⟨w.heap.size, 0, none⟩), .int .u64 0, .int .i64 0, .bool false, .pointer (some ⟨sp, 0, none⟩), .pointer (some ⟨sp, 0, none⟩), .pointer (some ⟨sp, 0, none⟩), .pointer (some ⟨pp, 0, none⟩), .bool true, .bool false, undef, .bool false, .pointer (some ⟨sp, 0, none⟩), .int .i64 (i : Nat), .bool true, .bool false, undef, .bool false, .pointer (some ⟨sp, 0, none⟩), .int .i64 (i : Nat), .pointer (some ⟨sp, 0, none⟩), .pointer (some ⟨sp, 1, none⟩), .pointer (some ⟨sp, 1 + i * 18, none⟩), .agg (rowOf 18 (celF (S.c i))), .bool false, undef, .pointer (some ⟨sp, 0, none⟩), .int .i64 (i : Nat), .pointer (some ⟨sp, 0, none⟩), .pointer (some ⟨sp, 1, none⟩), .pointer (some ⟨sp, 1 + i * 18, none⟩), .pointer (some ⟨sp, 1 + i * 18 + 1, none⟩), .agg (rowOf 16 (w8 (S.c i).k)), .pointer (some ⟨sp, 0, none⟩), .int .i64 (i : Nat), .pointer (some ⟨sp, 0, none⟩), .pointer (some ⟨sp, 1, none⟩), .pointer (some ⟨sp, 1 + i * 18, none⟩), .pointer (some ⟨sp, 1 + i * 18 + 17, none⟩), .int .u64 ((S.c i).e : Nat)], []⟩ _
    refine wpAnyH_ready (rs := [14]) (by kernel_rfl) (by simp) (AllReadyH.cons rfl (fun K hK => ?_) AllReadyH.nil)
    rw [if_pos (by rfl)]
    have far1 : Beside (fun k => k = w.heap.size) w2 (w2.setRow w.heap.size (rowOf 16 (w8 (S.c i).k))) := (Beside.refl (fun k => k = w.heap.size) w2).setRow (.inl rfl) _
    have hS2 : Sl B (w2.setRow w.heap.size (rowOf 16 (w8 (S.c i).k))) pp sp S := ⟨hS.out.pow.beside far1 (hS.out.pow.apart r0.out (by decide)), hS.out.row.beside far1 (hS.out.row.apart r0.out (by decide)), hS.out.low, hS.out.ok, hS.out.byte, hS.out.tall⟩
    refine wp_store_row 31 _ _ rfl w.heap.size (rowOf 16 (w8 (S.c i).k)) rfl rfl 31 (rowOf 16 (w8 zeroN)) r0.out (info_key _) (by rw [rowOf_size, rowOf_size]) (rowOf_cells8 _ _) (hK.out _ _ hS2 fun _ => ?_)
    change wpAnyH _ _ _ _ _ 2 #[true, true, true, true, true, true, true, true, true, true, true, true, true, true, true, false, false] ⟨#[.pointer (some ⟨sp, 0, none⟩), .int .i64 (i : Nat), undef, undef, .pointer (some ⟨w.heap.size, 0, none⟩), .int .u64 0, .int .i64 0, .bool false, .pointer (some ⟨sp, 0, none⟩), .pointer (some ⟨sp, 0, none⟩), .pointer (some ⟨sp, 0, none⟩), .pointer (some ⟨pp, 0, none⟩), .bool true, .bool false, undef, .bool false, .pointer (some ⟨sp, 0, none⟩), .int .i64 (i : Nat), .bool true, .bool false, undef, .bool false, .pointer (some ⟨sp, 0, none⟩), .int .i64 (i : Nat), .pointer (some ⟨sp, 0, none⟩), .pointer (some ⟨sp, 1, none⟩), .pointer (some ⟨sp, 1 + i * 18, none⟩), .agg (rowOf 18 (celF (S.c i))), .bool false, undef, .pointer (some ⟨sp, 0, none⟩), .int .i64 (i : Nat), .pointer (some ⟨sp, 0, none⟩), .pointer (some ⟨sp, 1, none⟩), .pointer (some ⟨sp, 1 + i * 18, none⟩), .pointer (some ⟨sp, 1 + i * 18 + 1, none⟩), .agg (rowOf 16 (w8 (S.c i).k)), .pointer (some ⟨sp, 0, none⟩), .int .i64 (i : Nat), .pointer (some ⟨sp, 0, none⟩), .pointer (some ⟨sp, 1, none⟩), .pointer (some ⟨sp, 1 + i * 18, none⟩), .pointer (some ⟨sp, 1 + i * 18 + 17, none⟩), .int .u64 ((S.c i).e : Nat)], []⟩ _
    clear hK K
    replace hS := Lib.hid hS2
    replace r0 := Lib.hid (r0.out.setRow (rowOf 16 (w8 (S.c i).k)))
    replace b0 := below_setRow' b0 (Nat.le_refl _) (rowOf 16 (w8 (S.c i).k))
    clear far1 hS2
    generalize w2.setRow w.heap.size (rowOf 16 (w8 (S.c i).k)) = w3 at *
    refine wpAnyH_take (i := 15) (v := .int .u64 ((S.c i).e : Nat)) rfl (by kernel_rfl) (by kernel_rfl) (by kernel_rfl) (fun _ _ _ h => h) (Or.inl ⟨by rfl, fun w' hw' => by go_simp⟩) hS.out ?_
    change wpAnyH _ _ _ _ _ 1 #[true, true, true, true, true, true, true, true, true, true, true, true, true, true, true, true, false] ⟨#[.pointer (some ⟨sp, 0, none⟩), .int .i64 (i : Nat), undef, undef, .pointer (some ⟨w.heap.size, 0, none⟩), .int .u64 ((S.c i).e : Nat), .int .i64 0, .bool false, .pointer (some ⟨sp, 0, none⟩), .pointer (some ⟨sp, 0, none⟩), .pointer (some ⟨sp, 0, none⟩), .pointer (some ⟨pp, 0, none⟩), .bool true, .bool false, undef, .bool false, .pointer (some ⟨sp, 0, none⟩), .int .i64 (i : Nat), .bool true, .bool false, undef, .bool false, .pointer (some ⟨sp, 0, none⟩), .int .i64 (i : Nat), .pointer (some ⟨sp, 0, none⟩), .pointer (some ⟨sp, 1, none⟩), .pointer (some ⟨sp, 1 + i * 18, none⟩), .agg (rowOf 18 (celF (S.c i))), .bool false, undef, .pointer (some ⟨sp, 0, none⟩), .int .i64 (i : Nat), .pointer (some ⟨sp, 0, none⟩), .pointer (some ⟨sp, 1, none⟩), .pointer (some ⟨sp, 1 + i * 18, none⟩), .pointer (some ⟨sp, 1 + i * 18 + 1, none⟩), .agg (rowOf 16 (w8 (S.c i).k)), .pointer (some ⟨sp, 0, none⟩), .int .i64 (i : Nat), .pointer (some ⟨sp, 0, none⟩), .pointer (some ⟨sp, 1, none⟩), .pointer (some ⟨sp, 1 + i * 18, none⟩), .pointer (some ⟨sp, 1 + i * 18 + 17, none⟩), .int .u64 ((S.c i).e : Nat)], []⟩ _
    refine wpAnyH_take (i := 16) (v := .int .i64 0) rfl (by kernel_rfl) (by kernel_rfl) (by kernel_rfl) (fun _ _ _ h => h) (Or.inl ⟨by rfl, fun w' hw' => by go_simp⟩) hS.out ?_
    change wpAnyH _ _ _ _ _ 0 #[true, true, true, true, true, true, true, true, true, true, true, true, true, true, true, true, true] ⟨#[.pointer (some ⟨sp, 0, none⟩), .int .i64 (i : Nat), undef, undef, .pointer (some ⟨w.heap.size, 0, none⟩), .int .u64 ((S.c i).e : Nat), .int .i64 0, .bool false, .pointer (some ⟨sp, 0, none⟩), .pointer (some ⟨sp, 0, none⟩), .pointer (some ⟨sp, 0, none⟩), .pointer (some ⟨pp, 0, none⟩), .bool true, .bool false, undef, .bool false, .pointer (some ⟨sp, 0, none⟩), .int .i64 (i : Nat), .bool true, .bool false, undef, .bool false, .pointer (some ⟨sp, 0, none⟩), .int .i64 (i : Nat), .pointer (some ⟨sp, 0, none⟩), .pointer (some ⟨sp, 1, none⟩), .pointer (some ⟨sp, 1 + i * 18, none⟩), .agg (rowOf 18 (celF (S.c i))), .bool false, undef, .pointer (some ⟨sp, 0, none⟩), .int .i64 (i : Nat), .pointer (some ⟨sp, 0, none⟩), .pointer (some ⟨sp, 1, none⟩), .pointer (some ⟨sp, 1 + i * 18, none⟩), .pointer (some ⟨sp, 1 + i * 18 + 1, none⟩), .agg (rowOf 16 (w8 (S.c i).k)), .pointer (some ⟨sp, 0, none⟩), .int .i64 (i : Nat), .pointer (some ⟨sp, 0, none⟩), .pointer (some ⟨sp, 1, none⟩), .pointer (some ⟨sp, 1 + i * 18, none⟩), .pointer (some ⟨sp, 1 + i * 18 + 17, none⟩), .int .u64 ((S.c i).e : Nat)], []⟩ _
    refine wpAnyH_done (by kernel_rfl) ?_ _
    dsimp only
    clear hS
    go_wp2
    refine bodyPost_ret (v := .tuple #[.agg (rowOf 16 (w8 (S.c i).k)), .int .u64 ((S.c i).e : Nat), .int .i64 0]) ?_ rfl ⟨by rw [eV.out], b0⟩
    exact results_row_two' Try.results25 _ _ w.heap.size 31 (rowOf 16 (w8 (S.c i).k)) (0, 0) _ rfl r0.out Try.underlying31 rfl (info_key _)

end Go.Proofs.Ytopajipagacmkaa
