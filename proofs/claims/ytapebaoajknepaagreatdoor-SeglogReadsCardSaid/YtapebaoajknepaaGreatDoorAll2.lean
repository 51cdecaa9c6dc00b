/-
  Texts 2 of 8, merged.
-/
import Derived.Test.YtapebaoajknepaaGreatDoorAll1
import Derived.StillTailTactics
import Derived.Deep.Draws
import Derived.Laws.LoneSync
import Derived.BigQuiet
import Derived.Maps.AppendAt
import Derived.Laws.MakeOwn
import Derived.StillTail
/-
  General laws: regions that draw their order and only read, in one world; blocks laid one behind the other.
-/
namespace Go.Proofs.YtapebaoajknepaaGreatDoor
open Go.RowKit

/-- A still walk out of a quiet one, in one world. -/
theorem wpStill_of_quiet {P : Program} {ops : Array Oper} {w : World} {Q : Act → Prop} : ∀ (l : List Oper) (a : Act), wpQuiet P ops (fun w' => w' = w) Q l a → wpStill P ops w Q l a
  | [], _, h => h
  | o :: r, a, h => by
    unfold wpQuiet at h
    unfold wpStill
    split
    · rename_i hw
      rw [if_pos hw] at h
      obtain ⟨v, hv, hn⟩ := h
      have hv := hv w rfl
      unfold Oper.quietAt at hv
      unfold Oper.still
      have hn' := wpStill_of_quiet r _ hn
      cases hx : (execOp a.eval o).run P w with
      | ok x w' =>
        rw [hx] at hv
        cases x with
        | value u => obtain ⟨h1, h2⟩ := hv; subst h2; exact ⟨h1, hn'⟩
        | skip => obtain ⟨h1, h2⟩ := hv; subst h2; exact ⟨h1, hn'⟩
        | enter f args => obtain ⟨h1, h2⟩ := hv; exact ⟨h1, v, h2, hn'⟩
        | _ => exact hv.elim
      | _ => rw [hx] at hv; exact hv.elim
    · rename_i hw
      rw [if_neg hw] at h
      exact wpStill_of_quiet r _ h

/-- A region that draws its order and only reads, walked once, in the order of the text, in one world. -/
theorem wp_region_one {P : Program} {id : Nat} {Q : Exit → Act → World → Prop} {a : Act} {w : World} {l : List Oper} (hm : P.follows .mixedOrders = true) (hB : Region.lexB .any l.toArray = true)
    (h : wpQuiet P l.toArray (fun w' => w' = w.drew) (fun a' => Q .normal a' w.drew) l a) : (Code.region id l.toArray true).wp P Q a w := by
  refine wp_region_quiet (C := fun w' => w' = w.drew) hm hB rfl ?_
  have : ∀ (l' : List Oper) (a : Act), wpQuiet P l.toArray (fun w' => w' = w.drew) (fun a' => Q .normal a' w.drew) l' a → wpQuiet P l.toArray (fun w' => w' = w.drew) (fun a' => ∀ w', w' = w.drew → Q .normal a' w') l' a := by
    intro l'
    induction l' with
    | nil => intro a h1; unfold wpQuiet at h1 ⊢; intro w' hw'; subst hw'; exact h1
    | cons o r ih =>
      intro a h1
      unfold wpQuiet at h1 ⊢
      split
      · rename_i hw
        rw [if_pos hw] at h1
        obtain ⟨v, hv, hn⟩ := h1
        exact ⟨v, hv, ih _ hn⟩
      · rename_i hw
        rw [if_neg hw] at h1
        exact ih _ h1
  exact this _ _ (by simpa using h)

/-- Blocks laid one behind the other. -/
theorem allocs_row (os : List Obj) (w : World) (i : Nat) (t : TypeId) (cs : Array Value) (h : os[i]? = some (.cells cs t (0, 0))) : RowAt (os.foldl World.alloc w) (w.heap.size + i) t cs := by
  induction os generalizing w i with
  | nil => simp at h
  | cons o r ih =>
    cases i with
    | zero =>
      simp at h
      subst h
      have : ∀ (r : List Obj) (w' : World), RowAt w' w.heap.size t cs → RowAt (r.foldl World.alloc w') w.heap.size t cs := by
        intro r
        induction r with
        | nil => intro w' h; exact h
        | cons o r ih => intro w' h; exact ih _ (h.alloc o)
      exact this r _ (RowAt.new w t cs)
    | succ i =>
      have h1 := ih (w.alloc o) i (by simpa using h)
      rw [World.size_alloc] at h1
      rw [show w.heap.size + (i + 1) = w.heap.size + 1 + i by omega]
      exact h1
theorem allocs_below (os : List Obj) (w : World) : Below w.heap.size w (os.foldl World.alloc w) := by
  have : ∀ (os : List Obj) (w' : World), Below w.heap.size w w' → Below w.heap.size w (os.foldl World.alloc w') := by
    intro os
    induction os with
    | nil => intro w' h; exact h
    | cons o r ih => intro w' h; exact ih _ (h.alloc h.size _)
  exact this os w (Below.refl _ _)
theorem allocs_size (os : List Obj) (w : World) : (os.foldl World.alloc w).heap.size = w.heap.size + os.length := by
  induction os generalizing w with
  | nil => rfl
  | cons o r ih => rw [List.foldl_cons, ih, World.size_alloc, List.length_cons]; omega

/-- A region that draws its order, whose operations only read in the worlds of a class, and whose callees end in that class: walked once, in the order of the text. -/
theorem wp_region_class {P : Program} {id : Nat} {Q : Exit → Act → World → Prop} {a : Act} {w : World} {l : List Oper} (C : World → Prop) (hm : P.follows .mixedOrders = true) (hB : Region.lexB .any l.toArray = true) (hC : C w.drew)
    (h : wpQuiet P l.toArray C (fun a' => ∀ w', C w' → Q .normal a' w') l a) : (Code.region id l.toArray true).wp P Q a w :=
  wp_region_quiet (C := C) hm hB hC (by simpa using h)

theorem wpQuiet_load_row {P : Program} {ops : Array Oper} {rest : List Oper} {o : Oper} {a : Act} {C : World → Prop} {Q : Act → Prop} (hw : Region.wanted o (yielded ops a.tmps) = true) (ty : TypeId) (x : Operand) (ho : o.op = .load ty x)
    (g : Nat) (hx : a.eval x = .pointer (some ⟨g, 0, none⟩)) (t : TypeId) (cs : Array Value) (d : TypeDesc) (hg : ∀ w, C w → RowAt w g t cs)
    (hu : P.underlying ty = some d) (hd : (match d with | .struct _ | .array _ _ => true | _ => false) = true) (hi : (P.info? ty).map (·.size) = some cs.size)
    (h : wpQuiet P ops C Q rest (a.put o.dst (.agg cs))) : wpQuiet P ops C Q (o :: rest) a := by
  refine wpQuiet_step (fun K hK => ?_)
  rw [if_pos hw]
  refine ⟨.agg cs, fun w hw => ?_, hK _ h⟩
  unfold Oper.quietAt execOp
  simp only [ho, hx, Instr.loadAt, Instr.sureAddr, Sem.run_bind, Sem.run_pure, Result.andThen_ok, run_loadVar_row w g t ty cs (0, 0) d (hg w hw) hu hd hi]
  exact ⟨rfl, rfl⟩

theorem wpQuiet_val {P : Program} {ops : Array Oper} {rest : List Oper} {o : Oper} {a : Act} {C : World → Prop} {Q : Act → Prop} (hw : Region.wanted o (yielded ops a.tmps) = true) (v : Value)
    (ho : ∀ w, C w → (execOp a.eval o).run P w = .ok (.value v) w) (h : wpQuiet P ops C Q rest (a.put o.dst v)) : wpQuiet P ops C Q (o :: rest) a := by
  refine wpQuiet_step (fun K hK => ?_)
  rw [if_pos hw]
  refine ⟨v, fun w hw => ?_, hK _ h⟩
  unfold Oper.quietAt
  rw [ho w hw]
  exact ⟨rfl, rfl⟩

end Go.Proofs.YtapebaoajknepaaGreatDoor
/-
  Contracts: atomic numbers.
-/
namespace Go.Proofs.YtapebaoajknepaaGreatDoor
open Go.RowKit

set_option maxRecDepth 8000 in
/-- Add, of a number x. -/
theorem told_add (a : Addr) (x d s : Int) (w : World) (hc : w.cell? a = some (.int .i64 x)) (hz : w.frozen? a = false) (hs : IntKind.i64.wrap (x + d) = s) :
    Calls Tryz.prog 74 #[.pointer (some a), .int .i64 d] w fun e w' => e = .returned (.int .i64 s) ∧ w' = w.setCell a (.int .i64 s) := by
  have hadd := run_call_add (P := Tryz.prog) Tryz.func91 (by kernel_rfl) (by kernel_rfl) (by kernel_rfl) .i64 (by kernel_rfl) (y := d) (s := s) hc hz (by simp [go_sem]; exact hs)
  go_enter Tryz.func74, Tryz.ntmps74
  go_wp2
  go_ret
  exact ⟨rfl, rfl⟩

end Go.Proofs.YtapebaoajknepaaGreatDoor
/-
  Contract: an atomic number stored.
-/
namespace Go.Proofs.YtapebaoajknepaaGreatDoor
open Go.RowKit

end Go.Proofs.YtapebaoajknepaaGreatDoor
/-
  The builtins max and min, of two ints.
-/
namespace Go.Proofs.YtapebaoajknepaaGreatDoor
open Go.RowKit

theorem run_max2 (a b y : Int) (h : (a < b ∧ y = b) ∨ (b ≤ a ∧ y = a)) (w : World) : (Builtin.max_ #[3, 3] 3 #[.int .i64 a, .int .i64 b]).run Tryz.prog w = .ok (.int .i64 y) w := by
  rcases h with ⟨h, rfl⟩ | ⟨h, rfl⟩
  · go_simp
    try (intros; omega)
  · go_simp
    try (intros; omega)
theorem run_min2 (a b y : Int) (h : (a < b ∧ y = a) ∨ (b ≤ a ∧ y = b)) (w : World) : (Builtin.min_ #[3, 3] 3 #[.int .i64 a, .int .i64 b]).run Tryz.prog w = .ok (.int .i64 y) w := by
  rcases h with ⟨h, rfl⟩ | ⟨h, rfl⟩
  · go_simp
    try (intros; omega)
  · go_simp
    try (intros; omega)

theorem wpList_max2 {ops : Array Oper} {rest : List Oper} {o : Oper} {a : Act} {w : World} {Q : Exit → Act → World → Prop} (hg : o.guard = none) (x z : Operand) (ho : o.op = .call { callee := .builtin .max, args := #[x, z], argTypes := #[3, 3] }) (ht : o.type = 3)
    (n m y : Int) (hx : a.eval x = .int .i64 n) (hz : a.eval z = .int .i64 m) (hy : (n < m ∧ y = m) ∨ (m ≤ n ∧ y = n)) (h : wpList Tryz.prog ops Q rest (a.put o.dst (.int .i64 y)) w) : wpList Tryz.prog ops Q (o :: rest) a w := by
  refine wpList_val (.int .i64 y) (by unfold Region.wanted; rw [hg]) ?_ h
  simp [execOp, ho, ht, resolve, invoke, builtin, hx, hz, run_max2 n m y hy, Result.andThen]
theorem wpList_min2 {ops : Array Oper} {rest : List Oper} {o : Oper} {a : Act} {w : World} {Q : Exit → Act → World → Prop} (hg : o.guard = none) (x z : Operand) (ho : o.op = .call { callee := .builtin .min, args := #[x, z], argTypes := #[3, 3] }) (ht : o.type = 3)
    (n m y : Int) (hx : a.eval x = .int .i64 n) (hz : a.eval z = .int .i64 m) (hy : (n < m ∧ y = n) ∨ (m ≤ n ∧ y = m)) (h : wpList Tryz.prog ops Q rest (a.put o.dst (.int .i64 y)) w) : wpList Tryz.prog ops Q (o :: rest) a w := by
  refine wpList_val (.int .i64 y) (by unfold Region.wanted; rw [hg]) ?_ h
  simp [execOp, ho, ht, resolve, invoke, builtin, hx, hz, run_min2 n m y hy, Result.andThen]

end Go.Proofs.YtapebaoajknepaaGreatDoor
/-
  Contracts: the power.
-/
namespace Go.Proofs.YtapebaoajknepaaGreatDoor
open Go.RowKit
set_option linter.unusedVariables false

section
variable {p : Nat} {w : World} {up : Bool} {left keep : Int} {junk : Nat}
theorem pw_0 (h : RowAt w p 62 (pw up left keep junk)) : w.cell? ⟨p, 0, none⟩ = some (.bool up) := by rw [cell_of_row w p 0 _ _ _ h]; rfl
theorem pw_1 (h : RowAt w p 62 (pw up left keep junk)) : w.cell? ⟨p, 1, none⟩ = some (.int .i64 left) := by rw [cell_of_row w p 1 _ _ _ h]; rfl
theorem pw_2 (h : RowAt w p 62 (pw up left keep junk)) : w.cell? ⟨p, 2, none⟩ = some (.int .i64 keep) := by rw [cell_of_row w p 2 _ _ _ h]; rfl
theorem pw_3 (h : RowAt w p 62 (pw up left keep junk)) : w.cell? ⟨p, 3, none⟩ = some (.int .u8 (junk : Nat)) := by rw [cell_of_row w p 3 _ _ _ h]; rfl
theorem pw_set0 (h : RowAt w p 62 (pw up left keep junk)) (b : Bool) : RowAt (w.setCell ⟨p, 0, none⟩ (.bool b)) p 62 (pw b left keep junk) := h.set 0 _
theorem pw_set1 (h : RowAt w p 62 (pw up left keep junk)) (x : Int) : RowAt (w.setCell ⟨p, 1, none⟩ (.int .i64 x)) p 62 (pw up x keep junk) := h.set 1 _
theorem pw_set2 (h : RowAt w p 62 (pw up left keep junk)) (x : Int) : RowAt (w.setCell ⟨p, 2, none⟩ (.int .i64 x)) p 62 (pw up left x junk) := h.set 2 _
theorem pw_set3 (h : RowAt w p 62 (pw up left keep junk)) (x : Nat) : RowAt (w.setCell ⟨p, 3, none⟩ (.int .u8 (x : Nat))) p 62 (pw up left keep x) := h.set 3 _
end

set_option maxRecDepth 8000 in
theorem newPower_any (w : World) : Calls Tryz.prog 6 #[] w fun e w' => e = .returned (.pointer (some ⟨w.heap.size, 0, none⟩)) ∧ Hid (RowAt w' w.heap.size 62 (pw true 0 0 0)) ∧ Below w.heap.size w w' := by
  have r := Lib.hid (RowAt.new w 62 (pw true 0 0 0))
  have b : Below w.heap.size w (w.alloc (.cells (pw true 0 0 0) 62)) := (Below.refl _ _).alloc (Nat.le_refl _) _
  go_enter Tryz.func6, Tryz.ntmps6
  go_wp2
  go_ret
  exact ⟨rfl, r, b⟩

set_option maxRecDepth 8000 in
theorem powUp_any (p : Nat) (up : Bool) (left keep : Int) (junk : Nat) (w : World) (h : Hid (RowAt w p 62 (pw up left keep junk))) :
    Calls Tryz.prog 26 #[.pointer (some ⟨p, 0, none⟩)] w fun e w' => e = .returned (.bool up) ∧ w' = w := by
  have c0 := pw_0 h.out
  go_enter Tryz.func26, Tryz.ntmps26
  go_wp2
  go_ret
  exact ⟨rfl, rfl⟩

set_option maxRecDepth 8000 in
theorem powKept_any (p : Nat) (up : Bool) (left keep : Int) (junk : Nat) (w : World) (h : Hid (RowAt w p 62 (pw up left keep junk))) :
    Calls Tryz.prog 75 #[.pointer (some ⟨p, 0, none⟩)] w fun e w' => e = .returned (.tuple #[.int .i64 keep, .int .u8 (junk : Nat)]) ∧ Below w.heap.size w w' := by
  have c2 := pw_2 h.out
  have c3 := pw_3 h.out
  go_enter Tryz.func75, Tryz.ntmps75
  go_wp2_with fail
  go_quiet (fail)
  go_wp2_with fail
  go_ret2
  exact ⟨rfl, ⟨rfl, rfl, rfl, Nat.le_refl _, fun _ _ => rfl⟩⟩

set_option maxRecDepth 8000 in
theorem powAct_no (p : Nat) (left keep : Int) (junk : Nat) (w : World) (h : Hid (RowAt w p 62 (pw false left keep junk))) :
    Calls Tryz.prog 73 #[.pointer (some ⟨p, 0, none⟩)] w fun e w' => e = .returned (.tuple #[.bool false, .bool false]) ∧ w' = w := by
  have c0 := pw_0 h.out
  go_enter Tryz.func73, Tryz.ntmps73
  go_wp2
  go_ret2
  exact ⟨rfl, rfl⟩

theorem wrap_minus (x : Int) (h1 : -1000000 < x) (h2 : x < 9223372036854775808) : IntKind.i64.wrap (x + -1) = x - 1 := by
  simp [IntKind.wrap, IntKind.bits, IntKind.signed]
  omega

set_option maxRecDepth 8000 in
theorem powAct_yes (p : Nat) (left keep : Int) (junk : Nat) (w : World) (h : Hid (RowAt w p 62 (pw true left keep junk))) (h1 : -1000000 < left) (h2 : left < 9223372036854775808) (l1 : Int) (hl : Hid (l1 = left - 1)) (b : Bool) (hb : (l1 != 0) = b) :
    Calls Tryz.prog 73 #[.pointer (some ⟨p, 0, none⟩)] w fun e w' => e = .returned (.tuple #[.bool true, .bool b]) ∧ Hid (RowAt w' p 62 (pw b l1 keep junk)) ∧ Apart p w w' := by
  have c0 := pw_0 h.out
  have A1 := Lib.hid (told_add ⟨p, 1, none⟩ left (-1) l1 w (pw_1 h.out) (h.out.free 1) (by rw [hl.out]; exact wrap_minus left h1 h2))
  have r1 := Lib.hid (pw_set1 h.out l1)
  have a1 : Apart p w (w.setCell ⟨p, 1, none⟩ (.int .i64 l1)) := (Apart.refl p w).setCell h.out _
  go_enter Tryz.func73, Tryz.ntmps73
  go_wp2_with fail
  refine A1.out.mono ?_
  rintro e w1 ⟨rfl, rfl⟩
  clear A1 c0
  generalize w.setCell ⟨p, 1, none⟩ (.int .i64 l1) = w1 at *
  have c0 := pw_0 r1.out
  have z0 := r1.out.free 0
  have r2 := Lib.hid (pw_set0 r1.out b)
  have a2 : Apart p w (w1.setCell ⟨p, 0, none⟩ (.bool b)) := a1.setCell r1.out _
  have c1 := pw_0 r2.out
  clear h h1 h2
  go_wp2_with fail
  go_quiet (fail)
  go_wp2_with fail
  go_ret2
  exact ⟨rfl, r2.out.drewN _, a2.trans (.of_below ⟨rfl, rfl, rfl, Nat.le_refl _, fun _ _ => rfl⟩)⟩

end Go.Proofs.YtapebaoajknepaaGreatDoor
/-
  Contracts: what a chip is asked for, small things.
-/
namespace Go.Proofs.YtapebaoajknepaaGreatDoor
open Go.RowKit
set_option linter.unusedVariables false

section
variable {B : Nat} {w : World} {L : Lay} {S : St} {hv : Value}
theorem Ch.c0 (h : Ch B w L S hv) : w.cell? ⟨L.cp, 0, none⟩ = some (.pointer (some ⟨L.pp, 0, none⟩)) := by rw [cell_of_row w L.cp 0 _ _ _ h.chip]; rfl
theorem Ch.c1 (h : Ch B w L S hv) : w.cell? ⟨L.cp, 1, none⟩ = some (.slice (some ⟨L.sp, 0, none⟩) L.n L.n) := by rw [cell_of_row w L.cp 1 _ _ _ h.chip]; rfl
theorem Ch.c2 (h : Ch B w L S hv) : w.cell? ⟨L.cp, 2, none⟩ = some (.int .i64 S.rated) := by rw [cell_of_row w L.cp 2 _ _ _ h.chip]; rfl
theorem Ch.c3 (h : Ch B w L S hv) : w.cell? ⟨L.cp, 3, none⟩ = some hv := by rw [cell_of_row w L.cp 3 _ _ _ h.chip]; rfl
theorem Ch.c4 (h : Ch B w L S hv) : w.cell? ⟨L.cp, 4, none⟩ = some (.int .i64 (S.progs : Nat)) := by rw [cell_of_row w L.cp 4 _ _ _ h.chip]; rfl
theorem Ch.c5 (h : Ch B w L S hv) : w.cell? ⟨L.cp, 5, none⟩ = some (.int .i64 (S.erases : Nat)) := by rw [cell_of_row w L.cp 5 _ _ _ h.chip]; rfl
theorem Ch.s0 (h : Ch B w L S hv) {i : Nat} (hi : i < L.n) : w.cell? ⟨L.sp, i * 3, none⟩ = some (.slice (some ⟨L.tp i, 0, none⟩) L.m L.m) := by rw [h.segs.cell (i * 3) (by omega), segV_0]
theorem Ch.s1 (h : Ch B w L S hv) {i : Nat} (hi : i < L.n) : w.cell? ⟨L.sp, i * 3 + 1, none⟩ = some (.int .i64 (S.wear i : Nat)) := by rw [h.segs.cell (i * 3 + 1) (by omega), segV_1]
theorem Ch.s2 (h : Ch B w L S hv) {i : Nat} (hi : i < L.n) : w.cell? ⟨L.sp, i * 3 + 2, none⟩ = some (.bool (S.bad i)) := by rw [h.segs.cell (i * 3 + 2) (by omega), segV_2]
theorem Ch.pg (h : Ch B w L S hv) {i j : Nat} (hi : i < L.n) (hj : j < L.m) : w.cell? ⟨L.tp i, j, none⟩ = some (.string (S.page i j)) := by rw [(h.pages i hi).cell j hj]; rfl
end


set_option maxRecDepth 8000 in
theorem hasSeg_any (B : Nat) (w : World) (L : Lay) (S : St) (hv : Value) (h : Hid (Ch B w L S hv)) (z : Int) :
    Calls Tryz.prog 15 #[.pointer (some ⟨L.cp, 0, none⟩), .int .i64 z] w fun e w' => e = .returned (.bool (inB z L.n)) ∧ w' = w := by
  have c1 := h.out.c1
  unfold inB
  cases h1 : decide (0 ≤ z) with
  | false =>
    have h1' : decide (z ≥ 0) = false := h1
    go_enter Tryz.func15, Tryz.ntmps15
    go_wp2
    go_ret
    exact ⟨rfl, rfl⟩
  | true =>
    have h1' : decide (z ≥ 0) = true := h1
    cases h2 : decide (z < (L.n : Int)) with
    | false =>
      go_enter Tryz.func15, Tryz.ntmps15
      go_wp2
      go_ret
      exact ⟨rfl, rfl⟩
    | true =>
      go_enter Tryz.func15, Tryz.ntmps15
      go_wp2
      go_ret
      exact ⟨rfl, rfl⟩

set_option maxRecDepth 8000 in
theorem rowHas_any (w : World) (a : Option Addr) (m : Nat) (z : Int) :
    Calls Tryz.prog 55 #[.agg #[.slice a m m], .int .i64 z] w fun e w' => e = .returned (.bool (inB z m)) ∧ Below w.heap.size w w' := by
  have b0 : Below w.heap.size w (w.alloc (.cells #[.slice a m m] 57)) := (Below.refl _ _).alloc (Nat.le_refl _) _
  unfold inB
  cases h1 : decide (0 ≤ z) with
  | false =>
    have h1' : decide (z ≥ 0) = false := h1
    go_enter Tryz.func55, Tryz.ntmps55
    go_wp2
    go_ret
    exact ⟨rfl, b0⟩
  | true =>
    have h1' : decide (z ≥ 0) = true := h1
    cases h2 : decide (z < (m : Int)) with
    | false =>
      go_enter Tryz.func55, Tryz.ntmps55
      go_wp2
      go_ret
      exact ⟨rfl, b0⟩
    | true =>
      go_enter Tryz.func55, Tryz.ntmps55
      go_wp2
      go_ret
      exact ⟨rfl, b0⟩

/-- Whether a text has a byte. -/
def isB (s : ByteArray) : Bool := !s.toList.isEmpty

set_option maxRecDepth 8000 in
theorem rowIs_any (w : World) (t m j : Nat) (hj : j < m) (s : ByteArray) (hc : w.cell? ⟨t, j, none⟩ = some (.string s)) (ht : t < w.heap.size) :
    Calls Tryz.prog 28 #[.agg #[.slice (some ⟨t, 0, none⟩) m m], .int .i64 (j : Nat)] w fun e w' => e = .returned (.bool (isB s)) ∧ Below w.heap.size w w' := by
  have b0 : Below w.heap.size w (w.alloc (.cells #[.slice (some ⟨t, 0, none⟩) m m] 57)) := (Below.refl _ _).alloc (Nat.le_refl _) _
  have hc' : (w.alloc (.cells #[.slice (some ⟨t, 0, none⟩) m m] 57)).cell? ⟨t, j, none⟩ = some (.string s) := (b0.cell ht).trans hc
  have j1 : (j : Int) < (m : Int) := by omega
  clear hc
  go_enter Tryz.func28, Tryz.ntmps28
  go_wp2
  go_ret
  exact ⟨rfl, b0⟩

end Go.Proofs.YtapebaoajknepaaGreatDoor
/-
  Contract: pageText.
-/
namespace Go.Proofs.YtapebaoajknepaaGreatDoor
open Go.RowKit
set_option linter.unusedVariables false

/-- The bytes of a page. -/
def pageN (s : ByteArray) (keep junk : Nat) : Nat → Nat := fun j => if j < keep then byteL s.data.toList j else junk
/-- The page. -/
def pageT (s : ByteArray) (keep junk : Nat) : ByteArray := bs (listB 256 (pageN s keep junk))
theorem pageT_size (s : ByteArray) (keep junk : Nat) : (pageT s keep junk).size = 256 := by unfold pageT; rw [bs_size, listB_length]

theorem byteL_small (l : List UInt8) (j : Nat) : byteL l j < 256 := (l.getD j 0).toNat_lt
theorem byteL_end (l : List UInt8) (j : Nat) (h : l.length ≤ j) : byteL l j = 0 := by
  unfold byteL
  rw [List.getD_eq_getElem?_getD, List.getElem?_eq_none h]
  rfl
theorem pageN_byte {s : ByteArray} {keep junk : Nat} (h : junk < 256) : Bytes (pageN s keep junk) := fun j => by
  unfold pageN
  split
  · exact byteL_small _ _
  · exact h

theorem sz8' : (Tryz.prog.info? 5).map (·.size) = some 1 := by kernel_rfl
theorem info256 (f : Nat → Value) : (Tryz.prog.info? 130).map (·.size) = some (rowOf 256 f).size := by rw [rowOf_size]; kernel_rfl

theorem run_alloc256 {o : Oper} {a : Act} (ho : o.op = .alloc 130) (w : World) : (execOp a.eval o).run Tryz.prog w = .ok (.value (.pointer (some ⟨w.heap.size, 0, none⟩))) (w.alloc (.cells (rowOf 256 (w8 zeroN)) 130)) := by
  unfold execOp
  rw [ho]
  kernel_rfl

/-- The part behind place k that is junk by now. -/
def fillN (s : ByteArray) (k i junk : Nat) : Nat → Nat := fun j => if k ≤ j ∧ j < i then junk else byteL s.data.toList j

set_option maxHeartbeats 1000000 in
set_option maxRecDepth 8000 in
theorem pageText_any (s : ByteArray) (hs : s.size ≤ 256) (keep junk : Nat) (hk : (keep : Int) < 9223372036854775808) (hj : junk < 256) (w : World) :
    Calls Tryz.prog 40 #[.string s, .int .i64 (keep : Nat), .int .u8 (junk : Nat)] w fun e w' => e = .returned (.string (pageT s keep junk)) ∧ Below w.heap.size w w' := by
  have b0 : Below w.heap.size w (w.alloc (.cells (rowOf 256 (w8 zeroN)) 130)) := (Below.refl _ _).alloc (Nat.le_refl _) _
  have r0 := Lib.hid (RowAt.new w 130 (rowOf 256 (w8 zeroN)))
  have sl := run_slice_all (P := Tryz.prog) Tryz.underlying130 sz8' w.heap.size
  have cp := Lib.hid (run_copy_text (P := Tryz.prog) (w.alloc (.cells (rowOf 256 (w8 zeroN)) 130)) 101 9 3 5 w.heap.size 0 256 256 s zeroN 256 130 Tryz.underlying101 sz8' r0.out s.size (by omega) (by omega))
  have e0 : rowOf 256 (w8 (laid zeroN (byteL s.data.toList) 0 s.size)) = rowOf 256 (w8 (fillN s keep keep junk)) := rowOf_congr fun j _ => by
    unfold w8 laid fillN
    rw [if_neg (show ¬ (keep ≤ j ∧ j < keep) by omega)]
    by_cases c : 0 ≤ j ∧ j < 0 + s.size
    · rw [if_pos c, Nat.sub_zero]
    · rw [if_neg c, byteL_end _ _ (by have : s.data.toList.length = s.size := by simp
                                      omega)]
      rfl
  rw [e0] at cp
  have r1 := Lib.hid (r0.out.setRow (rowOf 256 (w8 (fillN s keep keep junk))))
  have b1 : Below w.heap.size w ((w.alloc (.cells (rowOf 256 (w8 zeroN)) 130)).setRow w.heap.size (rowOf 256 (w8 (fillN s keep keep junk)))) := below_setRow' b0 (Nat.le_refl _) _
  clear e0 r0 b0
  go_enter Tryz.func40, Tryz.ntmps40
  go_wp2_with (first | (refine wpList_new rfl (run_alloc256 rfl _) ?_) | (refine wpList_copy_known _ rfl _ _ _ _ rfl _ _ rfl rfl cp.out ?_))
  clear cp sl
  generalize (w.alloc (.cells (rowOf 256 (w8 zeroN)) 130)).setRow w.heap.size (rowOf 256 (w8 (fillN s keep keep junk))) = w1 at *
  go_loopw [8] (fun v wr => ∃ i : Nat, v = .int .i64 i ∧ keep ≤ i ∧ (i = keep ∨ i ≤ 256) ∧ Hid (RowAt wr w.heap.size 130 (rowOf 256 (w8 (fillN s keep i junk)))) ∧ Below w.heap.size w wr)
    (fun v _ => 256 - (intOf v).toNat)
  case atStart => exact ⟨keep, rfl, Nat.le_refl _, .inl rfl, r1, b1⟩
  case round =>
    clear r1 b1
    obtain ⟨i, rfl, hki, hi, hr, hbl⟩ := hrel
    have hi' := Lib.hid hi
    have hki' := Lib.hid hki
    have hk' := Lib.hid hk
    clear hi hk
    by_cases hlt : i < 256
    · have c0 := hr.out.cell i hlt
      generalize w8 (fillN s keep i junk) i = u at c0
      have f0 := hr.out.free i
      have e3 : Hid ((rowOf 256 (w8 (fillN s keep i junk))).setIfInBounds i (.int .u8 ((junk : Nat) : Int)) = rowOf 256 (w8 (fillN s keep (i + 1) junk))) := by
        unfold Hid
        rw [rowOf_upd8]
        refine rowOf_congr fun j hj2 => ?_
        unfold w8 upd fillN
        congr 2
        by_cases c : j = i
        · subst c
          rw [if_pos rfl, if_pos (by omega)]
        · rw [if_neg c]
          by_cases d : keep ≤ j ∧ j < i
          · rw [if_pos d, if_pos (by omega)]
          · rw [if_neg d, if_neg (by omega)]
      have lt : decide ((i : Int) < 256) = true := decide_eq_true (by omega)
      clear hs hki hj
      go_wp2
      go_roundw
      case rel =>
        refine ⟨i + 1, by go_num, by have := hki'.out; omega, .inr (by omega), ?_, hbl.setCell (Nat.le_refl _) _⟩
        exact (hr.out.set i _).congr e3.out
      case measure => simp [intOf]; omega
    · have hr2 : Hid (RowAt wr w.heap.size 130 (rowOf 256 (w8 (pageN s keep junk)))) := hr.out.congr (rowOf_congr fun k hk => by
        unfold w8 fillN pageN
        by_cases c : k < keep
        · rw [if_neg (by omega), if_pos c]
        · rw [if_pos (by omega), if_neg c])
      have sl := run_slice_all (P := Tryz.prog) Tryz.underlying130 sz8' w.heap.size
      have cv : (convert 101 9 (.slice (some ⟨w.heap.size, 0, none⟩) 256 256)).run Tryz.prog wr = .ok (.string (pageT s keep junk)) wr := block_string (pageN_byte hj) Tryz.underlying101 Tryz.underlying5 Tryz.underlying9 hr2.out
      have lt : decide ((i : Int) < 256) = false := decide_eq_false (by omega)
      clear hr hs hki hj hlt
      go_wp2
      go_ret
      exact ⟨rfl, hbl⟩

end Go.Proofs.YtapebaoajknepaaGreatDoor
/-
  A chip of which one thing has turned: a count, a segment, a page, the history; what clear lays; a text appended, the old row still there.
-/
namespace Go.Proofs.YtapebaoajknepaaGreatDoor
open Go.RowKit
set_option linter.unusedVariables false

theorem beside_set (w : World) (b j : Nat) (v : Value) : Beside (fun k => k = b) w (w.setCell ⟨b, j, none⟩ v) := (Beside.refl (fun k => k = b) w).setCell (.inl rfl) v

section
variable {B : Nat} {w w' : World} {L : Lay} {S : St} {hv : Value}
theorem Ch.cp (h : Ch B w L S hv) (hs : Beside (fun k => k = L.cp) w w') {p q : Nat} (hr : RowAt w' L.cp 55 (chipA L { S with progs := p, erases := q } hv)) :
    Ch B w' L { S with progs := p, erases := q } hv ∧ Goes L hv w hv w' :=
  ⟨⟨h.pow.beside hs (h.pow.apart h.chip (by decide)), hr, h.segs.beside hs (h.segs.apart h.chip (by decide)), fun i hi => (h.pages i hi).beside hs ((h.pages i hi).apart h.chip (by decide)), own_beside h.hist hs (fun k e1 e2 => h.chip.not_own h.hist (by decide) (by rw [e1, e2])), h.inj, h.far, h.low, h.room, h.byte, h.tall⟩, hs.mono fun k e => .inr (.inl e), fun k e => .inl e⟩
theorem Ch.prog (h : Ch B w L S hv) : Ch B (w.setCell ⟨L.cp, 4, none⟩ (.int .i64 ((S.progs + 1 : Nat) : Int))) L { S with progs := S.progs + 1 } hv ∧ Goes L hv w hv (w.setCell ⟨L.cp, 4, none⟩ (.int .i64 ((S.progs + 1 : Nat) : Int))) :=
  h.cp (beside_set w _ _ _) (h.chip.set 4 _)
theorem Ch.erase (h : Ch B w L S hv) : Ch B (w.setCell ⟨L.cp, 5, none⟩ (.int .i64 ((S.erases + 1 : Nat) : Int))) L { S with erases := S.erases + 1 } hv ∧ Goes L hv w hv (w.setCell ⟨L.cp, 5, none⟩ (.int .i64 ((S.erases + 1 : Nat) : Int))) :=
  h.cp (beside_set w _ _ _) (h.chip.set 5 _)
theorem Ch.seg (h : Ch B w L S hv) (hs : Beside (fun k => k = L.sp) w w') {wr : Nat → Nat} {bd : Nat → Bool} (hr : RowAt w' L.sp 59 (rowOf (L.n * 3) (segV L wr bd))) :
    Ch B w' L { S with wear := wr, bad := bd } hv ∧ Goes L hv w hv w' :=
  ⟨⟨h.pow.beside hs (h.pow.apart h.segs (by decide)), h.chip.beside hs (h.chip.apart h.segs (by decide)), hr, fun i hi => (h.pages i hi).beside hs ((h.pages i hi).apart h.segs (by decide)), own_beside h.hist hs (fun k e1 e2 => h.segs.not_own h.hist (by decide) (by rw [e1, e2])), h.inj, h.far, h.low, h.room, h.byte, h.tall⟩, hs.mono fun k e => .inr (.inr (.inl e)), fun k e => .inl e⟩
/-- One more in place i. -/
def updW (f : Nat → Nat) (i : Nat) : Nat → Nat := fun a => if a = i then f i + 1 else f a
def updB (f : Nat → Bool) (i : Nat) : Nat → Bool := fun a => if a = i then true else f a
theorem segV_wear (L : Lay) (wr : Nat → Nat) (bd : Nat → Bool) (i n : Nat) : (rowOf n (segV L wr bd)).setIfInBounds (i * 3 + 1) (.int .i64 ((wr i + 1 : Nat) : Int)) = rowOf n (segV L (updW wr i) bd) := by
  rw [rowOf_set]
  refine rowOf_congr fun j hj => ?_
  by_cases c : j = i * 3 + 1
  · subst c
    rw [if_pos rfl, segV_1]
    unfold updW
    rw [if_pos rfl]
  · rw [if_neg c]
    unfold segV updW
    by_cases c0 : j % 3 = 0
    · rw [if_pos c0, if_pos c0]
    · rw [if_neg c0, if_neg c0]
      by_cases c1 : j % 3 = 1
      · rw [if_pos c1, if_pos c1, if_neg (by omega)]
      · rw [if_neg c1, if_neg c1]
theorem segV_bad (L : Lay) (wr : Nat → Nat) (bd : Nat → Bool) (i n : Nat) : (rowOf n (segV L wr bd)).setIfInBounds (i * 3 + 2) (.bool true) = rowOf n (segV L wr (updB bd i)) := by
  rw [rowOf_set]
  refine rowOf_congr fun j hj => ?_
  by_cases c : j = i * 3 + 2
  · subst c
    rw [if_pos rfl, segV_2]
    unfold updB
    rw [if_pos rfl]
  · rw [if_neg c]
    unfold segV updB
    by_cases c0 : j % 3 = 0
    · rw [if_pos c0, if_pos c0]
    · rw [if_neg c0, if_neg c0]
      by_cases c1 : j % 3 = 1
      · rw [if_pos c1, if_pos c1]
      · rw [if_neg c1, if_neg c1, if_neg (by omega)]
theorem Ch.worn (h : Ch B w L S hv) (i : Nat) : Ch B (w.setCell ⟨L.sp, i * 3 + 1, none⟩ (.int .i64 ((S.wear i + 1 : Nat) : Int))) L { S with wear := updW S.wear i } hv ∧ Goes L hv w hv (w.setCell ⟨L.sp, i * 3 + 1, none⟩ (.int .i64 ((S.wear i + 1 : Nat) : Int))) :=
  h.seg (beside_set w _ _ _) ((h.segs.set (i * 3 + 1) _).congr (segV_wear L S.wear S.bad i _))
def updP (f : Nat → Nat → ByteArray) (i : Nat) (g : Nat → ByteArray) : Nat → Nat → ByteArray := fun a => if a = i then g else f a
def updS (f : Nat → ByteArray) (j : Nat) (s : ByteArray) : Nat → ByteArray := fun a => if a = j then s else f a
theorem Ch.page' (h : Ch B w L S hv) {i : Nat} (hi : i < L.n) (hs : Beside (fun k => k = L.tp i) w w') {g : Nat → ByteArray} (hr : RowAt w' (L.tp i) 9 (rowOf L.m (strV g))) :
    Ch B w' L { S with page := updP S.page i g } hv ∧ Goes L hv w hv w' := by
  refine ⟨⟨h.pow.beside hs (h.pow.apart (h.pages i hi) (by decide)), h.chip.beside hs (h.chip.apart (h.pages i hi) (by decide)), h.segs.beside hs (h.segs.apart (h.pages i hi) (by decide)), fun a ha => ?_, own_beside h.hist hs (fun k e1 e2 => h.far i hi (by rw [e1, e2])), h.inj, h.far, h.low, h.room, h.byte, h.tall⟩, hs.mono fun k e => .inr (.inr (.inr (.inl ⟨i, hi, e⟩))), fun k e => .inl e⟩
  by_cases c : a = i
  · subst c
    have : updP S.page a g a = g := if_pos rfl
    show RowAt w' (L.tp a) _ (rowOf L.m (strV (updP S.page a g a)))
    rw [this]
    exact hr
  · have : updP S.page i g a = S.page a := if_neg c
    show RowAt w' (L.tp a) _ (rowOf L.m (strV (updP S.page i g a)))
    rw [this]
    exact (h.pages a ha).beside hs fun e => c (h.inj a i ha hi e)
theorem Ch.text (h : Ch B w L S hv) {i : Nat} (hi : i < L.n) (j : Nat) (s : ByteArray) : Ch B (w.setCell ⟨L.tp i, j, none⟩ (.string s)) L { S with page := updP S.page i (updS (S.page i) j s) } hv ∧ Goes L hv w hv (w.setCell ⟨L.tp i, j, none⟩ (.string s)) :=
  h.page' hi (beside_set w _ _ _) (((h.pages i hi).set j _).congr (by
    rw [rowOf_set]
    refine rowOf_congr fun a _ => ?_
    unfold strV updS
    by_cases c : a = j
    · rw [if_pos c, if_pos c]
    · rw [if_neg c, if_neg c]))
/-- A text more in the history. -/
theorem Ch.told (h : Ch B w L S hv) {hv' : Value} {s : ByteArray} (hg : w.grownBy w' hv.ownBlock) (ho : w'.ownsRow B 9 1 hv' (S.hist.length + 1) ((S.hist ++ [s]).map .string)) (hat : hv'.ownBlock = hv.ownBlock ∨ ∀ k, hv'.ownBlock = some k → w.heap.size ≤ k) :
    Ch B (w'.setCell ⟨L.cp, 3, none⟩ hv') L { S with hist := S.hist ++ [s] } hv' ∧ Goes L hv w hv' (w'.setCell ⟨L.cp, 3, none⟩ hv') := by
  have s0 : Beside (fun k => hv.ownBlock = some k) w w' := (Beside.refl _ w).grown hg fun k e => .inl e
  have hp := h.pow.beside s0 (h.pow.not_own h.hist (by decide))
  have hc := h.chip.beside s0 (h.chip.not_own h.hist (by decide))
  have hsg := h.segs.beside s0 (h.segs.not_own h.hist (by decide))
  have hpg : ∀ i, i < L.n → RowAt w' (L.tp i) 9 (rowOf L.m (strV (S.page i))) := fun i hi => (h.pages i hi).beside s0 (h.far i hi)
  have s1 : Beside (fun k => k = L.cp) w' (w'.setCell ⟨L.cp, 3, none⟩ hv') := beside_set w' _ _ _
  refine ⟨⟨hp.beside s1 (hp.apart hc (by decide)), hc.set 3 _, hsg.beside s1 (hsg.apart hc (by decide)), fun i hi => (hpg i hi).beside s1 ((hpg i hi).apart hc (by decide)), ?_, h.inj, fun i hi e => ?_, h.low, h.room, h.byte, h.tall⟩, ?_, fun k e => ?_⟩
  · have := own_beside ho s1 (fun k e1 e2 => hc.not_own ho (by decide) (by rw [e1, e2]))
    show World.ownsRow _ B _ 1 hv' (S.hist ++ [s]).length _
    rw [List.length_append]
    exact this
  · rcases hat with h1 | h1
    · exact h.far i hi (h1 ▸ e)
    · have := h1 _ e
      have := (h.pages i hi).lt
      omega
  · exact (s0.mono fun k e => .inr (.inr (.inr (.inr e)))).trans (s1.mono fun k e => .inr (.inl e))
  · rcases hat with h1 | h1
    · exact .inl (h1 ▸ e)
    · exact .inr (h1 k e)
end

/-! clear of the first texts of a row. -/
theorem zero_strs (n : Nat) : (Builtin.zeroCells #[Value.string ⟨#[]⟩] n).toList = (List.range n).map fun _ => Value.string ⟨#[]⟩ := by
  unfold Builtin.zeroCells
  apply List.ext_getElem
  · simp
  · intro j h1 h2
    simp [Nat.mod_one]
theorem infoStr : (Tryz.prog.info? 9).map (fun i => (i.zero, i.size, i.bytes)) = some (some (.string ⟨#[]⟩), 1, 16) := by kernel_rfl

theorem run_clear_strs (w : World) (t k n c : Nat) (f : Nat → ByteArray) (ty : TypeId) (h : RowAt w t 9 (rowOf n (strV f))) (hk : k ≤ n) :
    (Builtin.clear_ #[22] ty #[.slice (some ⟨t, 0, none⟩) k c]).run Tryz.prog w = .ok (.tuple #[]) (w.setRow t (rowOf n (strV fun j => if j < k then ⟨#[]⟩ else f j))) := by
  obtain ⟨i0, hi, hz0, hz1, hz2⟩ := info_parts infoStr
  have e : rowOf n (strV fun j => if j < k then ⟨#[]⟩ else f j) = ((rowOf n (strV f)).toList.take 0 ++ (List.range k).map (fun _ => Value.string ⟨#[]⟩) ++ (rowOf n (strV f)).toList.drop (0 + k)).toArray := by
    have := laidV_row n (strV f) (fun _ => Value.string ⟨#[]⟩) 0 k (by omega)
    have e2 : (rowOf k (fun _ => Value.string ⟨#[]⟩)).toList = (List.range k).map (fun _ => Value.string ⟨#[]⟩) := by unfold rowOf; rfl
    rw [e2] at this
    rw [this]
    refine rowOf_congr fun j hj => ?_
    unfold strV laidV
    dsimp only
    by_cases c : j < k
    · rw [if_pos c, if_pos (by omega)]
    · rw [if_neg c, if_neg (by omega)]
  cases k with
  | zero =>
    have e0 : w.setRow t (rowOf n (strV fun j => if j < 0 then ⟨#[]⟩ else f j)) = w := by
      have : rowOf n (strV fun j => if j < 0 then ⟨#[]⟩ else f j) = rowOf n (strV f) := rowOf_congr fun j _ => by unfold strV; dsimp only; rw [if_neg (by omega)]
      rw [this]
      exact setRow_self w t _ _ (0, 0) h
    rw [e0]
    simp [Builtin.clear_, run_underlying Tryz.underlying22]
  | succ k =>
    have hst := run_storeCells_at Tryz.prog t 0 9 ((List.range (k + 1)).map (fun _ => Value.string ⟨#[]⟩)) 0 (rowOf n (strV f)) w h (by rw [rowOf_size]; simp; omega) (fun v hv => by simp only [List.mem_map] at hv; obtain ⟨_, _, rfl⟩ := hv; rfl)
    simp only [List.length_map, List.length_range, Nat.add_zero] at hst
    rw [← e] at hst
    simp [Builtin.clear_, run_underlying Tryz.underlying22, zeroValue, typeInfo, hi, hz0, Value.cells, zero_strs, hst, Result.andThen]

/-- A text appended: the new row; the old one is still there, and so is any row that already has that text. -/
theorem app_keep (w : World) (B m q : Nat) (v : Value) (l : List ByteArray) (b : ByteArray) (ty : TypeId) (hown : w.ownsRow B 9 1 v m (l.map .string)) (hq : RowAt w q 9 #[.string b]) (hm : m ≤ 1000000) (hB : B ≤ w.heap.size) :
    ∃ v' w', (Builtin.append_ #[22, 22] ty #[v, .slice (some ⟨q, 0, none⟩) 1 1]).run Tryz.prog w = .ok v' w' ∧ w'.ownsRow B 9 1 v' (m + 1) ((l ++ [b]).map .string) ∧ w'.ownsRow B 9 1 v m (l.map .string) ∧ w.grownBy w' v.ownBlock ∧
      (v'.ownBlock = v.ownBlock ∨ v'.ownBlock = some w.heap.size) ∧
      ∀ u, w.ownsRow B 9 1 u (m + 1) ((l ++ [b]).map .string) → w'.ownsRow B 9 1 u (m + 1) ((l ++ [b]).map .string) := by
  obtain ⟨i0, hi, hz0, hz1, hz2⟩ := info_parts infoStr
  have hnews : ∀ j u, [Value.string b][j]? = some u → w.cell? ((⟨q, 0, none⟩ : Addr).add j) = some u := by
    intro j u hj
    rw [addr_add, Nat.zero_add, cell_of_row w q j #[Value.string b] _ (0, 0) hq]
    simpa using hj
  have h1 : ∀ u ∈ [Value.string b], u.oneCell' = true := fun u hu => by simp at hu; subst hu; rfl
  have el : l.map Value.string ++ [Value.string b] = (l ++ [b]).map Value.string := by simp
  obtain ⟨v', w', hr, h2, h3, _, h4⟩ := run_append_own_at (P := Tryz.prog) w B 22 ty 9 i0 (.string ⟨#[]⟩) 1 16 Tryz.underlying22 hi hz0 hz1 hz2 rfl (by decide) v m (l.map .string) hown ⟨q, 0, none⟩ 1 1 [.string b] rfl hnews h1 (by unfold maxLen; omega) (by omega) hB
  rw [el] at h2
  refine ⟨v', w', hr, h2, ?_, h3, h4, ?_⟩
  · rcases hown.2 with ⟨rfl, rfl⟩ | ⟨g, cap, cur, rfl, hg, hrow, hc, hcm, hcs, htake⟩
    · have : l.map Value.string = [] := List.eq_nil_of_length_eq_zero (by simpa using hown.1)
      rw [this]
      exact World.ownsRow_nil _ _ _ _
    · by_cases hroom : m + 1 ≤ cap
      · have hr2 := run_append_room (P := Tryz.prog) w 22 ty 9 i0 Tryz.underlying22 hi g m cap cur hrow ⟨q, 0, none⟩ 1 1 [.string b] (by rw [hz1]; rfl) hnews h1 hroom (by rw [hz1]; simp; omega)
        rw [hr] at hr2
        cases hr2
        rw [hz1] at *
        refine ⟨hown.1, .inr ⟨g, cap, _, rfl, hg, setRow_heap w g cur _ _ _ hrow, hc, hcm, ?_, ?_⟩⟩
        · simp; omega
        · have e1 : (List.take (m * 1) cur.toList).length = m * 1 := by simp; omega
          show ((List.take (m * 1) cur.toList ++ [Value.string b]) ++ List.drop (m * 1 + 1) cur.toList).take (m * 1) = l.map .string
          rw [List.append_assoc, List.take_append_of_le_length (by omega), List.take_of_length_le (by omega), htake]
      · have hr2 := run_append_grow (P := Tryz.prog) w 22 ty 9 i0 (.string ⟨#[]⟩) Tryz.underlying22 hi hz0 ⟨g, 0, none⟩ m cap (l.map .string) (by rw [hz1]; exact hown.1) (hown.cells (g := g) rfl) ⟨q, 0, none⟩ 1 1 [.string b] (by rw [hz1]; rfl) hnews (by omega) (by omega) (growslice_fits (by omega) (by rw [hz2]; omega))
        rw [hr] at hr2
        cases hr2
        exact World.ownsRow.alloc (w := w.drew) hown _
  · intro u hu
    by_cases hne : u.ownBlock = none ∨ u.ownBlock ≠ v.ownBlock
    · exact hu.kept h3 hne
    · rcases hown.2 with ⟨rfl, rfl⟩ | ⟨g, cap, cur, rfl, hg, hrow, hc, hcm, hcs, htake⟩
      · rcases hu.2 with ⟨rfl, _⟩ | ⟨g', cap', cur', rfl, _⟩
        · exact absurd (.inl rfl) hne
        · exact absurd (.inr (by simp [Value.ownBlock])) hne
      · rcases hu.2 with ⟨rfl, _⟩ | ⟨g', cap', cur', rfl, hg', hrow', hc', hcm', hcs', htake'⟩
        · exact absurd (.inl rfl) hne
        · have eg : g' = g := by
            by_cases e : g' = g
            · exact e
            · exact absurd (.inr (by simp [Value.ownBlock, e])) hne
          subst eg
          rw [hrow] at hrow'
          cases hrow'
          have ec : cap = cap' := by omega
          subst ec
          have hr2 := run_append_room (P := Tryz.prog) w 22 ty 9 i0 Tryz.underlying22 hi g' m cap cur hrow ⟨q, 0, none⟩ 1 1 [.string b] (by rw [hz1]; rfl) hnews h1 hc' (by rw [hz1]; simp; omega)
          rw [hr] at hr2
          cases hr2
          rw [hz1] at *
          refine ⟨hu.1, .inr ⟨g', cap, _, rfl, hg', setRow_heap w g' cur _ _ _ hrow, hc', hcm', ?_, ?_⟩⟩
          · simp; omega
          · have e1 : (List.take (m * 1) cur.toList ++ [Value.string b]).length = (m + 1) * 1 := by simp; omega
            show ((List.take (m * 1) cur.toList ++ [Value.string b]) ++ List.drop (m * 1 + 1) cur.toList).take ((m + 1) * 1) = (l ++ [b]).map .string
            rw [List.take_append_of_le_length (by omega), List.take_of_length_le (by omega), htake, el]

end Go.Proofs.YtapebaoajknepaaGreatDoor
/-
  Contract: an atomic number loaded.
-/
namespace Go.Proofs.YtapebaoajknepaaGreatDoor
open Go.RowKit

end Go.Proofs.YtapebaoajknepaaGreatDoor
/-
  Contracts: hasPage, Segs, Pages, Wear, Counts.
-/
namespace Go.Proofs.YtapebaoajknepaaGreatDoor
open Go.RowKit
set_option linter.unusedVariables false

set_option maxRecDepth 8000 in
theorem segs_any (B : Nat) (w : World) (L : Lay) (S : St) (hv : Value) (h : Hid (Ch B w L S hv)) :
    Calls Tryz.prog 21 #[.pointer (some ⟨L.cp, 0, none⟩)] w fun e w' => e = .returned (.int .i64 (L.n : Nat)) ∧ w' = w := by
  have c1 := h.out.c1
  go_enter Tryz.func21, Tryz.ntmps21
  go_wp2
  go_ret
  exact ⟨rfl, rfl⟩

set_option maxRecDepth 8000 in
theorem pages_any (B : Nat) (w : World) (L : Lay) (S : St) (hv : Value) (h : Hid (Ch B w L S hv)) :
    Calls Tryz.prog 30 #[.pointer (some ⟨L.cp, 0, none⟩)] w fun e w' => e = .returned (.int .i64 (L.m : Nat)) ∧ w' = w := by
  have c1 := h.out.c1
  have c2 := h.out.s0 (i := 0) h.out.room.1
  rw [Nat.zero_mul] at c2
  have n0 := h.out.room.1
  go_enter Tryz.func30, Tryz.ntmps30
  go_wp2
  go_ret
  exact ⟨rfl, rfl⟩

set_option maxRecDepth 8000 in
theorem wear_no (B : Nat) (w : World) (L : Lay) (S : St) (hv : Value) (h : Hid (Ch B w L S hv)) (z : Int) (hz : inB z L.n = false) :
    Calls Tryz.prog 70 #[.pointer (some ⟨L.cp, 0, none⟩), .int .i64 z] w fun e w' => e = .returned (.int .i64 0) ∧ w' = w := by
  have H := Lib.hid (hasSeg_any B w L S hv h z)
  rw [hz] at H
  go_enter Tryz.func70, Tryz.ntmps70
  go_wp2_with fail
  refine H.out.mono ?_
  rintro e w1 ⟨rfl, rfl⟩
  go_wp2
  go_ret
  exact ⟨rfl, rfl⟩

set_option maxRecDepth 8000 in
theorem wear_yes (B : Nat) (w : World) (L : Lay) (S : St) (hv : Value) (h : Hid (Ch B w L S hv)) (i : Nat) (hi : i < L.n) :
    Calls Tryz.prog 70 #[.pointer (some ⟨L.cp, 0, none⟩), .int .i64 (i : Nat)] w fun e w' => e = .returned (.int .i64 (S.wear i : Nat)) ∧ w' = w := by
  have H := Lib.hid (hasSeg_any B w L S hv h i)
  rw [inB_nat i _ hi] at H
  have c1 := h.out.c1
  have c2 := h.out.s1 hi
  have i1 : (i : Int) < (L.n : Int) := by omega
  go_enter Tryz.func70, Tryz.ntmps70
  go_wp2_with fail
  refine H.out.mono ?_
  rintro e w1 ⟨rfl, rfl⟩
  go_wp2
  go_ret
  exact ⟨rfl, rfl⟩

set_option maxRecDepth 8000 in
theorem hasPage_any (B : Nat) (w : World) (L : Lay) (S : St) (hv : Value) (h : Hid (Ch B w L S hv)) (z y : Int) :
    Calls Tryz.prog 27 #[.pointer (some ⟨L.cp, 0, none⟩), .int .i64 z, .int .i64 y] w fun e w' => e = .returned (.bool (inB z L.n && inB y L.m)) ∧ Below w.heap.size w w' := by
  have H := Lib.hid (hasSeg_any B w L S hv h z)
  cases hz : inB z L.n with
  | false =>
    rw [hz] at H
    go_enter Tryz.func27, Tryz.ntmps27
    go_wp2_with fail
    refine H.out.mono ?_
    rintro e w1 ⟨rfl, rfl⟩
    go_wp2
    go_ret
    exact ⟨rfl, Below.refl _ _⟩
  | true =>
    rw [hz] at H
    obtain ⟨i, rfl, hi⟩ := inB_get hz
    have c1 := h.out.c1
    have i1 : (i : Int) < (L.n : Int) := by omega
    have c2 := h.out.s0 hi
    have K := Lib.hid (rowHas_any w (some ⟨L.tp i, 0, none⟩) L.m y)
    rw [Bool.true_and]
    generalize inB y L.m = b at *
    clear hz
    go_enter Tryz.func27, Tryz.ntmps27
    go_wp2_with fail
    refine H.out.mono ?_
    rintro e w1 ⟨rfl, rfl⟩
    go_wp2_with fail
    refine K.out.mono ?_
    rintro e w1 ⟨rfl, hb⟩
    clear c1 c2
    go_wp2
    go_ret
    exact ⟨rfl, hb⟩

end Go.Proofs.YtapebaoajknepaaGreatDoor
/-
  What is done to a chip: the states; boxes beside it.
-/
namespace Go.Proofs.YtapebaoajknepaaGreatDoor
open Go.RowKit
set_option linter.unusedVariables false

theorem cell_beside {F : Nat → Prop} {w w' : World} (h : Beside F w w') {a : Addr} (hl : a.block < w.heap.size) (hF : ¬ F a.block) : w'.cell? a = w.cell? a := World.cell?_of_block (h.block _ hl hF)
/-- A variable of its own. -/
def Box (w : World) (F : Nat → Prop) (b : Nat) (v : Value) : Prop := w.cell? ⟨b, 0, none⟩ = some v ∧ b < w.heap.size ∧ ¬ F b
theorem Box.goes {L : Lay} {hv hv' : Value} {w w' : World} {b : Nat} {v : Value} (h : Box w (foot L hv) b v) (g : Goes L hv w hv' w') : Box w' (foot L hv') b v :=
  ⟨(cell_beside g.side (a := ⟨b, 0, none⟩) h.2.1 h.2.2).trans h.1, Nat.lt_of_lt_of_le h.2.1 g.side.size, fun hf => by
    rcases g.foot b hf with h1 | h1
    · exact h.2.2 h1
    · have := h.2.1; omega⟩
theorem Goes.drew {L : Lay} {hv : Value} (w : World) : Goes L hv w hv w.drew := .of_below ((Below.refl _ w).drew)

/-- The first k texts are gone. -/
def clr (k : Nat) (f : Nat → ByteArray) : Nat → ByteArray := fun j => if j < k then ⟨#[]⟩ else f j
def erS (S : St) (i k : Nat) : St := { S with page := updP S.page i (clr k (S.page i)), wear := updW S.wear i }
def prS (S : St) (i j : Nat) (t : ByteArray) : St := { S with page := updP S.page i (updS (S.page i) j t), hist := S.hist ++ [t] }
def cntE (S : St) : St := { S with erases := S.erases + 1 }
def cntP (S : St) : St := { S with progs := S.progs + 1 }
theorem wrap_one (t : Nat) (h : t ≤ 1000000) : IntKind.i64.wrap ((t : Int) + 1) = ((t + 1 : Nat) : Int) := by
  simp [IntKind.wrap, IntKind.bits, IntKind.signed]
  omega

end Go.Proofs.YtapebaoajknepaaGreatDoor
/-
  Contracts: clearFirst, what Erase does (whole or in part), Erase.
-/
namespace Go.Proofs.YtapebaoajknepaaGreatDoor
open Go.RowKit
set_option linter.unusedVariables false

theorem wpList_clear {ops : Array Oper} {rest : List Oper} {o : Oper} {a : Act} {w w' : World} {Q : Exit → Act → World → Prop} (hgd : o.guard = none) (x : Operand) (ho : o.op = .call { callee := .builtin .clear, args := #[x], argTypes := #[22] }) {v : Value} (hx : a.eval x = v)
    (hr : (Builtin.clear_ #[22] o.type #[v]).run Tryz.prog w = .ok (.tuple #[]) w') (h : wpList Tryz.prog ops Q rest (a.put o.dst (.tuple #[])) w') : wpList Tryz.prog ops Q (o :: rest) a w := by
  refine wpList_plain hgd fun _ hK => ?_
  unfold Oper.wp execOp
  simp only [ho, resolve, invoke, builtin, Sem.run_bind, Sem.run_pure, Result.andThen_ok, List.map_toArray, List.map_cons, List.map_nil, hx, hr]
  exact hK _ _ h

set_option maxHeartbeats 1000000 in
set_option maxRecDepth 8000 in
theorem clearFirst_any (w : World) (t m k : Nat) (f : Nat → ByteArray) (h : Hid (RowAt w t 9 (rowOf m (strV f)))) :
    Calls Tryz.prog 42 #[.agg #[.slice (some ⟨t, 0, none⟩) m m], .int .i64 (k : Nat)] w fun e w' => e = .returned (.tuple #[]) ∧ Hid (RowAt w' t 9 (rowOf m (strV (clr k f)))) ∧ Beside (fun b => b = t) w w' := by
  have b0 : Below w.heap.size w (w.alloc (.cells #[.slice (some ⟨t, 0, none⟩) m m] 57)) := (Below.refl _ _).alloc (Nat.le_refl _) _
  have r0 := Lib.hid (h.out.below b0 h.out.lt)
  obtain ⟨y, hy, ym, hkk⟩ : ∃ y : Nat, ((k : Int) < (m : Int) ∧ (y : Int) = (k : Int) ∨ (m : Int) ≤ (k : Int) ∧ (y : Int) = (m : Int)) ∧ y ≤ m ∧ (∀ j, j < m → (j < y ↔ j < k)) := by
    by_cases c : k < m
    · exact ⟨k, .inl ⟨by omega, rfl⟩, by omega, fun j _ => Iff.rfl⟩
    · exact ⟨m, .inr ⟨by omega, rfl⟩, by omega, fun j _ => by omega⟩
  have e1 : Hid (rowOf m (strV (fun j => if j < y then ⟨#[]⟩ else f j)) = rowOf m (strV (clr k f))) := rowOf_congr fun j hj => by
    unfold strV clr
    dsimp only
    by_cases c : j < k
    · rw [if_pos c, if_pos ((hkk j hj).2 c)]
    · rw [if_neg c, if_neg (fun d => c ((hkk j hj).1 d))]
  have hy' := Lib.hid hy
  have C := Lib.hid (fun ty => run_clear_strs _ t y m m f ty r0.out ym)
  rw [e1.out] at C
  have r1 := Lib.hid (r0.out.setRow (rowOf m (strV (clr k f))))
  have s1 : Beside (fun b => b = t) w ((w.alloc (.cells #[.slice (some ⟨t, 0, none⟩) m m] 57)).setRow t (rowOf m (strV (clr k f)))) := ((Beside.refl (fun b => b = t) w).alloc _).setRow (.inl rfl) _
  have ym' : (y : Int) ≤ (m : Int) := by omega
  clear hy hkk r0
  go_enter Tryz.func42, Tryz.ntmps42
  go_wp2_with (first | (refine wpList_min2 rfl _ _ rfl rfl (k : Int) (m : Int) (y : Int) rfl rfl hy'.out ?_) | (refine wpList_clear rfl _ rfl rfl (C.out _) ?_))
  go_end0
  exact ⟨rfl, r1, s1⟩

set_option maxHeartbeats 1000000 in
set_option maxRecDepth 8000 in
theorem erase1_any (B : Nat) (w : World) (L : Lay) (S : St) (hv : Value) (h : Hid (Ch B w L S hv)) (b1 b2 i k : Nat) (j : Nat) (x1 : Hid (Box w (foot L hv) b1 (.pointer (some ⟨L.cp, 0, none⟩)))) (x2 : Hid (Box w (foot L hv) b2 (.int .i64 (i : Nat)))) (hi : i < L.n) (hw : S.wear i ≤ 1000000) :
    Calls Tryz.prog 41 #[.int .i64 (k : Nat), .int .u8 (j : Nat), .pointer (some ⟨b1, 0, none⟩), .pointer (some ⟨b2, 0, none⟩)] w fun e w' => e = .returned (.tuple #[]) ∧ Hid (Ch B w' L (erS S i k) hv) ∧ Goes L hv w hv w' := by
  have g0 : Goes L hv w hv w.drew := .drew w
  have h0 := Lib.hid (h.out.after ((Below.refl _ w).drew))
  have y1 := Lib.hid (x1.out.goes g0)
  have y2 := Lib.hid (x2.out.goes g0)
  have hw' := Lib.hid (wrap_one _ hw)
  go_enter Tryz.func41, Tryz.ntmps41
  go_wp2_with fail
  refine wp_region_still_tail 9 (by kernel_rfl) (by kernel_rfl) ?_
  change wpStill _ _ (World.drew _) (fun a' => wpList _ _ _ _ a' (World.drew _)) _ _
  clear x1 x2 h
  generalize World.drew _ = w1 at *
  have c1 := h0.out.c1
  have c2 := h0.out.s0 hi
  have z1 := y1.out.1
  have z2 := y2.out.1
  have i1 : (i : Int) < (L.n : Int) := by omega
  have C := Lib.hid (clearFirst_any w1 (L.tp i) L.m k (S.page i) (h0.out.pages i hi))
  simp only [List.take_succ_cons, List.take_zero, List.drop_succ_cons, List.drop_zero]
  refine wpStill_of_quiet _ _ ?_
  repeat (first | go_big_quiet_skip | (go_big_quiet_want; go_big_quiet_op; go_big_quiet_on))
  refine wpQuiet_nil ?_
  clear c1 c2 z1 z2
  go_wp2_with fail
  refine C.out.mono ?_
  rintro e w2 ⟨rfl, r2, s2⟩
  obtain ⟨h2, g2⟩ := h0.out.page' hi s2 r2.out
  replace h2 := Lib.hid (h2.after ((Below.refl _ w2).drew))
  replace g2 := g2.trans (.drew w2)
  replace y1 := Lib.hid (y1.out.goes g2)
  replace y2 := Lib.hid (y2.out.goes g2)
  replace g0 := g0.trans g2
  clear C h0 r2 s2 g2
  go_wp2_with fail
  refine wp_region_still_tail 11 (by kernel_rfl) (by kernel_rfl) ?_
  change wpStill _ _ (World.drew _) (fun a' => wpList _ _ _ _ a' (World.drew _)) _ _
  generalize World.drew _ = w3 at *
  have c1 := h2.out.c1
  have c2 := h2.out.s1 hi
  have z1 := y1.out.1
  have z2 := y2.out.1
  have f2 := h2.out.segs.free (i * 3 + 1)
  obtain ⟨h3, g3⟩ := h2.out.worn i
  change Ch B (w3.setCell ⟨L.sp, i * 3 + 1, none⟩ (.int .i64 ((S.wear i + 1 : Nat) : Int))) L (erS S i k) hv at h3
  change Goes L hv w3 hv (w3.setCell ⟨L.sp, i * 3 + 1, none⟩ (.int .i64 ((S.wear i + 1 : Nat) : Int))) at g3
  replace h3 := Lib.hid h3
  replace g3 := g0.trans g3
  change w3.cell? _ = some (.int .i64 ((S.wear i : Nat) : Int)) at c2
  simp only [List.take_succ_cons, List.take_zero, List.drop_succ_cons, List.drop_zero]
  refine wpStill_of_quiet _ _ ?_
  repeat (first | go_big_quiet_skip | (go_big_quiet_want; go_big_quiet_op; go_big_quiet_on))
  refine wpQuiet_nil ?_
  rw [show ((S.wear i : Nat) : Int) + 1 = ((S.wear i + 1 : Nat) : Int) by omega]
  clear g0 h2
  go_wp2
  go_end0
  exact ⟨rfl, h3, g3⟩


set_option maxHeartbeats 1000000 in
set_option maxRecDepth 8000 in
theorem actE_whole (B : Nat) (w : World) (L : Lay) (S : St) (hv : Value) (h : Hid (Ch B w L S hv)) (b1 b2 i : Nat) (x1 : Hid (Box w (foot L hv) b1 (.pointer (some ⟨L.cp, 0, none⟩)))) (x2 : Hid (Box w (foot L hv) b2 (.int .i64 (i : Nat)))) (hi : i < L.n) (hw : S.wear i ≤ 1000000) (hu : Hid (S.up = true)) (l1 : Int) (hl : Hid (l1 = S.left - 1)) (lo : -1000000 < S.left) (hi2 : S.left < 9223372036854775808) (hb : (l1 != 0) = true) (hc : S.erases ≤ 1000000) :
    Calls Tryz.prog 38 #[.pointer (some ⟨L.cp, 0, none⟩), .pointer (some ⟨L.cp, 5, none⟩), .func (.func 41) #[] #[.pointer (some ⟨b1, 0, none⟩), .pointer (some ⟨b2, 0, none⟩)]] w fun e w' => e = .returned (.int .i64 0) ∧ ∃ hv', Hid (Ch B w' L (erS (cntE (actS S true l1)) i 9223372036854775807) hv') ∧ Goes L hv w hv' w' := by
  have p0 := h.out.pow
  rw [hu.out] at p0
  have A1 := Lib.hid (powAct_yes L.pp S.left S.keep S.junk w p0 lo hi2 l1 hl true hb)
  have c0 := h.out.c0
  have hc' := Lib.hid (wrap_one _ hc)
  have by0 := h.out.byte
  have ta0 := h.out.tall
  replace by0 := Lib.hid by0
  replace ta0 := Lib.hid ta0
  clear p0 lo hi2 hb hc
  go_enter Tryz.func38, Tryz.ntmps38
  go_wp2_with fail
  refine A1.out.mono ?_
  rintro e w1 ⟨rfl, r1, a1⟩
  obtain ⟨h1, g1⟩ := h.out.power a1 r1.out by0.out ta0.out
  replace h1 := Lib.hid h1
  have A2 := Lib.hid (told_add ⟨L.cp, 5, none⟩ (S.erases : Nat) 1 ((S.erases + 1 : Nat) : Int) w1 h1.out.c5 (h1.out.chip.free _) hc'.out)
  obtain ⟨h2, g2⟩ := h1.out.erase
  replace h2 := Lib.hid h2
  replace g2 := g1.trans g2
  clear A1 c0 r1 a1 g1 h1 h
  go_wp2_with fail
  refine A2.out.mono ?_
  rintro e w2 ⟨rfl, rfl⟩
  clear A2
  generalize w1.setCell ⟨L.cp, 5, none⟩ (.int .i64 ((S.erases + 1 : Nat) : Int)) = w2 at *
  replace x1 := Lib.hid (x1.out.goes g2)
  replace x2 := Lib.hid (x2.out.goes g2)
  have D := Lib.hid (erase1_any B w2 L _ hv h2 b1 b2 i 9223372036854775807 0 x1 x2 hi hw)
  go_wp2_with fail
  refine D.out.mono ?_
  rintro e w4 ⟨rfl, H4⟩
  obtain ⟨h4, g4⟩ := H4
  go_wp2
  go_ret
  exact ⟨rfl, _, h4, g2.trans g4⟩

set_option maxHeartbeats 1000000 in
set_option maxRecDepth 8000 in
theorem actE_part (B : Nat) (w : World) (L : Lay) (S : St) (hv : Value) (h : Hid (Ch B w L S hv)) (b1 b2 i : Nat) (x1 : Hid (Box w (foot L hv) b1 (.pointer (some ⟨L.cp, 0, none⟩)))) (x2 : Hid (Box w (foot L hv) b2 (.int .i64 (i : Nat)))) (hi : i < L.n) (hw : S.wear i ≤ 1000000) (hu : Hid (S.up = true)) (l1 : Int) (hl : Hid (l1 = S.left - 1)) (lo : -1000000 < S.left) (hi2 : S.left < 9223372036854775808) (hb : (l1 != 0) = false) (hc : S.erases ≤ 1000000) :
    Calls Tryz.prog 38 #[.pointer (some ⟨L.cp, 0, none⟩), .pointer (some ⟨L.cp, 5, none⟩), .func (.func 41) #[] #[.pointer (some ⟨b1, 0, none⟩), .pointer (some ⟨b2, 0, none⟩)]] w fun e w' => e = .returned (.int .i64 4) ∧ ∃ hv', Hid (Ch B w' L (erS (cntE (actS S false l1)) i S.keep) hv') ∧ Goes L hv w hv' w' := by
  have p0 := h.out.pow
  rw [hu.out] at p0
  have A1 := Lib.hid (powAct_yes L.pp S.left S.keep S.junk w p0 lo hi2 l1 hl false hb)
  have c0 := h.out.c0
  have hc' := Lib.hid (wrap_one _ hc)
  have by0 := h.out.byte
  have ta0 := h.out.tall
  replace by0 := Lib.hid by0
  replace ta0 := Lib.hid ta0
  clear p0 lo hi2 hb hc
  go_enter Tryz.func38, Tryz.ntmps38
  go_wp2_with fail
  refine A1.out.mono ?_
  rintro e w1 ⟨rfl, r1, a1⟩
  obtain ⟨h1, g1⟩ := h.out.power a1 r1.out by0.out ta0.out
  replace h1 := Lib.hid h1
  have A2 := Lib.hid (told_add ⟨L.cp, 5, none⟩ (S.erases : Nat) 1 ((S.erases + 1 : Nat) : Int) w1 h1.out.c5 (h1.out.chip.free _) hc'.out)
  obtain ⟨h2, g2⟩ := h1.out.erase
  replace h2 := Lib.hid h2
  replace g2 := g1.trans g2
  clear A1 c0 r1 a1 g1 h1 h
  go_wp2_with fail
  refine A2.out.mono ?_
  rintro e w2 ⟨rfl, rfl⟩
  clear A2
  generalize w1.setCell ⟨L.cp, 5, none⟩ (.int .i64 ((S.erases + 1 : Nat) : Int)) = w2 at *
  replace x1 := Lib.hid (x1.out.goes g2)
  replace x2 := Lib.hid (x2.out.goes g2)
  have c0 := h2.out.c0
  have Kp := Lib.hid (powKept_any L.pp _ _ _ _ w2 h2.out.pow)
  go_wp2_with fail
  refine Kp.out.mono ?_
  rintro e w3 ⟨rfl, bw3⟩
  replace h2 := Lib.hid (h2.out.after bw3)
  replace g2 := g2.below bw3
  replace x1 := Lib.hid (x1.out.goes (.of_below bw3))
  replace x2 := Lib.hid (x2.out.goes (.of_below bw3))
  have D := Lib.hid (erase1_any B w3 L _ hv h2 b1 b2 i S.keep S.junk x1 x2 hi hw)
  clear Kp c0 bw3
  go_wp2_with fail
  refine D.out.mono ?_
  rintro e w4 ⟨rfl, H4⟩
  obtain ⟨h4, g4⟩ := H4
  go_wp2
  go_ret
  exact ⟨rfl, _, h4, g2.trans g4⟩


end Go.Proofs.YtapebaoajknepaaGreatDoor
/-
  Contract: Erase, all ways.
-/
namespace Go.Proofs.YtapebaoajknepaaGreatDoor
open Go.RowKit
set_option linter.unusedVariables false

def wornB (S : St) (i : Nat) : Bool := S.bad i || decide (S.rated ≤ (S.wear i : Int))
def eraseE (n : Nat) (S : St) (z : Int) : Int := if S.up = false then 4 else if inB z n = false then 1 else if wornB S z.toNat = true then 101 else if (S.left - 1 != 0) = true then 0 else 4
def eraseS (n : Nat) (S : St) (z : Int) : St := if S.up = false then S else if inB z n = false then S else if wornB S z.toNat = true then S else if (S.left - 1 != 0) = true then erS (cntE (actS S true (S.left - 1))) z.toNat 9223372036854775807 else erS (cntE (actS S false (S.left - 1))) z.toNat S.keep

/-- A number that counts acts is small. -/
structure Low (S : St) : Prop where
  progs : S.progs ≤ 1000000
  erases : S.erases ≤ 1000000
  wear : ∀ i, S.wear i ≤ 1000000
  hist : S.hist.length ≤ 1000000
  lo : -1000000 < S.left
  hi : S.left < 9223372036854775808

set_option maxHeartbeats 1000000 in
set_option maxRecDepth 8000 in
theorem erase_off (B : Nat) (w : World) (L : Lay) (S : St) (hv : Value) (h : Hid (Ch B w L S hv)) (z : Int) (hu : S.up = false) :
    Calls Tryz.prog 22 #[.pointer (some ⟨L.cp, 0, none⟩), .int .i64 z] w fun e w' => e = .returned (.int .i64 4) ∧ Below w.heap.size w w' := by
  have b0 : Below w.heap.size w ((w.alloc (.cells #[.pointer (some ⟨L.cp, 0, none⟩)] 24)).alloc (.cells #[.int .i64 z] 3)) := allocs_below [.cells #[.pointer (some ⟨L.cp, 0, none⟩)] 24, .cells #[.int .i64 z] 3] w
  have h0 := Lib.hid (h.out.after b0)
  have x1 : Hid (Box ((w.alloc (.cells #[.pointer (some ⟨L.cp, 0, none⟩)] 24)).alloc (.cells #[.int .i64 z] 3)) (foot L hv) (w.heap.size) (.pointer (some ⟨L.cp, 0, none⟩))) := by
    have r : RowAt ((w.alloc (.cells #[.pointer (some ⟨L.cp, 0, none⟩)] 24)).alloc (.cells #[.int .i64 z] 3)) (w.heap.size) 24 #[.pointer (some ⟨L.cp, 0, none⟩)] := allocs_row [.cells #[.pointer (some ⟨L.cp, 0, none⟩)] 24, .cells #[.int .i64 z] 3] w 0 24 #[.pointer (some ⟨L.cp, 0, none⟩)] rfl
    exact ⟨by rw [cell_of_row _ _ 0 _ _ _ r]; rfl, r.lt, fun hf => by have := (h.out.base _ hf).2; omega⟩
  have z1 := x1.out.1
  have x2 : Hid (Box ((w.alloc (.cells #[.pointer (some ⟨L.cp, 0, none⟩)] 24)).alloc (.cells #[.int .i64 z] 3)) (foot L hv) (w.heap.size + 1) (.int .i64 z)) := by
    have r : RowAt ((w.alloc (.cells #[.pointer (some ⟨L.cp, 0, none⟩)] 24)).alloc (.cells #[.int .i64 z] 3)) (w.heap.size + 1) 3 #[.int .i64 z] := allocs_row [.cells #[.pointer (some ⟨L.cp, 0, none⟩)] 24, .cells #[.int .i64 z] 3] w 1 3 #[.int .i64 z] rfl
    exact ⟨by rw [cell_of_row _ _ 0 _ _ _ r]; rfl, r.lt, fun hf => by have := (h.out.base _ hf).2; omega⟩
  have z2 := x2.out.1
  have U := Lib.hid (powUp_any L.pp _ _ _ _ _ (Lib.hid h0.out.pow))
  have c0 := h0.out.c0
  rw [hu] at U
  go_enter Tryz.func22, Tryz.ntmps22
  go_wp2_with fail
  generalize (w.alloc (.cells #[.pointer (some ⟨L.cp, 0, none⟩)] 24)).alloc (.cells #[.int .i64 z] 3) = w0 at *
  refine U.out.mono ?_
  rintro e w1 ⟨rfl, rfl⟩
  go_wp2
  go_ret
  exact ⟨rfl, b0⟩

set_option maxHeartbeats 1000000 in
set_option maxRecDepth 8000 in
theorem erase_arg (B : Nat) (w : World) (L : Lay) (S : St) (hv : Value) (h : Hid (Ch B w L S hv)) (z : Int) (hu : S.up = true) (hin : inB z L.n = false) :
    Calls Tryz.prog 22 #[.pointer (some ⟨L.cp, 0, none⟩), .int .i64 z] w fun e w' => e = .returned (.int .i64 1) ∧ Below w.heap.size w w' := by
  have b0 : Below w.heap.size w ((w.alloc (.cells #[.pointer (some ⟨L.cp, 0, none⟩)] 24)).alloc (.cells #[.int .i64 z] 3)) := allocs_below [.cells #[.pointer (some ⟨L.cp, 0, none⟩)] 24, .cells #[.int .i64 z] 3] w
  have h0 := Lib.hid (h.out.after b0)
  have x1 : Hid (Box ((w.alloc (.cells #[.pointer (some ⟨L.cp, 0, none⟩)] 24)).alloc (.cells #[.int .i64 z] 3)) (foot L hv) (w.heap.size) (.pointer (some ⟨L.cp, 0, none⟩))) := by
    have r : RowAt ((w.alloc (.cells #[.pointer (some ⟨L.cp, 0, none⟩)] 24)).alloc (.cells #[.int .i64 z] 3)) (w.heap.size) 24 #[.pointer (some ⟨L.cp, 0, none⟩)] := allocs_row [.cells #[.pointer (some ⟨L.cp, 0, none⟩)] 24, .cells #[.int .i64 z] 3] w 0 24 #[.pointer (some ⟨L.cp, 0, none⟩)] rfl
    exact ⟨by rw [cell_of_row _ _ 0 _ _ _ r]; rfl, r.lt, fun hf => by have := (h.out.base _ hf).2; omega⟩
  have z1 := x1.out.1
  have x2 : Hid (Box ((w.alloc (.cells #[.pointer (some ⟨L.cp, 0, none⟩)] 24)).alloc (.cells #[.int .i64 z] 3)) (foot L hv) (w.heap.size + 1) (.int .i64 z)) := by
    have r : RowAt ((w.alloc (.cells #[.pointer (some ⟨L.cp, 0, none⟩)] 24)).alloc (.cells #[.int .i64 z] 3)) (w.heap.size + 1) 3 #[.int .i64 z] := allocs_row [.cells #[.pointer (some ⟨L.cp, 0, none⟩)] 24, .cells #[.int .i64 z] 3] w 1 3 #[.int .i64 z] rfl
    exact ⟨by rw [cell_of_row _ _ 0 _ _ _ r]; rfl, r.lt, fun hf => by have := (h.out.base _ hf).2; omega⟩
  have z2 := x2.out.1
  have U := Lib.hid (powUp_any L.pp _ _ _ _ _ (Lib.hid h0.out.pow))
  have c0 := h0.out.c0
  have H := Lib.hid (hasSeg_any B _ L S hv h0 z)
  rw [hin] at H
  rw [hu] at U
  go_enter Tryz.func22, Tryz.ntmps22
  go_wp2_with fail
  generalize (w.alloc (.cells #[.pointer (some ⟨L.cp, 0, none⟩)] 24)).alloc (.cells #[.int .i64 z] 3) = w0 at *
  refine U.out.mono ?_
  rintro e w1 ⟨rfl, rfl⟩
  go_wp2_with fail
  refine H.out.mono ?_
  rintro e w1 ⟨rfl, rfl⟩
  go_wp2
  go_ret
  exact ⟨rfl, b0⟩

set_option maxHeartbeats 1000000 in
set_option maxRecDepth 8000 in
theorem erase_bad (B : Nat) (w : World) (L : Lay) (S : St) (hv : Value) (h : Hid (Ch B w L S hv)) (i : Nat) (hi : i < L.n) (hu : S.up = true) (hbad : S.bad i = true) :
    Calls Tryz.prog 22 #[.pointer (some ⟨L.cp, 0, none⟩), .int .i64 ((i : Nat) : Int)] w fun e w' => e = .returned (.int .i64 101) ∧ Below w.heap.size w w' := by
  have b0 : Below w.heap.size w ((w.alloc (.cells #[.pointer (some ⟨L.cp, 0, none⟩)] 24)).alloc (.cells #[.int .i64 ((i : Nat) : Int)] 3)) := allocs_below [.cells #[.pointer (some ⟨L.cp, 0, none⟩)] 24, .cells #[.int .i64 ((i : Nat) : Int)] 3] w
  have h0 := Lib.hid (h.out.after b0)
  have x1 : Hid (Box ((w.alloc (.cells #[.pointer (some ⟨L.cp, 0, none⟩)] 24)).alloc (.cells #[.int .i64 ((i : Nat) : Int)] 3)) (foot L hv) (w.heap.size) (.pointer (some ⟨L.cp, 0, none⟩))) := by
    have r : RowAt ((w.alloc (.cells #[.pointer (some ⟨L.cp, 0, none⟩)] 24)).alloc (.cells #[.int .i64 ((i : Nat) : Int)] 3)) (w.heap.size) 24 #[.pointer (some ⟨L.cp, 0, none⟩)] := allocs_row [.cells #[.pointer (some ⟨L.cp, 0, none⟩)] 24, .cells #[.int .i64 ((i : Nat) : Int)] 3] w 0 24 #[.pointer (some ⟨L.cp, 0, none⟩)] rfl
    exact ⟨by rw [cell_of_row _ _ 0 _ _ _ r]; rfl, r.lt, fun hf => by have := (h.out.base _ hf).2; omega⟩
  have z1 := x1.out.1
  have x2 : Hid (Box ((w.alloc (.cells #[.pointer (some ⟨L.cp, 0, none⟩)] 24)).alloc (.cells #[.int .i64 ((i : Nat) : Int)] 3)) (foot L hv) (w.heap.size + 1) (.int .i64 ((i : Nat) : Int))) := by
    have r : RowAt ((w.alloc (.cells #[.pointer (some ⟨L.cp, 0, none⟩)] 24)).alloc (.cells #[.int .i64 ((i : Nat) : Int)] 3)) (w.heap.size + 1) 3 #[.int .i64 ((i : Nat) : Int)] := allocs_row [.cells #[.pointer (some ⟨L.cp, 0, none⟩)] 24, .cells #[.int .i64 ((i : Nat) : Int)] 3] w 1 3 #[.int .i64 ((i : Nat) : Int)] rfl
    exact ⟨by rw [cell_of_row _ _ 0 _ _ _ r]; rfl, r.lt, fun hf => by have := (h.out.base _ hf).2; omega⟩
  have z2 := x2.out.1
  have U := Lib.hid (powUp_any L.pp _ _ _ _ _ (Lib.hid h0.out.pow))
  have c0 := h0.out.c0
  have hin := inB_nat i _ hi
  have H := Lib.hid (hasSeg_any B _ L S hv h0 ((i : Nat) : Int))
  rw [hin] at H
  rw [hu] at U
  have c1 := h0.out.c1
  have c2 := h0.out.c2
  have c3 := h0.out.s1 hi
  have c4 := h0.out.s2 hi
  have i1 : (i : Int) < (L.n : Int) := by omega
  rw [hbad] at c4
  go_enter Tryz.func22, Tryz.ntmps22
  go_wp2_with fail
  generalize (w.alloc (.cells #[.pointer (some ⟨L.cp, 0, none⟩)] 24)).alloc (.cells #[.int .i64 ((i : Nat) : Int)] 3) = w0 at *
  refine U.out.mono ?_
  rintro e w1 ⟨rfl, rfl⟩
  go_wp2_with fail
  refine H.out.mono ?_
  rintro e w1 ⟨rfl, rfl⟩
  go_wp2_with fail
  go_quiet (fail)
  go_wp2_with fail
  go_ret
  exact ⟨rfl, b0.trans ⟨rfl, rfl, rfl, Nat.le_refl _, fun _ _ => rfl⟩⟩

set_option maxHeartbeats 1000000 in
set_option maxRecDepth 8000 in
theorem erase_worn (B : Nat) (w : World) (L : Lay) (S : St) (hv : Value) (h : Hid (Ch B w L S hv)) (i : Nat) (hi : i < L.n) (hu : S.up = true) (hbad : S.bad i = false) (hwo : S.rated ≤ (S.wear i : Int)) :
    Calls Tryz.prog 22 #[.pointer (some ⟨L.cp, 0, none⟩), .int .i64 ((i : Nat) : Int)] w fun e w' => e = .returned (.int .i64 101) ∧ Below w.heap.size w w' := by
  have b0 : Below w.heap.size w ((w.alloc (.cells #[.pointer (some ⟨L.cp, 0, none⟩)] 24)).alloc (.cells #[.int .i64 ((i : Nat) : Int)] 3)) := allocs_below [.cells #[.pointer (some ⟨L.cp, 0, none⟩)] 24, .cells #[.int .i64 ((i : Nat) : Int)] 3] w
  have h0 := Lib.hid (h.out.after b0)
  have x1 : Hid (Box ((w.alloc (.cells #[.pointer (some ⟨L.cp, 0, none⟩)] 24)).alloc (.cells #[.int .i64 ((i : Nat) : Int)] 3)) (foot L hv) (w.heap.size) (.pointer (some ⟨L.cp, 0, none⟩))) := by
    have r : RowAt ((w.alloc (.cells #[.pointer (some ⟨L.cp, 0, none⟩)] 24)).alloc (.cells #[.int .i64 ((i : Nat) : Int)] 3)) (w.heap.size) 24 #[.pointer (some ⟨L.cp, 0, none⟩)] := allocs_row [.cells #[.pointer (some ⟨L.cp, 0, none⟩)] 24, .cells #[.int .i64 ((i : Nat) : Int)] 3] w 0 24 #[.pointer (some ⟨L.cp, 0, none⟩)] rfl
    exact ⟨by rw [cell_of_row _ _ 0 _ _ _ r]; rfl, r.lt, fun hf => by have := (h.out.base _ hf).2; omega⟩
  have z1 := x1.out.1
  have x2 : Hid (Box ((w.alloc (.cells #[.pointer (some ⟨L.cp, 0, none⟩)] 24)).alloc (.cells #[.int .i64 ((i : Nat) : Int)] 3)) (foot L hv) (w.heap.size + 1) (.int .i64 ((i : Nat) : Int))) := by
    have r : RowAt ((w.alloc (.cells #[.pointer (some ⟨L.cp, 0, none⟩)] 24)).alloc (.cells #[.int .i64 ((i : Nat) : Int)] 3)) (w.heap.size + 1) 3 #[.int .i64 ((i : Nat) : Int)] := allocs_row [.cells #[.pointer (some ⟨L.cp, 0, none⟩)] 24, .cells #[.int .i64 ((i : Nat) : Int)] 3] w 1 3 #[.int .i64 ((i : Nat) : Int)] rfl
    exact ⟨by rw [cell_of_row _ _ 0 _ _ _ r]; rfl, r.lt, fun hf => by have := (h.out.base _ hf).2; omega⟩
  have z2 := x2.out.1
  have U := Lib.hid (powUp_any L.pp _ _ _ _ _ (Lib.hid h0.out.pow))
  have c0 := h0.out.c0
  have hin := inB_nat i _ hi
  have H := Lib.hid (hasSeg_any B _ L S hv h0 ((i : Nat) : Int))
  rw [hin] at H
  rw [hu] at U
  have c1 := h0.out.c1
  have c2 := h0.out.c2
  have c3 := h0.out.s1 hi
  have c4 := h0.out.s2 hi
  have i1 : (i : Int) < (L.n : Int) := by omega
  rw [hbad] at c4
  have d1 : decide (((S.wear i : Nat) : Int) ≥ S.rated) = true := decide_eq_true hwo
  clear hwo
  go_enter Tryz.func22, Tryz.ntmps22
  go_wp2_with fail
  generalize (w.alloc (.cells #[.pointer (some ⟨L.cp, 0, none⟩)] 24)).alloc (.cells #[.int .i64 ((i : Nat) : Int)] 3) = w0 at *
  refine U.out.mono ?_
  rintro e w1 ⟨rfl, rfl⟩
  go_wp2_with fail
  refine H.out.mono ?_
  rintro e w1 ⟨rfl, rfl⟩
  go_wp2_with fail
  go_quiet (fail)
  go_wp2_with fail
  go_ret
  exact ⟨rfl, b0.trans ⟨rfl, rfl, rfl, Nat.le_refl _, fun _ _ => rfl⟩⟩

set_option maxHeartbeats 1000000 in
set_option maxRecDepth 8000 in
theorem erase_whole (B : Nat) (w : World) (L : Lay) (S : St) (hv : Value) (h : Hid (Ch B w L S hv)) (i : Nat) (hi : i < L.n) (hu : S.up = true) (hbad : S.bad i = false) (hwo : ¬ S.rated ≤ (S.wear i : Int)) (lw : Low S) (hb : (S.left - 1 != 0) = true) :
    Calls Tryz.prog 22 #[.pointer (some ⟨L.cp, 0, none⟩), .int .i64 ((i : Nat) : Int)] w fun e w' => e = .returned (.int .i64 0) ∧ ∃ hv', Hid (Ch B w' L (erS (cntE (actS S true (S.left - 1))) i 9223372036854775807) hv') ∧ Goes L hv w hv' w' := by
  have b0 : Below w.heap.size w ((w.alloc (.cells #[.pointer (some ⟨L.cp, 0, none⟩)] 24)).alloc (.cells #[.int .i64 ((i : Nat) : Int)] 3)) := allocs_below [.cells #[.pointer (some ⟨L.cp, 0, none⟩)] 24, .cells #[.int .i64 ((i : Nat) : Int)] 3] w
  have h0 := Lib.hid (h.out.after b0)
  have x1 : Hid (Box ((w.alloc (.cells #[.pointer (some ⟨L.cp, 0, none⟩)] 24)).alloc (.cells #[.int .i64 ((i : Nat) : Int)] 3)) (foot L hv) (w.heap.size) (.pointer (some ⟨L.cp, 0, none⟩))) := by
    have r : RowAt ((w.alloc (.cells #[.pointer (some ⟨L.cp, 0, none⟩)] 24)).alloc (.cells #[.int .i64 ((i : Nat) : Int)] 3)) (w.heap.size) 24 #[.pointer (some ⟨L.cp, 0, none⟩)] := allocs_row [.cells #[.pointer (some ⟨L.cp, 0, none⟩)] 24, .cells #[.int .i64 ((i : Nat) : Int)] 3] w 0 24 #[.pointer (some ⟨L.cp, 0, none⟩)] rfl
    exact ⟨by rw [cell_of_row _ _ 0 _ _ _ r]; rfl, r.lt, fun hf => by have := (h.out.base _ hf).2; omega⟩
  have z1 := x1.out.1
  have x2 : Hid (Box ((w.alloc (.cells #[.pointer (some ⟨L.cp, 0, none⟩)] 24)).alloc (.cells #[.int .i64 ((i : Nat) : Int)] 3)) (foot L hv) (w.heap.size + 1) (.int .i64 ((i : Nat) : Int))) := by
    have r : RowAt ((w.alloc (.cells #[.pointer (some ⟨L.cp, 0, none⟩)] 24)).alloc (.cells #[.int .i64 ((i : Nat) : Int)] 3)) (w.heap.size + 1) 3 #[.int .i64 ((i : Nat) : Int)] := allocs_row [.cells #[.pointer (some ⟨L.cp, 0, none⟩)] 24, .cells #[.int .i64 ((i : Nat) : Int)] 3] w 1 3 #[.int .i64 ((i : Nat) : Int)] rfl
    exact ⟨by rw [cell_of_row _ _ 0 _ _ _ r]; rfl, r.lt, fun hf => by have := (h.out.base _ hf).2; omega⟩
  have z2 := x2.out.1
  have U := Lib.hid (powUp_any L.pp _ _ _ _ _ (Lib.hid h0.out.pow))
  have c0 := h0.out.c0
  have hin := inB_nat i _ hi
  have H := Lib.hid (hasSeg_any B _ L S hv h0 ((i : Nat) : Int))
  rw [hin] at H
  rw [hu] at U
  have c1 := h0.out.c1
  have c2 := h0.out.c2
  have c3 := h0.out.s1 hi
  have c4 := h0.out.s2 hi
  have i1 : (i : Int) < (L.n : Int) := by omega
  rw [hbad] at c4
  have d1 : decide (((S.wear i : Nat) : Int) ≥ S.rated) = false := decide_eq_false (by omega)
  clear hwo
  go_enter Tryz.func22, Tryz.ntmps22
  go_wp2_with fail
  generalize (w.alloc (.cells #[.pointer (some ⟨L.cp, 0, none⟩)] 24)).alloc (.cells #[.int .i64 ((i : Nat) : Int)] 3) = w0 at *
  refine U.out.mono ?_
  rintro e w1 ⟨rfl, rfl⟩
  go_wp2_with fail
  refine H.out.mono ?_
  rintro e w1 ⟨rfl, rfl⟩
  clear H U
  have lw' := Lib.hid lw
  have hb' := Lib.hid hb
  clear lw hb
  go_wp2_with fail
  go_quiet (fail)
  go_wp2_with fail
  have bq : Below w1.heap.size w1 (w1.drewN nq).drew := ⟨rfl, rfl, rfl, Nat.le_refl _, fun _ _ => rfl⟩
  have h2 := Lib.hid (h0.out.after bq)
  have y1 := Lib.hid (x1.out.goes (.of_below bq))
  have y2 := Lib.hid (x2.out.goes (.of_below bq))
  have g2 : Goes L hv w hv (w1.drewN nq).drew := .of_below (b0.trans (bq.mono b0.size))
  refine wp_region_still_tail 5 (by kernel_rfl) (by kernel_rfl) ?_
  change wpStill _ _ (World.drew _) (fun a' => wpList _ _ _ _ a' (World.drew _)) _ _
  clear z1 z2 c0 c1 c2 c3 c4 d1 h0 x1 x2 b0 bq
  generalize (w1.drewN nq).drew = w2 at *
  have z1 := y1.out.1
  have z2 := y2.out.1
  have A := Lib.hid (actE_whole B w2 L S hv h2 w.heap.size (w.heap.size + 1) i y1 y2 hi (lw'.out.wear i) hu (S.left - 1) rfl lw'.out.lo lw'.out.hi hb'.out lw'.out.erases)
  simp only [List.take_succ_cons, List.take_zero, List.drop_succ_cons, List.drop_zero]
  refine wpStill_of_quiet _ _ ?_
  repeat (first | go_big_quiet_skip | (go_big_quiet_want; go_big_quiet_op; go_big_quiet_on))
  refine wpQuiet_nil ?_
  go_wp2_with fail
  refine A.out.mono ?_
  rintro e w3 ⟨rfl, hv3, h3, g3⟩
  clear A h2 y1 y2 z1 z2
  go_wp2
  go_ret
  exact ⟨rfl, hv3, h3, g2.trans g3⟩

set_option maxHeartbeats 1000000 in
set_option maxRecDepth 8000 in
theorem erase_part (B : Nat) (w : World) (L : Lay) (S : St) (hv : Value) (h : Hid (Ch B w L S hv)) (i : Nat) (hi : i < L.n) (hu : S.up = true) (hbad : S.bad i = false) (hwo : ¬ S.rated ≤ (S.wear i : Int)) (lw : Low S) (hb : (S.left - 1 != 0) = false) :
    Calls Tryz.prog 22 #[.pointer (some ⟨L.cp, 0, none⟩), .int .i64 ((i : Nat) : Int)] w fun e w' => e = .returned (.int .i64 4) ∧ ∃ hv', Hid (Ch B w' L (erS (cntE (actS S false (S.left - 1))) i S.keep) hv') ∧ Goes L hv w hv' w' := by
  have b0 : Below w.heap.size w ((w.alloc (.cells #[.pointer (some ⟨L.cp, 0, none⟩)] 24)).alloc (.cells #[.int .i64 ((i : Nat) : Int)] 3)) := allocs_below [.cells #[.pointer (some ⟨L.cp, 0, none⟩)] 24, .cells #[.int .i64 ((i : Nat) : Int)] 3] w
  have h0 := Lib.hid (h.out.after b0)
  have x1 : Hid (Box ((w.alloc (.cells #[.pointer (some ⟨L.cp, 0, none⟩)] 24)).alloc (.cells #[.int .i64 ((i : Nat) : Int)] 3)) (foot L hv) (w.heap.size) (.pointer (some ⟨L.cp, 0, none⟩))) := by
    have r : RowAt ((w.alloc (.cells #[.pointer (some ⟨L.cp, 0, none⟩)] 24)).alloc (.cells #[.int .i64 ((i : Nat) : Int)] 3)) (w.heap.size) 24 #[.pointer (some ⟨L.cp, 0, none⟩)] := allocs_row [.cells #[.pointer (some ⟨L.cp, 0, none⟩)] 24, .cells #[.int .i64 ((i : Nat) : Int)] 3] w 0 24 #[.pointer (some ⟨L.cp, 0, none⟩)] rfl
    exact ⟨by rw [cell_of_row _ _ 0 _ _ _ r]; rfl, r.lt, fun hf => by have := (h.out.base _ hf).2; omega⟩
  have z1 := x1.out.1
  have x2 : Hid (Box ((w.alloc (.cells #[.pointer (some ⟨L.cp, 0, none⟩)] 24)).alloc (.cells #[.int .i64 ((i : Nat) : Int)] 3)) (foot L hv) (w.heap.size + 1) (.int .i64 ((i : Nat) : Int))) := by
    have r : RowAt ((w.alloc (.cells #[.pointer (some ⟨L.cp, 0, none⟩)] 24)).alloc (.cells #[.int .i64 ((i : Nat) : Int)] 3)) (w.heap.size + 1) 3 #[.int .i64 ((i : Nat) : Int)] := allocs_row [.cells #[.pointer (some ⟨L.cp, 0, none⟩)] 24, .cells #[.int .i64 ((i : Nat) : Int)] 3] w 1 3 #[.int .i64 ((i : Nat) : Int)] rfl
    exact ⟨by rw [cell_of_row _ _ 0 _ _ _ r]; rfl, r.lt, fun hf => by have := (h.out.base _ hf).2; omega⟩
  have z2 := x2.out.1
  have U := Lib.hid (powUp_any L.pp _ _ _ _ _ (Lib.hid h0.out.pow))
  have c0 := h0.out.c0
  have hin := inB_nat i _ hi
  have H := Lib.hid (hasSeg_any B _ L S hv h0 ((i : Nat) : Int))
  rw [hin] at H
  rw [hu] at U
  have c1 := h0.out.c1
  have c2 := h0.out.c2
  have c3 := h0.out.s1 hi
  have c4 := h0.out.s2 hi
  have i1 : (i : Int) < (L.n : Int) := by omega
  rw [hbad] at c4
  have d1 : decide (((S.wear i : Nat) : Int) ≥ S.rated) = false := decide_eq_false (by omega)
  clear hwo
  go_enter Tryz.func22, Tryz.ntmps22
  go_wp2_with fail
  generalize (w.alloc (.cells #[.pointer (some ⟨L.cp, 0, none⟩)] 24)).alloc (.cells #[.int .i64 ((i : Nat) : Int)] 3) = w0 at *
  refine U.out.mono ?_
  rintro e w1 ⟨rfl, rfl⟩
  go_wp2_with fail
  refine H.out.mono ?_
  rintro e w1 ⟨rfl, rfl⟩
  clear H U
  have lw' := Lib.hid lw
  have hb' := Lib.hid hb
  clear lw hb
  go_wp2_with fail
  go_quiet (fail)
  go_wp2_with fail
  have bq : Below w1.heap.size w1 (w1.drewN nq).drew := ⟨rfl, rfl, rfl, Nat.le_refl _, fun _ _ => rfl⟩
  have h2 := Lib.hid (h0.out.after bq)
  have y1 := Lib.hid (x1.out.goes (.of_below bq))
  have y2 := Lib.hid (x2.out.goes (.of_below bq))
  have g2 : Goes L hv w hv (w1.drewN nq).drew := .of_below (b0.trans (bq.mono b0.size))
  refine wp_region_still_tail 5 (by kernel_rfl) (by kernel_rfl) ?_
  change wpStill _ _ (World.drew _) (fun a' => wpList _ _ _ _ a' (World.drew _)) _ _
  clear z1 z2 c0 c1 c2 c3 c4 d1 h0 x1 x2 b0 bq
  generalize (w1.drewN nq).drew = w2 at *
  have z1 := y1.out.1
  have z2 := y2.out.1
  have A := Lib.hid (actE_part B w2 L S hv h2 w.heap.size (w.heap.size + 1) i y1 y2 hi (lw'.out.wear i) hu (S.left - 1) rfl lw'.out.lo lw'.out.hi hb'.out lw'.out.erases)
  simp only [List.take_succ_cons, List.take_zero, List.drop_succ_cons, List.drop_zero]
  refine wpStill_of_quiet _ _ ?_
  repeat (first | go_big_quiet_skip | (go_big_quiet_want; go_big_quiet_op; go_big_quiet_on))
  refine wpQuiet_nil ?_
  go_wp2_with fail
  refine A.out.mono ?_
  rintro e w3 ⟨rfl, hv3, h3, g3⟩
  clear A h2 y1 y2 z1 z2
  go_wp2
  go_ret
  exact ⟨rfl, hv3, h3, g2.trans g3⟩

set_option maxHeartbeats 1000000 in
theorem erase_any (B : Nat) (w : World) (L : Lay) (S : St) (hv : Value) (h : Hid (Ch B w L S hv)) (z : Int) (lw : Low S) :
    Calls Tryz.prog 22 #[.pointer (some ⟨L.cp, 0, none⟩), .int .i64 z] w fun e w' => e = .returned (.int .i64 (eraseE L.n S z)) ∧ ∃ hv', Hid (Ch B w' L (eraseS L.n S z) hv') ∧ Goes L hv w hv' w' := by
  have up : ∀ {E : Int}, (Calls Tryz.prog 22 #[.pointer (some ⟨L.cp, 0, none⟩), .int .i64 z] w fun e w' => e = .returned (.int .i64 E) ∧ Below w.heap.size w w') → Calls Tryz.prog 22 #[.pointer (some ⟨L.cp, 0, none⟩), .int .i64 z] w fun e w' => e = .returned (.int .i64 E) ∧ ∃ hv', Hid (Ch B w' L S hv') ∧ Goes L hv w hv' w' := fun c => c.mono fun e w' ⟨h1, h2⟩ => ⟨h1, hv, h.out.after h2, .of_below h2⟩
  unfold eraseE eraseS
  by_cases hu : S.up = false
  · rw [if_pos hu, if_pos hu]
    exact up (erase_off B w L S hv h z hu)
  rw [if_neg hu, if_neg hu]
  have hu' : S.up = true := by simpa using hu
  by_cases hin : inB z L.n = false
  · rw [if_pos hin, if_pos hin]
    exact up (erase_arg B w L S hv h z hu' hin)
  rw [if_neg hin, if_neg hin]
  obtain ⟨i, rfl, hi⟩ := inB_get (show inB z L.n = true by simpa using hin)
  rw [show ((i : Nat) : Int).toNat = i from rfl]
  by_cases hb : S.bad i = true
  · have e1 : wornB S i = true := by unfold wornB; rw [hb]; rfl
    rw [if_pos e1, if_pos e1]
    exact up (erase_bad B w L S hv h i hi hu' hb)
  have hb' : S.bad i = false := by simpa using hb
  by_cases hr : S.rated ≤ (S.wear i : Int)
  · have e1 : wornB S i = true := by unfold wornB; rw [decide_eq_true hr, Bool.or_true]
    rw [if_pos e1, if_pos e1]
    exact up (erase_worn B w L S hv h i hi hu' hb' hr)
  have e1 : ¬ wornB S i = true := by unfold wornB; rw [hb', decide_eq_false hr]; decide
  rw [if_neg e1, if_neg e1]
  by_cases hl : (S.left - 1 != 0) = true
  · rw [if_pos hl, if_pos hl]
    exact erase_whole B w L S hv h i hi hu' hb' hr lw hl
  · rw [if_neg hl, if_neg hl]
    exact erase_part B w L S hv h i hi hu' hb' hr lw (by simpa using hl)

end Go.Proofs.YtapebaoajknepaaGreatDoor
/-
  A region that draws its order, makes memory, and ends in stores that wait for all the rest: the rest in any order (as in XRely), then the stores, in a row.
-/
namespace Go.Proofs.YtapebaoajknepaaGreatDoor
open Go.RowKit

/-- The first n done, the others not. -/
def headDone (n g : Nat) : Array Bool := (List.replicate n true ++ List.replicate g false).toArray

def relyTailB (ops : Array Oper) (n : Nat) : Bool :=
  relyB ops && decide (n < ops.size) && Region.sinkB .any ops n && Region.chainB .any ops n && Region.seqB .any ops (ops.size - n) n (headDone n (ops.size - n))

section
variable {P : Program} {ops : Array Oper} {C : World → Prop} {R : List Pred} {a0 : Act}

/-- What the walk over the first n shows, at all values at once. -/
theorem rely_head {n : Nat} (hn : n ≤ ops.size) {Q : Act → World → Prop} (vals : Nat → Value) : ∀ (l : List Oper) (rs : List Pred) (k : Nat), l = (ops.toList.take n).drop k → rs = R.drop k →
    wpRely P ops C R Q l rs (factsTo R vals k) (actTo ops a0 vals k) →
    (∀ j o, k ≤ j → j < n → ops[j]? = some o → ∀ w, C w → (∀ d ∈ depsOf o, predAt R d (vals d) w) → growsAt P ops o (actTo ops a0 vals j) w fun v w' => C w' ∧ predAt R j v w' ∧ Keeps R w w') ∧
    (k ≤ n → ∀ w, C w → (∀ i, i < n → predAt R i (vals i) w) → Q (actTo ops a0 vals n) w)
  | [], [], k, hl, _, h => by
    have hk : n ≤ k := by
      have := congrArg List.length hl
      simp at this
      omega
    refine ⟨fun j o hj hjn ho => by omega, fun hk2 w hw hall => ?_⟩
    have : k = n := by omega
    subst this
    exact h w hw (factsAll_of _ fun f hf => by
      unfold factsTo at hf
      simp only [List.mem_map, List.mem_range] at hf
      obtain ⟨i, hi, rfl⟩ := hf
      exact hall i hi)
  | o :: l, r :: rs, k, hl, hr, h => by
    obtain ⟨h1, h2⟩ := h
    have hkn : k < n := by
      have := congrArg List.length hl
      simp at this
      omega
    have hok : ops[k]? = some o := by
      have : ((ops.toList.take n).drop k)[0]? = some o := by rw [← hl]; rfl
      rw [List.getElem?_drop, Nat.add_zero, List.getElem?_take, if_pos hkn] at this
      simpa using this
    have hrk : predAt R k = r := by
      have : (R.drop k)[0]? = some r := by rw [← hr]; rfl
      unfold predAt
      rw [List.getElem?_drop] at this
      simp only [Nat.add_zero] at this
      rw [List.getD_eq_getElem?_getD, this]
      rfl
    have hl' : l = (ops.toList.take n).drop (k + 1) := by rw [← List.tail_drop, ← hl]; rfl
    have hr' : rs = R.drop (k + 1) := by rw [← List.tail_drop, ← hr]; rfl
    have h3 := h2 (vals k)
    rw [← hrk, ← factsTo_succ] at h3
    have h4 : (actTo ops a0 vals k).put o.dst (vals k) = actTo ops a0 vals (k + 1) := by
      show _ = (actTo ops a0 vals k).put (dstAt ops k) (vals k)
      unfold dstAt
      rw [hok]
      rfl
    rw [h4] at h3
    obtain ⟨i1, i2⟩ := rely_head hn vals l rs (k + 1) hl' hr' h3
    refine ⟨fun j o' hj hjn ho' w hw hd => ?_, fun _ => i2 (by omega)⟩
    by_cases e : j = k
    · subst e
      obtain rfl : o = o' := Option.some.inj (hok.symm.trans ho')
      rw [hrk]
      exact h1 w hw (factsOf_of _ fun d hu => hd d (usesOf_deps hu))
    · exact i1 j o' (by omega) hjn ho' w hw hd
  | [], _ :: _, _, _, _, h => by cases h
  | _ :: _, [], _, _, _, h => by cases h

theorem HeadInv.down {n : Nat} {L : Array Bool} (inv : HeadInv .any ops n L) : ∀ k o, ops[k]? = some o → L.getD k true = true → ∀ d ∈ depsOf o, L.getD d true = true := by
  intro k o ho hk d hd
  have hks : k < L.size := by rw [inv.size]; exact (Array.getElem?_eq_some_iff.1 ho).1
  have h1 : L.getD k false = true := by
    rw [Array.getD_eq_getD_getElem?, Array.getElem?_eq_getElem hks] at hk ⊢
    exact hk
  unfold depsOf at hd
  obtain ⟨e, he, rfl⟩ := List.mem_map.1 hd
  obtain ⟨he1, he2⟩ := List.mem_filter.1 he
  have := inv.closed k o ho h1 e (by simpa using he1) he2
  rw [Array.getD_eq_getD_getElem?] at this ⊢
  cases hx : L[e.on]? with
  | none => rfl
  | some b => rw [hx] at this; exact this

theorem actOf_head {L : Array Bool} {vals : Nat → Value} {n : Nat} (h1 : ∀ i, i < n → L.getD i true = true) : ∀ k, k ≤ n → actOf ops a0 L vals k = actTo ops a0 vals k
  | 0, _ => rfl
  | k + 1, hk => by
    show (if L.getD k true = true then _ else _) = _
    rw [if_pos (h1 k (by omega)), actOf_head h1 k (by omega)]
    rfl
theorem actOf_rest {L : Array Bool} {vals : Nat → Value} {n m : Nat} (h2 : ∀ i, n ≤ i → i < m → L.getD i true = false) : ∀ k, n + k ≤ m → actOf ops a0 L vals (n + k) = actOf ops a0 L vals n
  | 0, _ => rfl
  | k + 1, hk => by
    show (if L.getD (n + k) true = true then _ else _) = _
    rw [if_neg (by rw [h2 (n + k) (by omega) (by omega)]; simp)]
    exact actOf_rest h2 k (by omega)

theorem count_take {L : Array Bool} {n j : Nat} (hj : j < n) (hs : j < L.size) (hun : L.getD j true = false) : ((L.setIfInBounds j true).toList.take n).count false + 1 = (L.toList.take n).count false := by
  have hj1 : (L.toList.take n)[j]? = some false := by
    rw [List.getElem?_take, if_pos hj, Array.getElem?_toList, Array.getElem?_eq_getElem hs]
    simp [hs] at hun
    rw [hun]
  rw [Array.toList_setIfInBounds, List.take_set]
  have : ∀ (l : List Bool) (j : Nat), l[j]? = some false → (l.set j true).count false + 1 = l.count false := by
    intro l
    induction l with
    | nil => intro j h; simp at h
    | cons b l ih =>
      intro j h
      cases j with
      | zero => simp at h; subst h; simp
      | succ j =>
        have := ih j (by simpa using h)
        simp only [List.set_cons_succ, List.count_cons]
        omega
  exact this _ _ hj1

theorem wpAny_rely_tail {n : Nat} {Q : Exit → Act → World → Prop} (hB : relyTailB ops n = true) (h : wpRely P ops C R (fun a w => wpList P ops Q (ops.toList.drop n) a w) (ops.toList.take n) R [] a0) :
    ∀ (f : Nat) (L : Array Bool) (vals : Nat → Value) (w : World), HeadInv .any ops n L → (L.toList.take n).count false = f → C w → (∀ i, i < n → L.getD i true = true → predAt R i (vals i) w) →
      wpAny P .any ops Q (f + (ops.size - n)) L (actOf ops a0 L vals ops.size) w := by
  unfold relyTailB at hB
  simp only [Bool.and_eq_true, decide_eq_true_eq] at hB
  obtain ⟨⟨⟨⟨hB, hn⟩, hs⟩, hc⟩, hq⟩ := hB
  intro f
  induction f with
  | zero =>
    intro L vals w inv hcount hC hR
    have hall : ∀ i, i < n → L.getD i true = true := by
      intro i hi
      cases hv : L.getD i true with
      | true => rfl
      | false =>
        have := count_take (n := n) hi (by rw [inv.size]; omega) hv
        omega
    have hL : L = headDone n (ops.size - n) := by
      apply Array.ext
      · rw [inv.size]
        unfold headDone
        simp
        omega
      · intro i h1 h2
        have hi : i < ops.size := by rw [← inv.size]; exact h1
        have hx : ∀ b, (List.replicate n true ++ List.replicate (ops.size - n) false)[i]? = some b → (headDone n (ops.size - n))[i] = b := by
          intro b hb
          have e : (headDone n (ops.size - n))[i]? = some b := by
            unfold headDone
            rw [List.getElem?_toArray]
            exact hb
          rw [Array.getElem?_eq_getElem h2] at e
          exact Option.some.inj e
        by_cases hin : i < n
        · have := hall i hin
          rw [Array.getD_eq_getD_getElem?, Array.getElem?_eq_getElem h1] at this
          rw [hx true (by rw [List.getElem?_append_left (by simpa using hin)]; simp [hin])]
          exact this
        · have := inv.tail i (by omega) hi
          rw [Array.getD_eq_getD_getElem?, Array.getElem?_eq_getElem h1] at this
          rw [hx false (by rw [List.getElem?_append_right (by simpa using Nat.le_of_not_lt hin), List.getElem?_replicate, if_pos (by simp only [List.length_replicate]; omega)])]
          exact this
    have hact : actOf ops a0 L vals ops.size = actTo ops a0 vals n := by
      have e1 := actOf_rest (ops := ops) (a0 := a0) (vals := vals) (fun i h1 h2 => inv.tail i h1 h2) (ops.size - n) (by omega)
      rw [show n + (ops.size - n) = ops.size by omega] at e1
      rw [e1, actOf_head hall n (Nat.le_refl _)]
    rw [hact, Nat.zero_add]
    have hw := (rely_head (by omega) (a0 := a0) vals (ops.toList.take n) R 0 (by simp) (by simp) h).2 (Nat.zero_le _) w hC (fun i hi => hR i hi (hall i hi))
    have hlen : (ops.toList.drop n).length = ops.size - n := by simp
    have := wpAny_of_seq (P := P) (md := .any) (ops := ops) (Q' := Q) (ops.toList.drop n) n L (actTo ops a0 vals n) w (fun j => by simp [List.getElem?_drop]) (by rw [hlen, hL]; exact hq) hw
    rw [hlen] at this
    exact this
  | succ f ih =>
    intro L vals w inv hcount hC hR
    have hdown := HeadInv.down inv
    have hex : ∃ i, i < n ∧ L.getD i true = false := by
      refine Classical.byContradiction fun hne => ?_
      have : ∀ b ∈ L.toList.take n, b = true := by
        intro b hb
        obtain ⟨i, hi, rfl⟩ := List.getElem_of_mem hb
        have hi1 : i < n := by simp at hi; omega
        have hi2 : i < L.size := by simp at hi; omega
        rw [List.getElem_take]
        cases hv : L.getD i true with
        | true =>
          rw [Array.getD_eq_getD_getElem?, Array.getElem?_eq_getElem hi2] at hv
          simpa using hv
        | false => exact absurd ⟨i, hi1, hv⟩ hne
      have : (L.toList.take n).count false = 0 := List.count_eq_zero.2 fun hf => by cases this _ hf
      omega
    have hready : ∀ j ∈ Region.ready .any ops L, j < n := by
      intro j hj
      obtain ⟨i, hi, hun⟩ := hex
      refine Nat.lt_of_not_le fun hnj => ?_
      exact tail_waits hs hc hn inv (n - i) i rfl hi hun j hnj hj
    rw [show f + 1 + (ops.size - n) = (f + (ops.size - n)) + 1 by omega]
    refine ⟨fun hr => ?_, fun j hj => ?_⟩
    · exfalso
      obtain ⟨i, hi, hun⟩ := hex
      have : ∀ m i, i ≤ m → i < n → L.getD i true = true := by
        intro m
        induction m with
        | zero =>
          intro i him hi
          cases hv : L.getD i true with
          | true => rfl
          | false =>
            exfalso
            have hkk : ops[i]? = some ops[i] := Array.getElem?_eq_getElem (by omega)
            have : i ∈ Region.ready .any ops L := mem_ready.2 ⟨hv, _, hkk, fun e he hb => by
              have := relyB_deps hB hkk (d := e.on) (by unfold depsOf; exact List.mem_map.2 ⟨e, List.mem_filter.2 ⟨by simpa using he, hb⟩, rfl⟩)
              omega⟩
            rw [hr] at this
            cases this
        | succ m ihm =>
          intro i him hi
          cases hv : L.getD i true with
          | true => rfl
          | false =>
            exfalso
            have hkk : ops[i]? = some ops[i] := Array.getElem?_eq_getElem (by omega)
            have : i ∈ Region.ready .any ops L := mem_ready.2 ⟨hv, _, hkk, fun e he hb => by
              have hlt := relyB_deps hB hkk (d := e.on) (by unfold depsOf; exact List.mem_map.2 ⟨e, List.mem_filter.2 ⟨by simpa using he, hb⟩, rfl⟩)
              have := ihm e.on (by omega) (by omega)
              rw [Array.getD_eq_getD_getElem?] at this ⊢
              rw [Array.getElem?_eq_getElem (by rw [inv.size]; omega)] at this ⊢
              exact this⟩
            rw [hr] at this
            cases this
      rw [this i i (Nat.le_refl _) hi] at hun
      cases hun
    · obtain ⟨hun, o, ho, hall⟩ := mem_ready.1 hj
      have hjn := hready j hj
      have hjs : j < ops.size := by omega
      have hrd : ∀ d ∈ depsOf o, L.getD d true = true := fun d hd => by
        unfold depsOf at hd
        obtain ⟨e, he, rfl⟩ := List.mem_map.1 hd
        obtain ⟨he1, he2⟩ := List.mem_filter.1 he
        have := hall e (by simpa using he1) he2
        rw [Array.getD_eq_getD_getElem?] at this ⊢
        cases hx : L[e.on]? with
        | none => rfl
        | some b => rw [hx] at this; exact this
      have hdlt : ∀ d ∈ depsOf o, d < n := fun d hd => Nat.lt_trans (relyB_deps hB ho hd) hjn
      have hg := (rely_head (by omega) (a0 := a0) vals (ops.toList.take n) R 0 (by simp) (by simp) h).1 j o (Nat.zero_le _) hjn ho w hC (fun d hd => hR d (hdlt d hd) (hrd d hd))
      have hsame : ∀ d ∈ o.looksAt ops, (actOf ops a0 L vals ops.size).tmps[d]? = (actTo ops a0 vals j).tmps[d]? := fun d hd => look_same hB hdown ho hun hrd hd ops.size (by omega) (Nat.le_refl _)
      have hsel := Region.noSelect_spec (ops := ops) (by unfold relyB at hB; simp only [Bool.and_eq_true] at hB; exact hB.1)
      have hg' : growsAt P ops o (actOf ops a0 L vals ops.size) w fun v w' => C w' ∧ predAt R j v w' ∧ Keeps R w w' := by
        unfold growsAt at hg ⊢
        rw [wanted_look hsame, execOp_look (fun cs b => hsel j o cs b ho) hsame]
        exact hg
      refine wpOp_of_grows ho hg' fun v w' ⟨hC', hr', hk'⟩ => ?_
      have hput := actOf_put (a0 := a0) (vals := vals) hB hdown ho hun v ops.size (Nat.le_refl _)
      rw [if_pos hjs] at hput
      have hd : dstAt ops j = o.dst := by unfold dstAt; rw [ho]; rfl
      rw [hd] at hput
      rw [← hput]
      refine ih _ _ w' (inv.set hj hjn) ?_ hC' ?_
      · have := count_take (n := n) hjn (by rw [inv.size]; omega) hun
        omega
      · intro i hi hLi
        by_cases e : i = j
        · subst e
          simp only [if_pos]
          exact hr'
        · rw [if_neg e]
          rw [getD_set_ne true (fun h => e h.symm)] at hLi
          exact hk' i _ (hR i hi hLi)

/-- **One walk over the first n, in the order of the text, then the rest in a row, serves every order.** -/
theorem wp_region_rely_tail {id : Nat} {Q : Exit → Act → World → Prop} {w : World} {l : List Oper} (n : Nat) (C : World → Prop) (rs : List Pred) (hm : P.follows .mixedOrders = true) (hB : relyTailB l.toArray n = true) (hC : C w.drew) (hst : Steady rs)
    (h : ∀ R, Steady R → wpRely P l.toArray C R (fun a w => wpList P l.toArray Q (l.drop n) a w) (l.take n) rs [] a0) : (Code.region id l.toArray true).wp P Q a0 w := by
  refine wp_region_any hm ?_
  have inv0 : HeadInv .any l.toArray n (Array.replicate l.toArray.size false) :=
    ⟨by simp, fun j oj _ hl => (by rw [getD_replicate_false] at hl; cases hl), fun t _ ht => getD_in (by simpa using ht) (getD_replicate_false _ _)⟩
  have hn : n < l.toArray.size := by
    unfold relyTailB at hB
    simp only [Bool.and_eq_true, decide_eq_true_eq] at hB
    exact hB.1.1.1.2
  have hcount : ((Array.replicate l.toArray.size false).toList.take n).count false = n := by
    have : n < l.length := by simpa using hn
    simp
    omega
  have hno : ∀ k, k < l.toArray.size → (Array.replicate l.toArray.size false).getD k true = false := fun k hk => by
    rw [Array.getD_eq_getD_getElem?, Array.getElem?_replicate, if_pos hk]
    rfl
  have := wpAny_rely_tail (P := P) (ops := l.toArray) (C := C) (R := rs) (a0 := a0) (Q := Q) hB (by simpa using h rs hst) n (Array.replicate l.toArray.size false) (fun _ => undef) w.drew inv0 hcount hC
    (fun i hi hk => by rw [hno i (by omega)] at hk; cases hk)
  have he : actOf l.toArray a0 (Array.replicate l.toArray.size false) (fun _ => undef) l.toArray.size = a0 := by
    have := actOf_rest (ops := l.toArray) (a0 := a0) (vals := fun _ => undef) (n := 0) (m := l.toArray.size) (fun i _ hi => hno i hi) l.toArray.size (by omega)
    rw [Nat.zero_add] at this
    exact this
  rw [he, show n + (l.toArray.size - n) = l.toArray.size by omega] at this
  exact this

end

end Go.Proofs.YtapebaoajknepaaGreatDoor
/-
  A region that draws its order and ends in operations that wait for all the rest, where what is told of the values is kept by its operations, whatever that is.
-/
namespace Go.Proofs.YtapebaoajknepaaGreatDoor
open Go.RowKit
set_option linter.unusedVariables false

section
variable {P : Program} {a0 : Act}
theorem wp_region_head {id : Nat} {Q : Exit → Act → World → Prop} {w : World} {l : List Oper} (n : Nat) (C : World → Prop) (rs : List Pred) (Φ : List Pred → Prop) (hm : P.follows .mixedOrders = true) (hB : relyTailB l.toArray n = true) (hC : C w.drew) (hst : Φ rs)
    (h : ∀ R, Φ R → wpRely P l.toArray C R (fun a w => wpList P l.toArray Q (l.drop n) a w) (l.take n) rs [] a0) : (Code.region id l.toArray true).wp P Q a0 w := by
  refine wp_region_any hm ?_
  have inv0 : HeadInv .any l.toArray n (Array.replicate l.toArray.size false) :=
    ⟨by simp, fun j oj _ hl => (by rw [getD_replicate_false] at hl; cases hl), fun t _ ht => getD_in (by simpa using ht) (getD_replicate_false _ _)⟩
  have hn : n < l.toArray.size := by
    unfold relyTailB at hB
    simp only [Bool.and_eq_true, decide_eq_true_eq] at hB
    exact hB.1.1.1.2
  have hcount : ((Array.replicate l.toArray.size false).toList.take n).count false = n := by
    have : n < l.length := by simpa using hn
    simp
    omega
  have hno : ∀ k, k < l.toArray.size → (Array.replicate l.toArray.size false).getD k true = false := fun k hk => by
    rw [Array.getD_eq_getD_getElem?, Array.getElem?_replicate, if_pos hk]
    rfl
  have := wpAny_rely_tail (P := P) (ops := l.toArray) (C := C) (R := rs) (a0 := a0) (Q := Q) hB (by simpa using h rs hst) n (Array.replicate l.toArray.size false) (fun _ => undef) w.drew inv0 hcount hC
    (fun i hi hk => by rw [hno i (by omega)] at hk; cases hk)
  have he : actOf l.toArray a0 (Array.replicate l.toArray.size false) (fun _ => undef) l.toArray.size = a0 := by
    have := actOf_rest (ops := l.toArray) (a0 := a0) (vals := fun _ => undef) (n := 0) (m := l.toArray.size) (fun i _ hi => hno i hi) l.toArray.size (by omega)
    rw [Nat.zero_add] at this
    exact this
  rw [he, show n + (l.toArray.size - n) = l.toArray.size by omega] at this
  exact this
end

end Go.Proofs.YtapebaoajknepaaGreatDoor
/-
  A text appended to the history in a region that draws its order: what is told of the values, what is kept.
-/
namespace Go.Proofs.YtapebaoajknepaaGreatDoor
open Go.RowKit
set_option linter.unusedVariables false

theorem own_slice {w : World} {B : Nat} {t : TypeId} {k n : Nat} {v : Value} {xs : List Value} (h : w.ownsRow B t k v n xs) : ∃ a c, v = .slice a n c := by
  rcases h.2 with ⟨rfl, rfl⟩ | ⟨g, cap, cur, rfl, _⟩
  · exact ⟨_, _, rfl⟩
  · exact ⟨_, _, rfl⟩
def onet (w0 : World) (s : ByteArray) : Pred := fun v w => ∃ q, v = .slice (some ⟨q, 0, none⟩) 1 1 ∧ w0.heap.size ≤ q ∧ RowAt w q 9 #[.string s]
def ownt (w0 : World) (B m : Nat) (l : List ByteArray) (s : ByteArray) (hv : Value) : Pred := fun v w => w.ownsRow B 9 1 v (m + 1) ((l ++ [s]).map .string) ∧ (v.ownBlock = hv.ownBlock ∨ ∀ k, v.ownBlock = some k → w0.heap.size ≤ k)
/-- From one world to the next: the history's row may have grown, a row with the text stays. -/
structure KeepT (B m : Nat) (l : List ByteArray) (s : ByteArray) (hv : Value) (w w' : World) : Prop where
  grown : w.grownBy w' hv.ownBlock
  more : ∀ u, w.ownsRow B 9 1 u (m + 1) ((l ++ [s]).map .string) → w'.ownsRow B 9 1 u (m + 1) ((l ++ [s]).map .string)
theorem KeepT.alloc (B m : Nat) (l : List ByteArray) (s : ByteArray) (hv : Value) (w : World) (o : Obj) : KeepT B m l s hv w (w.alloc o) := ⟨World.grownBy_alloc w o _, fun u h => h.alloc o⟩
/-- The worlds reached: the history is as it was, or has grown behind its end. -/
structure HC (B m : Nat) (l : List ByteArray) (hv : Value) (w0 w : World) : Prop where
  grown : w0.grownBy w hv.ownBlock
  own : w.ownsRow B 9 1 hv m (l.map .string)
  base : B ≤ w0.heap.size
  first : w0.ownsRow B 9 1 hv m (l.map .string)
theorem HC.alloc {B m : Nat} {l : List ByteArray} {hv : Value} {w0 w : World} (h : HC B m l hv w0 w) (o : Obj) : HC B m l hv w0 (w.alloc o) := ⟨h.grown.trans (World.grownBy_alloc w o _), h.own.alloc o, h.base, h.first⟩
def KeptT (B m : Nat) (l : List ByteArray) (s : ByteArray) (hv : Value) (w0 : World) (R : List Pred) : Prop := ∀ i v w w', HC B m l hv w0 w → KeepT B m l s hv w w' → predAt R i v w → predAt R i v w'

section
variable {B m : Nat} {l : List ByteArray} {s : ByteArray} {hv : Value} {w0 : World}
theorem KeptT.nil : KeptT B m l s hv w0 [] := fun i v w w' _ _ h => by cases i <;> exact h
theorem KeptT.cons {r : Pred} {R : List Pred} (h : ∀ v w w', HC B m l hv w0 w → KeepT B m l s hv w w' → r v w → r v w') (hR : KeptT B m l s hv w0 R) : KeptT B m l s hv w0 (r :: R) := fun i v w w' hc hb hr => by
  cases i with
  | zero => exact h v w w' hc hb hr
  | succ i => exact hR i v w w' hc hb hr
theorem keptt_eqv (V : Value) : ∀ v w w', HC B m l hv w0 w → KeepT B m l s hv w w' → eqv V v w → eqv V v w' := fun _ _ _ _ _ h => h
theorem keptt_onet : ∀ v w w', HC B m l hv w0 w → KeepT B m l s hv w w' → onet w0 s v w → onet w0 s v w' := fun v w w' hc hk ⟨q, h1, h2, h3⟩ => ⟨q, h1, h2, (hk.grown.block q h3.lt (fun e => by have := (hc.first.lt q e.symm).2; omega)).trans h3⟩
theorem keptt_ownt : ∀ v w w', HC B m l hv w0 w → KeepT B m l s hv w w' → ownt w0 B m l s hv v w → ownt w0 B m l s hv v w' := fun v w w' _ hk ⟨h1, h2⟩ => ⟨hk.more v h1, h2⟩

variable {ops : Array Oper} {R : List Pred} {o : Oper} {a : Act} {w : World}
theorem grows_onet (hR : KeptT B m l s hv w0 R) (hC : HC B m l hv w0 w) (hw : Region.wanted o (yielded ops a.tmps) = true) (hv' : (execOp a.eval o).run Tryz.prog w = .ok (.value (.slice (some ⟨w.heap.size, 0, none⟩) 1 1)) (w.alloc (.cells #[.string s] 9))) :
    growsAt Tryz.prog ops o a w fun u w' => HC B m l hv w0 w' ∧ onet w0 s u w' ∧ Keeps R w w' :=
  grows_new hw hv' ⟨w.heap.size, rfl, hC.grown.size, RowAt.new _ _ _⟩ (hC.alloc _) fun i u h => hR i u _ _ hC (.alloc B m l s hv w _) h
theorem grows_appt (hR : KeptT B m l s hv w0 R) (hC : HC B m l hv w0 w) (hw : Region.wanted o (yielded ops a.tmps) = true) {x y : Operand} (ho : o.op = .call { callee := .builtin .append, args := #[x, y], argTypes := #[22, 22] })
    (hx : a.eval x = hv) {q : Nat} (hy : a.eval y = .slice (some ⟨q, 0, none⟩) 1 1) (hq : RowAt w q 9 #[.string s]) (hm : m ≤ 1000000) :
    growsAt Tryz.prog ops o a w fun u w' => HC B m l hv w0 w' ∧ ownt w0 B m l s hv u w' ∧ Keeps R w w' := by
  obtain ⟨v', w', hr, h2, h3, h4, h5, h6⟩ := app_keep w B m q hv l s o.type hC.own hq hm (Nat.le_trans hC.base hC.grown.size)
  refine grows_new (w' := w') (v := v') hw ?_ ⟨h2, ?_⟩ ⟨hC.grown.trans h4, h3, hC.base, hC.first⟩ fun i u h => hR i u _ _ hC ⟨h4, h6⟩ h
  · unfold execOp
    simp only [ho, resolve, invoke, builtin, Sem.run_bind, Sem.run_pure, Result.andThen_ok, List.map_toArray, List.map_cons, List.map_nil, hx, hy, hr]
  · rcases h5 with h5 | h5
    · exact .inl h5
    · refine .inr fun k hk => ?_
      rw [h5] at hk
      cases hk
      exact hC.grown.size
end

end Go.Proofs.YtapebaoajknepaaGreatDoor
/-
  Contracts: what Program does, whole or in part.
-/
namespace Go.Proofs.YtapebaoajknepaaGreatDoor
open Go.RowKit
set_option linter.unusedVariables false

set_option maxHeartbeats 2000000 in
set_option maxRecDepth 8000 in
theorem prog1_any (B : Nat) (w : World) (L : Lay) (S : St) (hv : Value) (h : Hid (Ch B w L S hv)) (b1 b2 b3 b4 i j k jn : Nat) (s : ByteArray) (x1 : Hid (Box w (foot L hv) b1 (.string s))) (x2 : Hid (Box w (foot L hv) b2 (.pointer (some ⟨L.cp, 0, none⟩)))) (x3 : Hid (Box w (foot L hv) b3 (.int .i64 (i : Nat)))) (x4 : Hid (Box w (foot L hv) b4 (.int .i64 (j : Nat))))
    (hi : i < L.n) (hj : j < L.m) (hs : s.size ≤ 256) (hk : (k : Int) < 9223372036854775808) (hjn : jn < 256) (hh : S.hist.length ≤ 1000000) :
    Calls Tryz.prog 39 #[.int .i64 (k : Nat), .int .u8 (jn : Nat), .pointer (some ⟨b1, 0, none⟩), .pointer (some ⟨b2, 0, none⟩), .pointer (some ⟨b3, 0, none⟩), .pointer (some ⟨b4, 0, none⟩)] w fun e w' => e = .returned (.tuple #[]) ∧ ∃ hv', Hid (Ch B w' L (prS S i j (pageT s k jn)) hv') ∧ Goes L hv w hv' w' := by
  have T := Lib.hid (pageText_any s hs k jn hk hjn w)
  have z1 := x1.out.1
  generalize pageT s k jn = t at *
  clear hs hk hjn
  go_enter Tryz.func39, Tryz.ntmps39
  go_wp2_with fail
  refine T.out.mono ?_
  rintro e w1 ⟨rfl, b1'⟩
  have b1d : Below w.heap.size w w1.drew := b1'.drew
  have h1 := Lib.hid (h.out.after b1d)
  have y2 := Lib.hid (x2.out.goes (.of_below b1d))
  have y3 := Lib.hid (x3.out.goes (.of_below b1d))
  have y4 := Lib.hid (x4.out.goes (.of_below b1d))
  have g1 : Goes L hv w hv w1.drew := .of_below b1d
  clear T z1 x1 x2 x3 x4 b1' b1d
  go_wp2_with fail
  refine wp_region_still_tail 12 (by kernel_rfl) (by kernel_rfl) ?_
  change wpStill _ _ (World.drew _) (fun a' => wpList _ _ _ _ a' (World.drew _)) _ _
  generalize w1.drew = w2 at *
  have c1 := h1.out.c1
  have c2 := h1.out.s0 hi
  have c3 := h1.out.pg hi hj
  have z2 := y2.out.1
  have z3 := y3.out.1
  have z4 := y4.out.1
  have i1 : (i : Int) < (L.n : Int) := by omega
  have i2 : (j : Int) < (L.m : Int) := by omega
  have f2 := (h1.out.pages i hi).free j
  obtain ⟨h3, g3⟩ := h1.out.text hi j t
  replace h3 := Lib.hid h3
  replace g3 := g1.trans g3
  simp only [List.take_succ_cons, List.take_zero, List.drop_succ_cons, List.drop_zero]
  refine wpStill_of_quiet _ _ ?_
  repeat (first | go_big_quiet_skip | (go_big_quiet_want; go_big_quiet_op; go_big_quiet_on))
  refine wpQuiet_nil ?_
  have y5 := Lib.hid (y2.out.goes (h1.out.text hi j t).2)
  clear c1 c2 z2 z3 z4 h1 g1 y2 y3 y4
  go_wp2_with fail
  replace h3 := Lib.hid (h3.out.after ((Below.refl _ _).drew))
  replace g3 := g3.below ((Below.refl _ _).drew)
  replace y5 := Lib.hid (y5.out.goes (.drew _))
  generalize hw4 : (w2.setCell ⟨L.tp i, j, none⟩ (.string t)).drew = w4 at *
  have HC0 : HC B S.hist.length S.hist hv w4 w4 := ⟨⟨rfl, rfl, rfl, Nat.le_refl _, fun _ _ _ => rfl⟩, h3.out.hist, Nat.le_of_lt (Nat.lt_of_le_of_lt h3.out.low.1 h3.out.pow.lt), h3.out.hist⟩
  have z5 := y5.out.1
  have q1 : ∀ w', HC B S.hist.length S.hist hv w4 w' → w'.cell? ⟨b2, 0, none⟩ = some (.pointer (some ⟨L.cp, 0, none⟩)) := fun w' hc => hc.grown.cell z5 (fun e => y5.out.2.2 (.inr (.inr (.inr (.inr e.symm)))))
  have q2 : ∀ w', HC B S.hist.length S.hist hv w4 w' → w'.cell? ⟨L.cp, 3, none⟩ = some hv := fun w' hc => hc.grown.cell h3.out.c3 (fun e => h3.out.chip.not_own h3.out.hist (by decide) e.symm)
  refine wp_region_head 10 (HC B S.hist.length S.hist hv w4) [eqv (.pointer (some ⟨L.cp, 0, none⟩)), eqv (.pointer (some ⟨L.cp, 0, none⟩)), eqv (.pointer (some ⟨L.cp, 0, none⟩)), eqv (.pointer (some ⟨L.cp, 3, none⟩)), eqv hv, eqv (.string t), onet w4 t, ownt w4 B S.hist.length S.hist t hv, eqv (.pointer (some ⟨L.cp, 0, none⟩)), eqv (.pointer (some ⟨L.cp, 3, none⟩))] (KeptT B S.hist.length S.hist t hv w4) (by kernel_rfl) (by kernel_rfl) (by first | exact HC0 | (rw [hw4]; exact HC0)) (.cons (keptt_eqv _) (.cons (keptt_eqv _) (.cons (keptt_eqv _) (.cons (keptt_eqv _) (.cons (keptt_eqv _) (.cons (keptt_eqv _) (.cons keptt_onet (.cons keptt_ownt (.cons (keptt_eqv _) (.cons (keptt_eqv _) .nil)))))))))) ?_
  intro R hR
  simp only [List.take_succ_cons, List.take_zero, List.drop_succ_cons, List.drop_zero]
  refine wpRely_cons (fun w' hC hf => ?_) (fun v0 => ?_)
  · (repeat (first | (obtain ⟨rfl, hf⟩ := hf) | (obtain ⟨⟨q, rfl, hql, hq⟩, hf⟩ := hf) | (obtain ⟨_, hf⟩ := hf)))
    have c5 := q1 _ hC; have c6 := q2 _ hC; exact grows_eqv (by rfl) hC (by go_simp)
  simp only [Act.put, List.setIfInBounds_toArray, List.set_cons_succ, List.set_cons_zero, List.nil_append]
  refine wpRely_cons (fun w' hC hf => ?_) (fun v1 => ?_)
  · (repeat (first | (obtain ⟨rfl, hf⟩ := hf) | (obtain ⟨⟨q, rfl, hql, hq⟩, hf⟩ := hf) | (obtain ⟨_, hf⟩ := hf)))
    have c5 := q1 _ hC; have c6 := q2 _ hC; exact grows_eqv (by rfl) hC (by go_simp)
  simp only [Act.put, List.setIfInBounds_toArray, List.set_cons_succ, List.set_cons_zero, List.nil_append, List.cons_append]
  refine wpRely_cons (fun w' hC hf => ?_) (fun v2 => ?_)
  · (repeat (first | (obtain ⟨rfl, hf⟩ := hf) | (obtain ⟨⟨q, rfl, hql, hq⟩, hf⟩ := hf) | (obtain ⟨_, hf⟩ := hf)))
    have c5 := q1 _ hC; have c6 := q2 _ hC; exact grows_eqv (by rfl) hC (by go_simp)
  simp only [Act.put, List.setIfInBounds_toArray, List.set_cons_succ, List.set_cons_zero, List.nil_append, List.cons_append]
  refine wpRely_cons (fun w' hC hf => ?_) (fun v3 => ?_)
  · (repeat (first | (obtain ⟨rfl, hf⟩ := hf) | (obtain ⟨⟨q, rfl, hql, hq⟩, hf⟩ := hf) | (obtain ⟨_, hf⟩ := hf)))
    have c5 := q1 _ hC; have c6 := q2 _ hC; exact grows_eqv (by rfl) hC (by go_simp)
  simp only [Act.put, List.setIfInBounds_toArray, List.set_cons_succ, List.set_cons_zero, List.nil_append, List.cons_append]
  refine wpRely_cons (fun w' hC hf => ?_) (fun v4 => ?_)
  · (repeat (first | (obtain ⟨rfl, hf⟩ := hf) | (obtain ⟨⟨q, rfl, hql, hq⟩, hf⟩ := hf) | (obtain ⟨_, hf⟩ := hf)))
    have c5 := q1 _ hC; have c6 := q2 _ hC; exact grows_eqv (by rfl) hC (by go_simp)
  simp only [Act.put, List.setIfInBounds_toArray, List.set_cons_succ, List.set_cons_zero, List.nil_append, List.cons_append]
  refine wpRely_cons (fun w' hC hf => ?_) (fun v5 => ?_)
  · (repeat (first | (obtain ⟨rfl, hf⟩ := hf) | (obtain ⟨⟨q, rfl, hql, hq⟩, hf⟩ := hf) | (obtain ⟨_, hf⟩ := hf)))
    have c5 := q1 _ hC; have c6 := q2 _ hC; exact grows_eqv (by rfl) hC (by go_simp)
  simp only [Act.put, List.setIfInBounds_toArray, List.set_cons_succ, List.set_cons_zero, List.nil_append, List.cons_append]
  refine wpRely_cons (fun w' hC hf => ?_) (fun v6 => ?_)
  · (repeat (first | (obtain ⟨rfl, hf⟩ := hf) | (obtain ⟨⟨q, rfl, hql, hq⟩, hf⟩ := hf) | (obtain ⟨_, hf⟩ := hf)))
    exact grows_onet hR hC (by rfl) (by go_simp)
  simp only [Act.put, List.setIfInBounds_toArray, List.set_cons_succ, List.set_cons_zero, List.nil_append, List.cons_append]
  refine wpRely_cons (fun w' hC hf => ?_) (fun v7 => ?_)
  · (repeat (first | (obtain ⟨rfl, hf⟩ := hf) | (obtain ⟨⟨q, rfl, hql, hq⟩, hf⟩ := hf) | (obtain ⟨_, hf⟩ := hf)))
    exact grows_appt hR hC (by rfl) rfl rfl rfl hq hh
  simp only [Act.put, List.setIfInBounds_toArray, List.set_cons_succ, List.set_cons_zero, List.nil_append, List.cons_append]
  refine wpRely_cons (fun w' hC hf => ?_) (fun v8 => ?_)
  · (repeat (first | (obtain ⟨rfl, hf⟩ := hf) | (obtain ⟨⟨q, rfl, hql, hq⟩, hf⟩ := hf) | (obtain ⟨_, hf⟩ := hf)))
    have c5 := q1 _ hC; have c6 := q2 _ hC; exact grows_eqv (by rfl) hC (by go_simp)
  simp only [Act.put, List.setIfInBounds_toArray, List.set_cons_succ, List.set_cons_zero, List.nil_append, List.cons_append]
  refine wpRely_cons (fun w' hC hf => ?_) (fun v9 => ?_)
  · (repeat (first | (obtain ⟨rfl, hf⟩ := hf) | (obtain ⟨⟨q, rfl, hql, hq⟩, hf⟩ := hf) | (obtain ⟨_, hf⟩ := hf)))
    have c5 := q1 _ hC; have c6 := q2 _ hC; exact grows_eqv (by rfl) hC (by go_simp)
  simp only [Act.put, List.setIfInBounds_toArray, List.set_cons_succ, List.set_cons_zero, List.nil_append, List.cons_append]
  refine wpRely_nil fun w9 hC hf => ?_
  obtain ⟨_, _, _, _, _, _, _, ⟨o7, a7⟩, _, rfl, _⟩ := hf
  obtain ⟨a8, c8, rfl⟩ := own_slice o7
  obtain ⟨h5, g5⟩ := h3.out.told hC.grown o7 a7
  have f5 : w9.frozen? ⟨L.cp, 3, none⟩ = false := by
    exact (World.frozen?_of_block (hC.grown.block L.cp h3.out.chip.lt (fun e => h3.out.chip.not_own h3.out.hist (by decide) e.symm))).trans (h3.out.chip.free 3)
  have c5 := q2 _ hC
  replace h5 := Lib.hid h5
  have g6 := g3.trans g5
  go_wp2
  go_end0
  exact ⟨rfl, _, h5, g6⟩

set_option maxHeartbeats 1000000 in
set_option maxRecDepth 8000 in
theorem actP_whole (B : Nat) (w : World) (L : Lay) (S : St) (hv : Value) (h : Hid (Ch B w L S hv)) (b1 b2 b3 b4 i j : Nat) (s : ByteArray) (x1 : Hid (Box w (foot L hv) b1 (.string s))) (x2 : Hid (Box w (foot L hv) b2 (.pointer (some ⟨L.cp, 0, none⟩)))) (x3 : Hid (Box w (foot L hv) b3 (.int .i64 (i : Nat)))) (x4 : Hid (Box w (foot L hv) b4 (.int .i64 (j : Nat)))) (hi : i < L.n) (hj : j < L.m) (hs : s.size ≤ 256) (hh : S.hist.length ≤ 1000000) (hu : Hid (S.up = true)) (l1 : Int) (hl : Hid (l1 = S.left - 1)) (lo : -1000000 < S.left) (hi2 : S.left < 9223372036854775808) (hb : (l1 != 0) = true) (hc : S.progs ≤ 1000000) :
    Calls Tryz.prog 38 #[.pointer (some ⟨L.cp, 0, none⟩), .pointer (some ⟨L.cp, 4, none⟩), .func (.func 39) #[] #[.pointer (some ⟨b1, 0, none⟩), .pointer (some ⟨b2, 0, none⟩), .pointer (some ⟨b3, 0, none⟩), .pointer (some ⟨b4, 0, none⟩)]] w fun e w' => e = .returned (.int .i64 0) ∧ ∃ hv', Hid (Ch B w' L (prS (cntP (actS S true l1)) i j (pageT s 9223372036854775807 0)) hv') ∧ Goes L hv w hv' w' := by
  have p0 := h.out.pow
  rw [hu.out] at p0
  have A1 := Lib.hid (powAct_yes L.pp S.left S.keep S.junk w p0 lo hi2 l1 hl true hb)
  have c0 := h.out.c0
  have hc' := Lib.hid (wrap_one _ hc)
  have by0 := h.out.byte
  have ta0 := h.out.tall
  replace by0 := Lib.hid by0
  replace ta0 := Lib.hid ta0
  clear p0 lo hi2 hb hc
  go_enter Tryz.func38, Tryz.ntmps38
  go_wp2_with fail
  refine A1.out.mono ?_
  rintro e w1 ⟨rfl, r1, a1⟩
  obtain ⟨h1, g1⟩ := h.out.power a1 r1.out by0.out ta0.out
  replace h1 := Lib.hid h1
  have A2 := Lib.hid (told_add ⟨L.cp, 4, none⟩ (S.progs : Nat) 1 ((S.progs + 1 : Nat) : Int) w1 h1.out.c4 (h1.out.chip.free _) hc'.out)
  obtain ⟨h2, g2⟩ := h1.out.prog
  replace h2 := Lib.hid h2
  replace g2 := g1.trans g2
  clear A1 c0 r1 a1 g1 h1 h
  go_wp2_with fail
  refine A2.out.mono ?_
  rintro e w2 ⟨rfl, rfl⟩
  clear A2
  generalize w1.setCell ⟨L.cp, 4, none⟩ (.int .i64 ((S.progs + 1 : Nat) : Int)) = w2 at *
  replace x1 := Lib.hid (x1.out.goes g2)
  replace x2 := Lib.hid (x2.out.goes g2)
  replace x3 := Lib.hid (x3.out.goes g2)
  replace x4 := Lib.hid (x4.out.goes g2)
  have D := Lib.hid (prog1_any B w2 L _ hv h2 b1 b2 b3 b4 i j 9223372036854775807 0 s x1 x2 x3 x4 hi hj hs (by omega) (by omega) hh)
  go_wp2_with fail
  refine D.out.mono ?_
  rintro e w4 ⟨rfl, H4⟩
  obtain ⟨hv4, h4, g4⟩ := H4
  go_wp2
  go_ret
  exact ⟨rfl, _, h4, g2.trans g4⟩

set_option maxHeartbeats 1000000 in
set_option maxRecDepth 8000 in
theorem actP_part (B : Nat) (w : World) (L : Lay) (S : St) (hv : Value) (h : Hid (Ch B w L S hv)) (b1 b2 b3 b4 i j : Nat) (s : ByteArray) (x1 : Hid (Box w (foot L hv) b1 (.string s))) (x2 : Hid (Box w (foot L hv) b2 (.pointer (some ⟨L.cp, 0, none⟩)))) (x3 : Hid (Box w (foot L hv) b3 (.int .i64 (i : Nat)))) (x4 : Hid (Box w (foot L hv) b4 (.int .i64 (j : Nat)))) (hi : i < L.n) (hj : j < L.m) (hs : s.size ≤ 256) (hh : S.hist.length ≤ 1000000) (hu : Hid (S.up = true)) (l1 : Int) (hl : Hid (l1 = S.left - 1)) (lo : -1000000 < S.left) (hi2 : S.left < 9223372036854775808) (hb : (l1 != 0) = false) (hc : S.progs ≤ 1000000) :
    Calls Tryz.prog 38 #[.pointer (some ⟨L.cp, 0, none⟩), .pointer (some ⟨L.cp, 4, none⟩), .func (.func 39) #[] #[.pointer (some ⟨b1, 0, none⟩), .pointer (some ⟨b2, 0, none⟩), .pointer (some ⟨b3, 0, none⟩), .pointer (some ⟨b4, 0, none⟩)]] w fun e w' => e = .returned (.int .i64 4) ∧ ∃ hv', Hid (Ch B w' L (prS (cntP (actS S false l1)) i j (pageT s S.keep S.junk)) hv') ∧ Goes L hv w hv' w' := by
  have p0 := h.out.pow
  rw [hu.out] at p0
  have A1 := Lib.hid (powAct_yes L.pp S.left S.keep S.junk w p0 lo hi2 l1 hl false hb)
  have c0 := h.out.c0
  have hc' := Lib.hid (wrap_one _ hc)
  have by0 := h.out.byte
  have ta0 := h.out.tall
  replace by0 := Lib.hid by0
  replace ta0 := Lib.hid ta0
  clear p0 lo hi2 hb hc
  go_enter Tryz.func38, Tryz.ntmps38
  go_wp2_with fail
  refine A1.out.mono ?_
  rintro e w1 ⟨rfl, r1, a1⟩
  obtain ⟨h1, g1⟩ := h.out.power a1 r1.out by0.out ta0.out
  replace h1 := Lib.hid h1
  have A2 := Lib.hid (told_add ⟨L.cp, 4, none⟩ (S.progs : Nat) 1 ((S.progs + 1 : Nat) : Int) w1 h1.out.c4 (h1.out.chip.free _) hc'.out)
  obtain ⟨h2, g2⟩ := h1.out.prog
  replace h2 := Lib.hid h2
  replace g2 := g1.trans g2
  clear A1 c0 r1 a1 g1 h1 h
  go_wp2_with fail
  refine A2.out.mono ?_
  rintro e w2 ⟨rfl, rfl⟩
  clear A2
  generalize w1.setCell ⟨L.cp, 4, none⟩ (.int .i64 ((S.progs + 1 : Nat) : Int)) = w2 at *
  replace x1 := Lib.hid (x1.out.goes g2)
  replace x2 := Lib.hid (x2.out.goes g2)
  replace x3 := Lib.hid (x3.out.goes g2)
  replace x4 := Lib.hid (x4.out.goes g2)
  have c0 := h2.out.c0
  have Kp := Lib.hid (powKept_any L.pp _ _ _ _ w2 h2.out.pow)
  go_wp2_with fail
  refine Kp.out.mono ?_
  rintro e w3 ⟨rfl, bw3⟩
  replace h2 := Lib.hid (h2.out.after bw3)
  replace g2 := g2.below bw3
  replace x1 := Lib.hid (x1.out.goes (.of_below bw3))
  replace x2 := Lib.hid (x2.out.goes (.of_below bw3))
  replace x3 := Lib.hid (x3.out.goes (.of_below bw3))
  replace x4 := Lib.hid (x4.out.goes (.of_below bw3))
  have D := Lib.hid (prog1_any B w3 L _ hv h2 b1 b2 b3 b4 i j S.keep S.junk s x1 x2 x3 x4 hi hj hs ta0.out by0.out hh)
  clear Kp c0 bw3
  go_wp2_with fail
  refine D.out.mono ?_
  rintro e w4 ⟨rfl, H4⟩
  obtain ⟨hv4, h4, g4⟩ := H4
  go_wp2
  go_ret
  exact ⟨rfl, _, h4, g2.trans g4⟩


end Go.Proofs.YtapebaoajknepaaGreatDoor
