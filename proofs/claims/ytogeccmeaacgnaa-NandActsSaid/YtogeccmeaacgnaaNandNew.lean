/-
  Contract: New.
-/
import Derived.Test.YtogeccmeaacgnaaNandSmall
import Derived.Test.YtogeccmeaacgnaaNandTurn
import Derived.Test.YtogeccmeaacgnaaSeesZ
import Derived.Test.YtogeccmeaacgnaaMakeV
import Derived.Test.YtogeccmeaacgnaaRelyTail
namespace Go.Proofs.Ytogeccmeaacgnaa
open Go.RowKit
set_option linter.unusedVariables false

/-- Whether a number is 1 to most. -/
def inW (z most : Int) : Bool := decide (1 ≤ z) && decide (z ≤ most)
theorem inW_get {z : Int} {most : Nat} (h : inW z most = true) : ∃ n : Nat, z = n ∧ 1 ≤ n ∧ n ≤ most := by
  unfold inW at h
  rw [Bool.and_eq_true, decide_eq_true_eq, decide_eq_true_eq] at h
  exact ⟨z.toNat, by omega, by omega, by omega⟩
/-- Whether there may be such a chip. -/
def newB (n m r : Int) : Bool := inW n 64 && inW m 16 && decide (0 ≤ r)

set_option maxRecDepth 8000 in
theorem within_any (w : World) (z most : Int) : Calls Try.prog 33 #[.int .i64 z, .int .i64 most] w fun e w' => e = .returned (.bool (inW z most)) ∧ w' = w := by
  unfold inW
  cases h1 : decide (1 ≤ z) with
  | false =>
    have h1' : decide (z ≥ 1) = false := h1
    go_enter Try.func33, Try.ntmps33
    go_wp2
    go_ret
    exact ⟨rfl, rfl⟩
  | true =>
    have h1' : decide (z ≥ 1) = true := h1
    cases h2 : decide (z ≤ most) with
    | false =>
      go_enter Try.func33, Try.ntmps33
      go_wp2
      go_ret
      exact ⟨rfl, rfl⟩
    | true =>
      go_enter Try.func33, Try.ntmps33
      go_wp2
      go_ret
      exact ⟨rfl, rfl⟩

set_option maxRecDepth 8000 in
theorem new_nil (w : World) (n m r : Int) (v : Value) : Calls Try.prog 10 #[.pointer none, .int .i64 n, .int .i64 m, .int .i64 r, v] w fun e w' => e = .returned (.pointer none) ∧ w' = w := by
  go_enter Try.func10, Try.ntmps10
  go_wp2
  go_ret
  exact ⟨rfl, rfl⟩

set_option maxHeartbeats 1000000 in
set_option maxRecDepth 8000 in
theorem new_no (w : World) (pp : Nat) (n m r : Int) (v : Value) (h : newB n m r = false) : Calls Try.prog 10 #[.pointer (some ⟨pp, 0, none⟩), .int .i64 n, .int .i64 m, .int .i64 r, v] w fun e w' => e = .returned (.pointer none) ∧ w' = w := by
  unfold newB at h
  have W1 := Lib.hid (within_any w n 64)
  have W2 := Lib.hid (within_any w m 16)
  cases h1 : inW n 64 with
  | false =>
    rw [h1] at W1
    go_enter Try.func10, Try.ntmps10
    go_wp2_with fail
    refine W1.out.mono ?_
    rintro e w1 ⟨rfl, rfl⟩
    go_wp2
    go_ret
    exact ⟨rfl, rfl⟩
  | true =>
    rw [h1] at W1
    cases h2 : inW m 16 with
    | false =>
      rw [h2] at W2
      clear h
      go_enter Try.func10, Try.ntmps10
      go_wp2_with fail
      refine W1.out.mono ?_
      rintro e w1 ⟨rfl, rfl⟩
      go_wp2_with fail
      refine W2.out.mono ?_
      rintro e w2 ⟨rfl, rfl⟩
      go_wp2
      go_ret
      exact ⟨rfl, rfl⟩
    | true =>
      rw [h2] at W2
      rw [h1, h2] at h
      have hr : r < 0 := by simp at h; exact h
      clear h
      go_enter Try.func10, Try.ntmps10
      go_wp2_with fail
      refine W1.out.mono ?_
      rintro e w1 ⟨rfl, rfl⟩
      go_wp2_with fail
      refine W2.out.mono ?_
      rintro e w2 ⟨rfl, rfl⟩
      go_wp2
      go_ret
      exact ⟨rfl, rfl⟩

theorem infoSeg : (Try.prog.info? 86).map (fun i => (i.zero, i.size, i.bytes)) = some (some (.agg #[.slice none 0 0, .int .i64 0, .bool false]), 3, 40) := by kernel_rfl
/-- Segments of which the first i have their pages. -/
def segN (tp : Nat → Nat) (m i : Nat) : Nat → Value := fun j => if j % 3 = 0 then (if j / 3 < i then .slice (some ⟨tp (j / 3), 0, none⟩) m m else .slice none 0 0) else if j % 3 = 1 then .int .i64 0 else .bool false
theorem segN_zero (tp : Nat → Nat) (m n : Nat) : ∀ j, j < n → (Value.agg #[.slice none 0 0, .int .i64 0, .bool false]).cells[j % (Value.agg #[.slice none 0 0, .int .i64 0, .bool false]).cells.size]! = segN tp m 0 j := by
  intro j _
  show (#[Value.slice none 0 0, .int .i64 0, .bool false] : Array Value)[j % 3]! = _
  unfold segN
  have h3 : j % 3 < 3 := Nat.mod_lt _ (by decide)
  generalize hq : j % 3 = q at *
  match q, h3 with
  | 0, _ => simp
  | 1, _ => simp
  | 2, _ => simp
theorem segN_step (tp : Nat → Nat) (m n i q : Nat) : (rowOf n (segN tp m i)).setIfInBounds (i * 3) (.slice (some ⟨q, 0, none⟩) m m) = rowOf n (segN (fun j => if j = i then q else tp j) m (i + 1)) := by
  rw [rowOf_set]
  refine rowOf_congr fun j hj => ?_
  by_cases c : j = i * 3
  · subst c
    rw [if_pos rfl]
    unfold segN
    rw [if_pos (by omega), if_pos (by omega), show i * 3 / 3 = i by omega]
    simp
  · rw [if_neg c]
    unfold segN
    by_cases c0 : j % 3 = 0
    · rw [if_pos c0, if_pos c0]
      have hne : j / 3 ≠ i := by omega
      dsimp only
      by_cases c1 : j / 3 < i
      · rw [if_pos c1, if_pos (by omega), if_neg hne]
      · rw [if_neg c1, if_neg (by omega)]
    · rw [if_neg c0, if_neg c0]

/-- Which segments are bad, of the first k numbers. -/
def badN (n : Nat) (f : Nat → Int) : Nat → Nat → Bool
  | 0 => fun _ => false
  | k + 1 => if inB (f k) n = true then updB (badN n f k) (f k).toNat else badN n f k
def newS (up : Bool) (left : Int) (keep junk : Nat) (r : Int) (bd : Nat → Bool) : St := { up := up, left := left, keep := keep, junk := junk, rated := r, wear := fun _ => 0, bad := bd, page := fun _ _ => ⟨#[]⟩, hist := [], progs := 0, erases := 0 }

/-- A row just made, from block B on. -/
def heldq (B : Nat) (t : TypeId) (n : Nat) (cs : Array Value) : Pred := fun v w => ∃ q, v = .slice (some ⟨q, 0, none⟩) n n ∧ B ≤ q ∧ RowAt w q t cs
theorem steady_heldq (B : Nat) (t : TypeId) (n : Nat) (cs : Array Value) : ∀ v w w', Below w.heap.size w w' → heldq B t n cs v w → heldq B t n cs v w' := fun v w w' hb ⟨q, h1, h2, h3⟩ => ⟨q, h1, h2, h3.below hb h3.lt⟩
theorem grows_heldq {P : Program} {ops : Array Oper} {C : World → Prop} {R : List Pred} {o : Oper} {a : Act} {w : World} {B : Nat} {t : TypeId} {n : Nat} {cs : Array Value} (hR : Steady R) (hCs : ∀ w w', Below w.heap.size w w' → C w → C w') (hC : C w) (hB : B ≤ w.heap.size) (hw : Region.wanted o (yielded ops a.tmps) = true)
    (hv : (execOp a.eval o).run P w = .ok (.value (.slice (some ⟨w.heap.size, 0, none⟩) n n)) (w.alloc (.cells cs t))) : growsAt P ops o a w fun v w' => C w' ∧ heldq B t n cs v w' ∧ Keeps R w w' :=
  have b : Below w.heap.size w (w.alloc (.cells cs t)) := (Below.refl _ _).alloc (Nat.le_refl _) _
  grows_new hw hv ⟨w.heap.size, rfl, hB, RowAt.new _ _ _⟩ (hCs _ _ b hC) fun i v h => hR i v _ _ b h

theorem strs_zero (n : Nat) : ∀ j, j < n → (Value.string ⟨#[]⟩).cells[j % (Value.string ⟨#[]⟩).cells.size]! = strV (fun _ => ⟨#[]⟩) j := by
  intro j _
  show (#[Value.string ⟨#[]⟩] : Array Value)[j % 1]! = _
  rw [Nat.mod_one]
  rfl
/-- What New comes to. -/
def NewEnd (B pp n m : Nat) (S : St) (w : World) (e : Ending) (w' : World) : Prop := ∃ L, e = .returned (.pointer (some ⟨L.cp, 0, none⟩)) ∧ L.pp = pp ∧ L.n = n ∧ L.m = m ∧ Hid (Ch B w' L S (.slice none 0 0)) ∧ Below w.heap.size w w'

/-- Half made: the first i segments have their pages. -/
structure Half (w0 : World) (sp cp pp n m : Nat) (r : Int) (i : Nat) (tp : Nat → Nat) (w : World) : Prop where
  below : Below w0.heap.size w0 w
  segs : RowAt w sp 86 (rowOf (n * 3) (segN tp m i))
  chip : RowAt w cp 82 #[.pointer (some ⟨pp, 0, none⟩), .slice (some ⟨sp, 0, none⟩) n n, .int .i64 r, .slice none 0 0, .int .i64 0, .int .i64 0]
  pages : ∀ j, j < i → RowAt w (tp j) 9 (rowOf m (strV fun _ => ⟨#[]⟩)) ∧ w0.heap.size ≤ tp j
  inj : ∀ j k, j < i → k < i → tp j = tp k → j = k
theorem Half.after {w0 : World} {sp cp pp n m : Nat} {r : Int} {i : Nat} {tp : Nat → Nat} {w w' : World} (hb : Below w.heap.size w w') (h : Half w0 sp cp pp n m r i tp w) : Half w0 sp cp pp n m r i tp w' :=
  ⟨h.below.trans (hb.mono h.below.size), h.segs.below hb h.segs.lt, h.chip.below hb h.chip.lt, fun j hj => ⟨(h.pages j hj).1.below hb (h.pages j hj).1.lt, (h.pages j hj).2⟩, h.inj⟩
theorem Half.step {w0 : World} {sp cp pp n m : Nat} {r : Int} {i : Nat} {tp : Nat → Nat} {w : World} (h : Half w0 sp cp pp n m r i tp w) {q : Nat} (hq : RowAt w q 9 (rowOf m (strV fun _ => ⟨#[]⟩))) (hw : w0.heap.size ≤ q) (hsp : w0.heap.size ≤ sp) (hn : ∀ j, j < i → tp j ≠ q) :
    Half w0 sp cp pp n m r (i + 1) (fun j => if j = i then q else tp j) (w.setCell ⟨sp, i * 3, none⟩ (.slice (some ⟨q, 0, none⟩) m m)) := by
  have hs := beside_set w sp (i * 3) (.slice (some ⟨q, 0, none⟩) m m)
  refine ⟨h.below.setCell hsp _, (h.segs.set (i * 3) _).congr (segN_step tp m (n * 3) i q), h.chip.beside hs (h.chip.apart h.segs (by decide)), fun j hj => ?_, fun j k hj hk e => ?_⟩
  · by_cases c : j = i
    · rw [if_pos c]
      exact ⟨hq.beside hs (hq.apart h.segs (by decide)), hw⟩
    · rw [if_neg c]
      exact ⟨(h.pages j (by omega)).1.beside hs ((h.pages j (by omega)).1.apart h.segs (by decide)), (h.pages j (by omega)).2⟩
  · by_cases c : j = i
    · by_cases d : k = i
      · omega
      · rw [if_pos c, if_neg d] at e
        exact absurd e.symm (hn k (by omega))
    · by_cases d : k = i
      · rw [if_neg c, if_pos d] at e
        exact absurd e (hn j (by omega))
      · rw [if_neg c, if_neg d] at e
        exact h.inj j k (by omega) (by omega) e

set_option maxHeartbeats 4000000 in
set_option maxRecDepth 8000 in
theorem new_yes (B pp n m : Nat) (r : Int) (up : Bool) (left : Int) (keep junk : Nat) (a : Option Addr) (nb cb : Nat) (f : Nat → Int) (w : World) (h : Hid (RowAt w pp 78 (pw up left keep junk))) (hf : Hid (SeesZ w a nb f)) (hB : B ≤ pp) (hj : Hid (junk < 256)) (hk : Hid ((keep : Int) < 9223372036854775808))
    (n1 : 1 ≤ n) (n2 : n ≤ 64) (m1 : 1 ≤ m) (m2 : m ≤ 16) (hr : 0 ≤ r) (hnb : nb ≤ 1000000) : Calls Try.prog 10 #[.pointer (some ⟨pp, 0, none⟩), .int .i64 (n : Nat), .int .i64 (m : Nat), .int .i64 r, .slice a nb cb] w (NewEnd B pp n m (newS up left keep junk r (badN n f nb)) w) := by
  have W1 := Lib.hid (within_any w (n : Int) 64)
  have W2 := Lib.hid (within_any w (m : Int) 16)
  have e1 : inW (n : Int) 64 = true := by unfold inW; rw [Bool.and_eq_true, decide_eq_true_eq, decide_eq_true_eq]; omega
  have e2 : inW (m : Int) 16 = true := by unfold inW; rw [Bool.and_eq_true, decide_eq_true_eq, decide_eq_true_eq]; omega
  rw [e1] at W1
  rw [e2] at W2
  have hr' : decide (r < 0) = false := decide_eq_false (by omega)
  have B0 : Hid (Below w.heap.size w ((w.alloc (.cells (rowOf (n * 3) (segN (fun _ => 0) m 0)) 86)).alloc (.cells #[.pointer (some ⟨pp, 0, none⟩), .slice (some ⟨w.heap.size, 0, none⟩) n n, .int .i64 r, .slice none 0 0, .int .i64 0, .int .i64 0] 82))) := allocs_below [.cells (rowOf (n * 3) (segN (fun _ => 0) m 0)) 86, .cells #[.pointer (some ⟨pp, 0, none⟩), .slice (some ⟨w.heap.size, 0, none⟩) n n, .int .i64 r, .slice none 0 0, .int .i64 0, .int .i64 0] 82] w
  have H0 : Hid (Half w w.heap.size (w.heap.size + 1) pp n m r 0 (fun _ => 0) ((w.alloc (.cells (rowOf (n * 3) (segN (fun _ => 0) m 0)) 86)).alloc (.cells #[.pointer (some ⟨pp, 0, none⟩), .slice (some ⟨w.heap.size, 0, none⟩) n n, .int .i64 r, .slice none 0 0, .int .i64 0, .int .i64 0] 82))) :=
    ⟨B0.out, allocs_row [.cells (rowOf (n * 3) (segN (fun _ => 0) m 0)) 86, .cells #[.pointer (some ⟨pp, 0, none⟩), .slice (some ⟨w.heap.size, 0, none⟩) n n, .int .i64 r, .slice none 0 0, .int .i64 0, .int .i64 0] 82] w 0 _ _ rfl, allocs_row [.cells (rowOf (n * 3) (segN (fun _ => 0) m 0)) 86, .cells #[.pointer (some ⟨pp, 0, none⟩), .slice (some ⟨w.heap.size, 0, none⟩) n n, .int .i64 r, .slice none 0 0, .int .i64 0, .int .i64 0] 82] w 1 _ _ rfl, fun j hj => by omega, fun j k hj => by omega⟩
  have m6 : Hid (m ≤ 1000000) := by unfold Hid; omega
  have n6 : Hid (n ≤ 1000000) := by unfold Hid; omega
  replace n1 := Lib.hid n1
  replace hnb := Lib.hid hnb
  have hB' := Lib.hid hB
  replace n2 := Lib.hid n2
  replace m1 := Lib.hid m1
  replace m2 := Lib.hid m2
  clear hr e1 e2 hB
  go_enter Try.func10, Try.ntmps10
  go_wp2_with fail
  refine W1.out.mono ?_
  rintro e w1 ⟨rfl, rfl⟩
  go_wp2_with fail
  refine W2.out.mono ?_
  rintro e w2 ⟨rfl, rfl⟩
  go_wp2_with (first | (refine wpList_make_row Try.underlying80 infoSeg (segN_zero (fun _ => 0) m (n * 3)) n6.out (by decide) (by decide) rfl rfl rfl rfl ?_))
  generalize (w2.alloc _).alloc _ = w3 at *
  generalize hsp : w2.heap.size = sp at *
  generalize hcp : sp + 1 = cp at *
  clear W1 W2 B0
  go_loopw [42] (fun v wr => ∃ (i : Nat) (tp : Nat → Nat), i ≤ n ∧ v = .int .i64 (i : Int) ∧ Hid (Half w2 sp cp pp n m r i tp wr)) (fun v _ => n - (intOf v).toNat)
  case atStart => exact ⟨0, _, Nat.zero_le _, rfl, H0⟩
  case round =>
    clear H0
    obtain ⟨i, tp, hi, rfl, H⟩ := hrel
    by_cases hlt : i < n
    · have lt : (i : Int) < (n : Int) := by omega
      have i6 : i ≤ 1000000 := by have := n6.out; omega
      have hlow : Hid (∀ j, j < i → tp j < wr.heap.size) := fun j hj => (H.out.pages j hj).1.lt
      have hCs : ∀ w w', Below w.heap.size w w' → (Half w2 sp cp pp n m r i tp w ∧ wr.heap.size ≤ w.heap.size) → (Half w2 sp cp pp n m r i tp w' ∧ wr.heap.size ≤ w'.heap.size) := fun w w' hb h => ⟨h.1.after hb, Nat.le_trans h.2 hb.size⟩
      replace hCs := Lib.hid hCs
      go_wp2_with fail
      refine wp_region_rely_tail 10 (fun w => Half w2 sp cp pp n m r i tp w ∧ wr.heap.size ≤ w.heap.size) [eqv (.pointer (some ⟨cp, 0, none⟩)), eqv (.pointer (some ⟨cp, 0, none⟩)), eqv (.pointer (some ⟨cp, 1, none⟩)), eqv (.slice (some ⟨sp, 0, none⟩) n n), eqv (.int .i64 (i : Int)), eqv (.int .i64 (m : Int)), heldq wr.heap.size 9 m (rowOf (m * 1) (strV fun _ => ⟨#[]⟩)), eqv (.pointer (some ⟨sp, i * 3, none⟩)), eqv (.pointer (some ⟨sp, i * 3, none⟩)), eqv (.pointer (some ⟨sp, i * 3, none⟩))] (by kernel_rfl) (by kernel_rfl) ⟨H.out.after ((Below.refl _ _).drew), Nat.le_refl _⟩
        (.cons (steady_eqv _) (.cons (steady_eqv _) (.cons (steady_eqv _) (.cons (steady_eqv _) (.cons (steady_eqv _) (.cons (steady_eqv _) (.cons (steady_heldq _ _ _ _) (.cons (steady_eqv _) (.cons (steady_eqv _) (.cons (steady_eqv _) .nil)))))))))) ?_
      intro R hR
      simp only [List.take_succ_cons, List.take_zero, List.drop_succ_cons, List.drop_zero]
      refine wpRely_cons (fun w' hC hf => ?_) (fun v0 => ?_)
      · (repeat (first | (obtain ⟨rfl, hf⟩ := hf) | (obtain ⟨⟨q, rfl, hql, hq⟩, hf⟩ := hf) | (obtain ⟨_, hf⟩ := hf)))
        have c1 := cell_of_row _ cp 1 _ _ (0, 0) hC.1.chip; exact grows_eqv (by rfl) hC (by go_simp)
      simp only [Act.put, List.setIfInBounds_toArray, List.set_cons_succ, List.set_cons_zero, List.nil_append]
      refine wpRely_cons (fun w' hC hf => ?_) (fun v1 => ?_)
      · (repeat (first | (obtain ⟨rfl, hf⟩ := hf) | (obtain ⟨⟨q, rfl, hql, hq⟩, hf⟩ := hf) | (obtain ⟨_, hf⟩ := hf)))
        have c1 := cell_of_row _ cp 1 _ _ (0, 0) hC.1.chip; exact grows_eqv (by rfl) hC (by go_simp)
      simp only [Act.put, List.setIfInBounds_toArray, List.set_cons_succ, List.set_cons_zero, List.nil_append, List.cons_append]
      refine wpRely_cons (fun w' hC hf => ?_) (fun v2 => ?_)
      · (repeat (first | (obtain ⟨rfl, hf⟩ := hf) | (obtain ⟨⟨q, rfl, hql, hq⟩, hf⟩ := hf) | (obtain ⟨_, hf⟩ := hf)))
        have c1 := cell_of_row _ cp 1 _ _ (0, 0) hC.1.chip; exact grows_eqv (by rfl) hC (by go_simp)
      simp only [Act.put, List.setIfInBounds_toArray, List.set_cons_succ, List.set_cons_zero, List.nil_append, List.cons_append]
      refine wpRely_cons (fun w' hC hf => ?_) (fun v3 => ?_)
      · (repeat (first | (obtain ⟨rfl, hf⟩ := hf) | (obtain ⟨⟨q, rfl, hql, hq⟩, hf⟩ := hf) | (obtain ⟨_, hf⟩ := hf)))
        have c1 := cell_of_row _ cp 1 _ _ (0, 0) hC.1.chip; exact grows_eqv (by rfl) hC (by go_simp)
      simp only [Act.put, List.setIfInBounds_toArray, List.set_cons_succ, List.set_cons_zero, List.nil_append, List.cons_append]
      refine wpRely_cons (fun w' hC hf => ?_) (fun v4 => ?_)
      · (repeat (first | (obtain ⟨rfl, hf⟩ := hf) | (obtain ⟨⟨q, rfl, hql, hq⟩, hf⟩ := hf) | (obtain ⟨_, hf⟩ := hf)))
        have c1 := cell_of_row _ cp 1 _ _ (0, 0) hC.1.chip; exact grows_eqv (by rfl) hC (by go_simp)
      simp only [Act.put, List.setIfInBounds_toArray, List.set_cons_succ, List.set_cons_zero, List.nil_append, List.cons_append]
      refine wpRely_cons (fun w' hC hf => ?_) (fun v5 => ?_)
      · (repeat (first | (obtain ⟨rfl, hf⟩ := hf) | (obtain ⟨⟨q, rfl, hql, hq⟩, hf⟩ := hf) | (obtain ⟨_, hf⟩ := hf)))
        have c1 := cell_of_row _ cp 1 _ _ (0, 0) hC.1.chip; exact grows_eqv (by rfl) hC (by go_simp)
      simp only [Act.put, List.setIfInBounds_toArray, List.set_cons_succ, List.set_cons_zero, List.nil_append, List.cons_append]
      refine wpRely_cons (fun w' hC hf => ?_) (fun v6 => ?_)
      · (repeat (first | (obtain ⟨rfl, hf⟩ := hf) | (obtain ⟨⟨q, rfl, hql, hq⟩, hf⟩ := hf) | (obtain ⟨_, hf⟩ := hf)))
        exact grows_heldq hR hCs hC hC.2 (by rfl) (run_make_row Try.underlying34 infoStr (strs_zero _) m6.out (by decide) (by decide) rfl rfl rfl _)
      simp only [Act.put, List.setIfInBounds_toArray, List.set_cons_succ, List.set_cons_zero, List.nil_append, List.cons_append]
      refine wpRely_cons (fun w' hC hf => ?_) (fun v7 => ?_)
      · (repeat (first | (obtain ⟨rfl, hf⟩ := hf) | (obtain ⟨⟨q, rfl, hql, hq⟩, hf⟩ := hf) | (obtain ⟨_, hf⟩ := hf)))
        have c1 := cell_of_row _ cp 1 _ _ (0, 0) hC.1.chip; exact grows_eqv (by rfl) hC (by go_simp)
      simp only [Act.put, List.setIfInBounds_toArray, List.set_cons_succ, List.set_cons_zero, List.nil_append, List.cons_append]
      refine wpRely_cons (fun w' hC hf => ?_) (fun v8 => ?_)
      · (repeat (first | (obtain ⟨rfl, hf⟩ := hf) | (obtain ⟨⟨q, rfl, hql, hq⟩, hf⟩ := hf) | (obtain ⟨_, hf⟩ := hf)))
        have c1 := cell_of_row _ cp 1 _ _ (0, 0) hC.1.chip; exact grows_eqv (by rfl) hC (by go_simp)
      simp only [Act.put, List.setIfInBounds_toArray, List.set_cons_succ, List.set_cons_zero, List.nil_append, List.cons_append]
      refine wpRely_cons (fun w' hC hf => ?_) (fun v9 => ?_)
      · (repeat (first | (obtain ⟨rfl, hf⟩ := hf) | (obtain ⟨⟨q, rfl, hql, hq⟩, hf⟩ := hf) | (obtain ⟨_, hf⟩ := hf)))
        have c1 := cell_of_row _ cp 1 _ _ (0, 0) hC.1.chip; exact grows_eqv (by rfl) hC (by go_simp)
      simp only [Act.put, List.setIfInBounds_toArray, List.set_cons_succ, List.set_cons_zero, List.nil_append, List.cons_append]
      refine wpRely_nil fun w9 hC hf => ?_
      obtain ⟨_, _, _, _, _, _, ⟨q, rfl, hql, hq⟩, _, _, rfl, _⟩ := hf
      rw [Nat.mul_one] at hq
      have H9 := Lib.hid (hC.1.step hq (Nat.le_trans H.out.below.size hql) (Nat.le_of_eq hsp) (fun j hj e => by have := hlow.out j hj; omega))
      have cs := hC.1.segs.cell (i * 3) (by omega)
      have fs := hC.1.segs.free (i * 3)
      have us : segN tp m i (i * 3) = .slice none 0 0 := by unfold segN; rw [if_pos (by omega), if_neg (by omega)]
      rw [us] at cs
      clear us hCs hlow H hC hR
      go_wp2
      go_roundw
      case rel => exact ⟨i + 1, _, by omega, by go_num, H9⟩
      case measure => simp [intOf]; omega
    · have lt : ¬ (i : Int) < (n : Int) := by omega
      have hin : i = n := by omega
      subst hin
      clear hlt lt hi hr'
      obtain ⟨L, hL⟩ : ∃ L : Lay, L = { pp := pp, cp := cp, sp := sp, tp := tp, n := i, m := m } := ⟨_, rfl⟩
      have C0 : Hid (Ch B wr L (newS up left keep junk r (badN i f 0)) (.slice none 0 0)) := by
        subst hL
        have hp := h.out.lt
        refine ⟨h.out.below H.out.below h.out.lt, H.out.chip, H.out.segs.congr (rowOf_congr fun j hj2 => ?_), fun j hj2 => (H.out.pages j hj2).1, World.ownsRow_nil _ _ _ _, H.out.inj, fun j hj2 e => (by cases e), ⟨hB'.out, ?_, ?_, fun j hj2 => ?_⟩, ⟨n1.out, n2.out, m1.out, m2.out⟩, hj.out, hk.out⟩
        · unfold segN segV
          by_cases c0 : j % 3 = 0
          · rw [if_pos c0, if_pos c0, if_pos (by omega)]
          · rw [if_neg c0, if_neg c0]
            by_cases c1 : j % 3 = 1
            · rw [if_pos c1, if_pos c1]
              rfl
            · rw [if_neg c1, if_neg c1]
              rfl
        · have := hB'.out
          show B ≤ cp
          omega
        · have := hB'.out
          show B ≤ sp
          omega
        · have := (H.out.pages j hj2).2
          have := hB'.out
          show B ≤ tp j
          omega
      have eL : Hid (L.pp = pp ∧ L.n = i ∧ L.m = m ∧ L.cp = cp ∧ w2.heap.size ≤ L.sp) := by subst hL; exact ⟨rfl, rfl, rfl, rfl, Nat.le_of_eq hsp⟩
      have bl := H.out.below
      clear H hL
      go_wp2_with fail
      clear h n6 m6 n1 n2 m1 m2 hj hk hB'
      go_loopw [58] (fun v wr => ∃ k : Nat, k ≤ nb ∧ v = .int .i64 (k : Int) ∧ Hid (Ch B wr L (newS up left keep junk r (badN i f k)) (.slice none 0 0)) ∧ Below w2.heap.size w2 wr) (fun v _ => nb - (intOf v).toNat)
      case atStart => exact ⟨0, Nat.zero_le _, rfl, C0, bl⟩
      case round =>
        clear C0 bl
        obtain ⟨k, hkn, rfl, C, hbl⟩ := hrel
        by_cases hlt2 : k < nb
        · have lt2 : (k : Int) < (nb : Int) := by omega
          have k6 : k ≤ 1000000 := by have := hnb.out; omega
          have sf := Lib.hid (hf.out.after hbl)
          have gk := Lib.hid (SeesV.cell sf.out hlt2)
          change Hid (wr.cell? _ = some (.int .i64 (f k))) at gk
          have HG := Lib.hid (hasSeg_any B wr L _ _ C (f k))
          have eB : Hid (badN i f (k + 1) = if inB (f k) i = true then updB (badN i f k) (f k).toNat else badN i f k) := rfl
          rw [eL.out.2.1, eL.out.2.2.2.1] at HG
          cases hin : inB (f k) i with
          | false =>
            rw [hin] at HG
            rw [hin, if_neg (by decide)] at eB
            generalize f k = z at *
            go_wp2_with (first | (refine wpList_known rfl (at_intsV sf.out hlt2 rfl rfl rfl rfl _) ?_) | (refine wpList_known rfl (get_int gk.out rfl rfl) ?_))
            refine HG.out.mono ?_
            rintro e w5 ⟨rfl, rfl⟩
            clear sf gk HG
            go_wp2
            go_roundw
            case rel => exact ⟨k + 1, by omega, by go_num, by rw [eB.out]; exact C, hbl⟩
            case measure => simp [intOf]; omega
          | true =>
            rw [hin] at HG
            rw [hin, if_pos rfl] at eB
            obtain ⟨j, ej, hji⟩ := inB_get hin
            rw [ej] at gk HG eB
            rw [show ((j : Nat) : Int).toNat = j from rfl] at eB
            go_wp2_with (first | (refine wpList_known rfl (at_intsV sf.out hlt2 rfl rfl rfl rfl _) ?_) | (refine wpList_known rfl (get_int gk.out rfl rfl) ?_))
            refine HG.out.mono ?_
            rintro e w5 ⟨rfl, rfl⟩
            have c1 := C.out.c1
            rw [eL.out.2.1, eL.out.2.2.2.1] at c1
            have c2 := C.out.s2 (i := j) (by rw [eL.out.2.1]; exact hji)
            have f2 := C.out.segs.free (j * 3 + 2)
            have j1 : (j : Int) < (i : Int) := by omega
            have hsp2 := eL.out.2.2.2.2
            obtain ⟨h9, g9⟩ := C.out.seg (beside_set w5 L.sp (j * 3 + 2) (.bool true)) ((C.out.segs.set (j * 3 + 2) _).congr (segV_bad L _ _ j _))
            have C9 : Hid (Ch B (w5.setCell ⟨L.sp, j * 3 + 2, none⟩ (.bool true)) L (newS up left keep junk r (badN i f (k + 1))) (.slice none 0 0)) := by rw [eB.out]; exact h9
            clear sf gk HG h9 g9 eB C ej hin
            go_wp2
            go_roundw
            case rel => exact ⟨k + 1, by omega, by go_num, C9, hbl.setCell hsp2 _⟩
            case measure => simp [intOf]; omega
        · have lt2 : ¬ (k : Int) < (nb : Int) := by omega
          have ek : k = nb := by omega
          subst ek
          go_wp2
          go_ret
          have e4 := eL.out.2.2.2.1
          exact ⟨L, by subst e4; rfl, eL.out.1, eL.out.2.1, eL.out.2.2.1, C, hbl⟩

end Go.Proofs.Ytogeccmeaacgnaa
