/-
  Contracts: toldCount, Left, Used.
-/
import Derived.Test.YtedmdojmgccclaaDoorDrawNext
import Derived.Test.YtedmdojmgccclaaDoorRelyTail
namespace Go.Proofs.YtedmdojmgccclaaDoor
open Go.RowKit

/-- What stays: the draws; the rest above. -/
def DrC (B : Nat) (w : World) (p : Nat) (a : Option Addr) (n c : Nat) (K : Nat → Nat → Nat) (t : Nat) (w' : World) : Prop := Below w.heap.size w w' ∧ Dr B w' p a n c K t
theorem DrC.after {B p n c t : Nat} {a : Option Addr} {K : Nat → Nat → Nat} {w w1 w2 : World} (hb : Below w1.heap.size w1 w2) (h : DrC B w p a n c K t w1) : DrC B w p a n c K t w2 := ⟨h.1.trans (hb.mono h.1.size), h.2.after hb⟩

/-- Keys of the call's own. -/
def keysv (B n : Nat) (K : Nat → Nat → Nat) : Pred := fun v w => w.ownsRow B 27 16 v n (keyL n K)

theorem own_after {B n : Nat} {v : Value} {xs : List Value} {w w' : World} (h : w.ownsRow B 27 16 v n xs) (hb : Below w.heap.size w w') : w'.ownsRow B 27 16 v n xs := by
  refine ⟨h.1, ?_⟩
  rcases h.2 with h2 | ⟨g, cap, cur, e, hg, hr, rest⟩
  · exact .inl h2
  · exact .inr ⟨g, cap, cur, e, hg, (hb.block g (Array.getElem?_eq_some_iff.1 hr).1).trans hr, rest⟩
theorem own_base {B B' n : Nat} {v : Value} {xs : List Value} {w : World} (h : w.ownsRow B' 27 16 v n xs) (hB : B ≤ B') : w.ownsRow B 27 16 v n xs := by
  refine ⟨h.1, ?_⟩
  rcases h.2 with h2 | ⟨g, cap, cur, e, hg, rest⟩
  · exact .inl h2
  · exact .inr ⟨g, cap, cur, e, Nat.le_trans hB hg, rest⟩

theorem steady_keysv (B n : Nat) (K : Nat → Nat → Nat) : ∀ v w w', Below w.heap.size w w' → keysv B n K v w → keysv B n K v w' := fun _ _ _ hb h => own_after h hb

theorem grows_keys {ops : Array Oper} {C : World → Prop} {R : List Pred} {o : Oper} {a : Act} {w : World} {B n : Nat} {K : Nat → Nat → Nat} {f : FuncId} {args : Array Value} (hR : Steady R) (hCs : ∀ w w', Below w.heap.size w w' → C w → C w') (hC : C w) (hB : B ≤ w.heap.size)
    (hw : Region.wanted o (yielded ops a.tmps) = true) (hv : (execOp a.eval o).run Tryd.prog w = .ok (.enter f args) w) (hc : Calls Tryd.prog f args w fun e w' => ∃ v, e = .returned v ∧ Hid (w'.ownsRow w.heap.size 27 16 v n (keyL n K)) ∧ Below w.heap.size w w') :
    growsAt Tryd.prog ops o a w fun v w' => C w' ∧ keysv B n K v w' ∧ Keeps R w w' :=
  grows_call hw hv (hc.mono fun _ _ ⟨v, he, ho, hb⟩ => ⟨v, he, hCs _ _ hb hC, own_base ho.out hB, fun i u h => hR i u _ _ hb h⟩)

theorem wrap_nat (m : Nat) (h : m ≤ 1000000) : IntKind.i64.wrap (m : Int) = (m : Int) := by
  simp [IntKind.wrap, IntKind.bits, IntKind.signed]
  omega

theorem slice_head (a : Option Addr) (n c t : Nat) (h : t ≤ c) (w : World) : (Instr.sliceAt 22 (.slice a n c) none (some (.int .i64 (t : Int))) none).run Tryd.prog w = .ok (.slice a t c) w := by
  have he : Tryd.prog.elem 22 = 27 := by kernel_rfl
  have hu : Tryd.prog.underlying 22 = some (.slice (Tryd.prog.elem 22)) := by rw [he]; exact Tryd.underlying22
  rw [run_sliceAt_slice w 22 _ _ _ _ hu]
  simp [Instr.slice, run_underlying Tryd.underlying22, Instr.sliceBounds, Instr.sliceBound, asIntOf, h, Addr.add]

set_option maxHeartbeats 1000000 in
set_option maxRecDepth 8000 in
theorem told_any (B p n c t : Nat) (a : Option Addr) (K : Nat → Nat → Nat) (w : World) (h0 : Hid (Dr B w p a n c K t)) :
    Calls Tryd.prog 18 #[.pointer (some ⟨p, 0, none⟩)] w fun e w' => e = .returned (.int .i64 (t : Int)) ∧ Below w.heap.size w w' := by
  have ht := h0.out.told
  have HC : DrC B w p a n c K t w.drew := ⟨(Below.refl _ _).drew, h0.out.after (Below.refl _ _).drew⟩
  go_enter Tryd.func18, Tryd.ntmps18
  go_wp2
  refine wp_region_steady (DrC B w p a n c K t) [eqv (.pointer (some ⟨p, 0, none⟩)), eqv (.pointer (some ⟨p, 0, none⟩)), eqv (.pointer (some ⟨p, 1, none⟩)), eqv (.int .i64 (t : Int)), eqv (.pointer (some ⟨p, 0, none⟩)), eqv (.pointer (some ⟨p, 0, none⟩)), eqv (.pointer (some ⟨p, 0, none⟩)), eqv (.slice a n c), eqv (.int .i64 (n : Int)), eqv (.int .i64 (t : Int)), eqv (.int .i64 (t : Int))] (by kernel_rfl) (by kernel_rfl) HC
    (.cons (steady_eqv _) (.cons (steady_eqv _) (.cons (steady_eqv _) (.cons (steady_eqv _) (.cons (steady_eqv _) (.cons (steady_eqv _) (.cons (steady_eqv _) (.cons (steady_eqv _) (.cons (steady_eqv _) (.cons (steady_eqv _) (.cons (steady_eqv _) .nil))))))))))) ?_
  intro R hR
  refine wpRely_cons (fun w' hC hf => ?_) (fun v0 => ?_)
  · (repeat (first | (obtain ⟨rfl, hf⟩ := hf) | (obtain ⟨⟨q, rfl, hq⟩, hf⟩ := hf) | (obtain ⟨_, hf⟩ := hf)))
    exact grows_eqv (by rfl) hC (by go_simp)
  simp only [Act.put, List.setIfInBounds_toArray, List.set_cons_succ, List.set_cons_zero, List.nil_append]
  refine wpRely_cons (fun w' hC hf => ?_) (fun v1 => ?_)
  · (repeat (first | (obtain ⟨rfl, hf⟩ := hf) | (obtain ⟨⟨q, rfl, hq⟩, hf⟩ := hf) | (obtain ⟨_, hf⟩ := hf)))
    exact grows_eqv (by rfl) hC (by go_simp)
  simp only [Act.put, List.setIfInBounds_toArray, List.set_cons_succ, List.set_cons_zero, List.nil_append, List.cons_append]
  refine wpRely_cons (fun w' hC hf => ?_) (fun v2 => ?_)
  · (repeat (first | (obtain ⟨rfl, hf⟩ := hf) | (obtain ⟨⟨q, rfl, hq⟩, hf⟩ := hf) | (obtain ⟨_, hf⟩ := hf)))
    exact grows_eqv (by rfl) hC (by go_simp)
  simp only [Act.put, List.setIfInBounds_toArray, List.set_cons_succ, List.set_cons_zero, List.nil_append, List.cons_append]
  refine wpRely_cons (fun w' hC hf => ?_) (fun v3 => ?_)
  · (repeat (first | (obtain ⟨rfl, hf⟩ := hf) | (obtain ⟨⟨q, rfl, hq⟩, hf⟩ := hf) | (obtain ⟨_, hf⟩ := hf)))
    exact grows_calls hR (fun _ _ hb h => h.after hb) hC (by rfl) (by go_simp) ((told_load ⟨p, 1, none⟩ (t : Int) w' hC.2.cell1).mono fun e w'' ⟨h1, h2⟩ => ⟨h1, h2 ▸ Below.refl _ _⟩)
  simp only [Act.put, List.setIfInBounds_toArray, List.set_cons_succ, List.set_cons_zero, List.nil_append, List.cons_append]
  refine wpRely_cons (fun w' hC hf => ?_) (fun v4 => ?_)
  · (repeat (first | (obtain ⟨rfl, hf⟩ := hf) | (obtain ⟨⟨q, rfl, hq⟩, hf⟩ := hf) | (obtain ⟨_, hf⟩ := hf)))
    exact grows_eqv (by rfl) hC (by go_simp)
  simp only [Act.put, List.setIfInBounds_toArray, List.set_cons_succ, List.set_cons_zero, List.nil_append, List.cons_append]
  refine wpRely_cons (fun w' hC hf => ?_) (fun v5 => ?_)
  · (repeat (first | (obtain ⟨rfl, hf⟩ := hf) | (obtain ⟨⟨q, rfl, hq⟩, hf⟩ := hf) | (obtain ⟨_, hf⟩ := hf)))
    exact grows_eqv (by rfl) hC (by go_simp)
  simp only [Act.put, List.setIfInBounds_toArray, List.set_cons_succ, List.set_cons_zero, List.nil_append, List.cons_append]
  refine wpRely_cons (fun w' hC hf => ?_) (fun v6 => ?_)
  · (repeat (first | (obtain ⟨rfl, hf⟩ := hf) | (obtain ⟨⟨q, rfl, hq⟩, hf⟩ := hf) | (obtain ⟨_, hf⟩ := hf)))
    exact grows_eqv (by rfl) hC (by go_simp)
  simp only [Act.put, List.setIfInBounds_toArray, List.set_cons_succ, List.set_cons_zero, List.nil_append, List.cons_append]
  refine wpRely_cons (fun w' hC hf => ?_) (fun v7 => ?_)
  · (repeat (first | (obtain ⟨rfl, hf⟩ := hf) | (obtain ⟨⟨q, rfl, hq⟩, hf⟩ := hf) | (obtain ⟨_, hf⟩ := hf)))
    have c0 := hC.2.cell0
    exact grows_eqv (by rfl) hC (by go_simp)
  simp only [Act.put, List.setIfInBounds_toArray, List.set_cons_succ, List.set_cons_zero, List.nil_append, List.cons_append]
  refine wpRely_cons (fun w' hC hf => ?_) (fun v8 => ?_)
  · (repeat (first | (obtain ⟨rfl, hf⟩ := hf) | (obtain ⟨⟨q, rfl, hq⟩, hf⟩ := hf) | (obtain ⟨_, hf⟩ := hf)))
    exact grows_eqv (by rfl) hC (by go_simp)
  simp only [Act.put, List.setIfInBounds_toArray, List.set_cons_succ, List.set_cons_zero, List.nil_append, List.cons_append]
  refine wpRely_cons (fun w' hC hf => ?_) (fun v9 => ?_)
  · (repeat (first | (obtain ⟨rfl, hf⟩ := hf) | (obtain ⟨⟨q, rfl, hq⟩, hf⟩ := hf) | (obtain ⟨_, hf⟩ := hf)))
    exact grows_eqv (by rfl) hC (by go_simp; omega)
  simp only [Act.put, List.setIfInBounds_toArray, List.set_cons_succ, List.set_cons_zero, List.nil_append, List.cons_append]
  refine wpRely_cons (fun w' hC hf => ?_) (fun v10 => ?_)
  · (repeat (first | (obtain ⟨rfl, hf⟩ := hf) | (obtain ⟨⟨q, rfl, hq⟩, hf⟩ := hf) | (obtain ⟨_, hf⟩ := hf)))
    exact grows_eqv (by rfl) hC (by go_simp)
  simp only [Act.put, List.setIfInBounds_toArray, List.set_cons_succ, List.set_cons_zero, List.nil_append, List.cons_append]
  refine wpRely_nil fun w9 hC hf => ?_
  obtain ⟨_, _, _, _, _, _, _, _, _, _, rfl, _⟩ := hf
  go_wp2
  go_ret
  exact ⟨rfl, hC.1⟩

set_option maxHeartbeats 1000000 in
set_option maxRecDepth 8000 in
theorem drawLeft_any (B p n c t : Nat) (hn : n ≤ 1000000) (a : Option Addr) (K : Nat → Nat → Nat) (w : World) (h0 : Hid (Dr B w p a n c K t)) :
    Calls Tryd.prog 9 #[.pointer (some ⟨p, 0, none⟩)] w fun e w' => e = .returned (.int .i64 ((n - t : Nat) : Int)) ∧ Below w.heap.size w w' := by
  have ht := h0.out.told
  have hwr := Lib.hid (wrap_nat (n - t) (by omega))
  have hsub : (n : Int) - (t : Int) = ((n - t : Nat) : Int) := by omega
  have HC : DrC B w p a n c K t w.drew := ⟨(Below.refl _ _).drew, h0.out.after (Below.refl _ _).drew⟩
  go_enter Tryd.func9, Tryd.ntmps9
  go_wp2
  refine wp_region_steady (DrC B w p a n c K t) [eqv (.pointer (some ⟨p, 0, none⟩)), eqv (.pointer (some ⟨p, 0, none⟩)), eqv (.pointer (some ⟨p, 0, none⟩)), eqv (.slice a n c), eqv (.int .i64 (n : Int)), eqv (.pointer (some ⟨p, 0, none⟩)), eqv (.int .i64 (t : Int)), eqv (.int .i64 ((n - t : Nat) : Int)), eqv (.int .i64 ((n - t : Nat) : Int))] (by kernel_rfl) (by kernel_rfl) HC
    (.cons (steady_eqv _) (.cons (steady_eqv _) (.cons (steady_eqv _) (.cons (steady_eqv _) (.cons (steady_eqv _) (.cons (steady_eqv _) (.cons (steady_eqv _) (.cons (steady_eqv _) (.cons (steady_eqv _) .nil))))))))) ?_
  intro R hR
  refine wpRely_cons (fun w' hC hf => ?_) (fun v0 => ?_)
  · (repeat (first | (obtain ⟨rfl, hf⟩ := hf) | (obtain ⟨⟨q, rfl, hq⟩, hf⟩ := hf) | (obtain ⟨_, hf⟩ := hf)))
    exact grows_eqv (by rfl) hC (by go_simp)
  simp only [Act.put, List.setIfInBounds_toArray, List.set_cons_succ, List.set_cons_zero, List.nil_append]
  refine wpRely_cons (fun w' hC hf => ?_) (fun v1 => ?_)
  · (repeat (first | (obtain ⟨rfl, hf⟩ := hf) | (obtain ⟨⟨q, rfl, hq⟩, hf⟩ := hf) | (obtain ⟨_, hf⟩ := hf)))
    exact grows_eqv (by rfl) hC (by go_simp)
  simp only [Act.put, List.setIfInBounds_toArray, List.set_cons_succ, List.set_cons_zero, List.nil_append, List.cons_append]
  refine wpRely_cons (fun w' hC hf => ?_) (fun v2 => ?_)
  · (repeat (first | (obtain ⟨rfl, hf⟩ := hf) | (obtain ⟨⟨q, rfl, hq⟩, hf⟩ := hf) | (obtain ⟨_, hf⟩ := hf)))
    exact grows_eqv (by rfl) hC (by go_simp)
  simp only [Act.put, List.setIfInBounds_toArray, List.set_cons_succ, List.set_cons_zero, List.nil_append, List.cons_append]
  refine wpRely_cons (fun w' hC hf => ?_) (fun v3 => ?_)
  · (repeat (first | (obtain ⟨rfl, hf⟩ := hf) | (obtain ⟨⟨q, rfl, hq⟩, hf⟩ := hf) | (obtain ⟨_, hf⟩ := hf)))
    have c0 := hC.2.cell0
    exact grows_eqv (by rfl) hC (by go_simp)
  simp only [Act.put, List.setIfInBounds_toArray, List.set_cons_succ, List.set_cons_zero, List.nil_append, List.cons_append]
  refine wpRely_cons (fun w' hC hf => ?_) (fun v4 => ?_)
  · (repeat (first | (obtain ⟨rfl, hf⟩ := hf) | (obtain ⟨⟨q, rfl, hq⟩, hf⟩ := hf) | (obtain ⟨_, hf⟩ := hf)))
    exact grows_eqv (by rfl) hC (by go_simp)
  simp only [Act.put, List.setIfInBounds_toArray, List.set_cons_succ, List.set_cons_zero, List.nil_append, List.cons_append]
  refine wpRely_cons (fun w' hC hf => ?_) (fun v5 => ?_)
  · (repeat (first | (obtain ⟨rfl, hf⟩ := hf) | (obtain ⟨⟨q, rfl, hq⟩, hf⟩ := hf) | (obtain ⟨_, hf⟩ := hf)))
    exact grows_eqv (by rfl) hC (by go_simp)
  simp only [Act.put, List.setIfInBounds_toArray, List.set_cons_succ, List.set_cons_zero, List.nil_append, List.cons_append]
  refine wpRely_cons (fun w' hC hf => ?_) (fun v6 => ?_)
  · (repeat (first | (obtain ⟨rfl, hf⟩ := hf) | (obtain ⟨⟨q, rfl, hq⟩, hf⟩ := hf) | (obtain ⟨_, hf⟩ := hf)))
    exact grows_calls hR (fun _ _ hb h => h.after hb) hC (by rfl) (by go_simp) (told_any B p n c t a K w' hC.2)
  simp only [Act.put, List.setIfInBounds_toArray, List.set_cons_succ, List.set_cons_zero, List.nil_append, List.cons_append]
  refine wpRely_cons (fun w' hC hf => ?_) (fun v7 => ?_)
  · (repeat (first | (obtain ⟨rfl, hf⟩ := hf) | (obtain ⟨⟨q, rfl, hq⟩, hf⟩ := hf) | (obtain ⟨_, hf⟩ := hf)))
    exact grows_eqv (by rfl) hC (by go_simp; exact hwr.out)
  simp only [Act.put, List.setIfInBounds_toArray, List.set_cons_succ, List.set_cons_zero, List.nil_append, List.cons_append]
  refine wpRely_cons (fun w' hC hf => ?_) (fun v8 => ?_)
  · (repeat (first | (obtain ⟨rfl, hf⟩ := hf) | (obtain ⟨⟨q, rfl, hq⟩, hf⟩ := hf) | (obtain ⟨_, hf⟩ := hf)))
    exact grows_eqv (by rfl) hC (by go_simp)
  simp only [Act.put, List.setIfInBounds_toArray, List.set_cons_succ, List.set_cons_zero, List.nil_append, List.cons_append]
  refine wpRely_nil fun w9 hC hf => ?_
  obtain ⟨_, _, _, _, _, _, _, _, rfl, _⟩ := hf
  go_wp2
  go_ret
  exact ⟨rfl, hC.1⟩

set_option maxHeartbeats 1000000 in
set_option maxRecDepth 8000 in
theorem drawUsed_any (B p n c t : Nat) (hn : n ≤ 1000000) (a : Option Addr) (K : Nat → Nat → Nat) (w : World) (h0 : Hid (Dr B w p a n c K t)) :
    Calls Tryd.prog 11 #[.pointer (some ⟨p, 0, none⟩)] w fun e w' => ∃ v, e = .returned v ∧ Hid (w'.ownsRow w.heap.size 27 16 v t (keyL t K)) ∧ Below w.heap.size w w' := by
  have ht := h0.out.told
  have sl := slice_head a n c t (Nat.le_trans ht h0.out.room)
  have HC : DrC B w p a n c K t w.drew := ⟨(Below.refl _ _).drew, h0.out.after (Below.refl _ _).drew⟩
  go_enter Tryd.func11, Tryd.ntmps11
  go_wp2
  refine wp_region_steady (DrC B w p a n c K t) [eqv (.pointer (some ⟨p, 0, none⟩)), eqv (.pointer (some ⟨p, 0, none⟩)), eqv (.pointer (some ⟨p, 0, none⟩)), eqv (.slice a n c), eqv (.pointer (some ⟨p, 0, none⟩)), eqv (.int .i64 (t : Int)), eqv (.slice a t c), keysv w.heap.size t K, keysv w.heap.size t K] (by kernel_rfl) (by kernel_rfl) HC
    (.cons (steady_eqv _) (.cons (steady_eqv _) (.cons (steady_eqv _) (.cons (steady_eqv _) (.cons (steady_eqv _) (.cons (steady_eqv _) (.cons (steady_eqv _) (.cons (steady_keysv _ _ _) (.cons (steady_keysv _ _ _) .nil))))))))) ?_
  intro R hR
  refine wpRely_cons (fun w' hC hf => ?_) (fun v0 => ?_)
  · (repeat (first | (obtain ⟨rfl, hf⟩ := hf) | (obtain ⟨⟨q, rfl, hq⟩, hf⟩ := hf) | (obtain ⟨_, hf⟩ := hf)))
    exact grows_eqv (by rfl) hC (by go_simp)
  simp only [Act.put, List.setIfInBounds_toArray, List.set_cons_succ, List.set_cons_zero, List.nil_append]
  refine wpRely_cons (fun w' hC hf => ?_) (fun v1 => ?_)
  · (repeat (first | (obtain ⟨rfl, hf⟩ := hf) | (obtain ⟨⟨q, rfl, hq⟩, hf⟩ := hf) | (obtain ⟨_, hf⟩ := hf)))
    exact grows_eqv (by rfl) hC (by go_simp)
  simp only [Act.put, List.setIfInBounds_toArray, List.set_cons_succ, List.set_cons_zero, List.nil_append, List.cons_append]
  refine wpRely_cons (fun w' hC hf => ?_) (fun v2 => ?_)
  · (repeat (first | (obtain ⟨rfl, hf⟩ := hf) | (obtain ⟨⟨q, rfl, hq⟩, hf⟩ := hf) | (obtain ⟨_, hf⟩ := hf)))
    exact grows_eqv (by rfl) hC (by go_simp)
  simp only [Act.put, List.setIfInBounds_toArray, List.set_cons_succ, List.set_cons_zero, List.nil_append, List.cons_append]
  refine wpRely_cons (fun w' hC hf => ?_) (fun v3 => ?_)
  · (repeat (first | (obtain ⟨rfl, hf⟩ := hf) | (obtain ⟨⟨q, rfl, hq⟩, hf⟩ := hf) | (obtain ⟨_, hf⟩ := hf)))
    have c0 := hC.2.cell0
    exact grows_eqv (by rfl) hC (by go_simp)
  simp only [Act.put, List.setIfInBounds_toArray, List.set_cons_succ, List.set_cons_zero, List.nil_append, List.cons_append]
  refine wpRely_cons (fun w' hC hf => ?_) (fun v4 => ?_)
  · (repeat (first | (obtain ⟨rfl, hf⟩ := hf) | (obtain ⟨⟨q, rfl, hq⟩, hf⟩ := hf) | (obtain ⟨_, hf⟩ := hf)))
    exact grows_eqv (by rfl) hC (by go_simp)
  simp only [Act.put, List.setIfInBounds_toArray, List.set_cons_succ, List.set_cons_zero, List.nil_append, List.cons_append]
  refine wpRely_cons (fun w' hC hf => ?_) (fun v5 => ?_)
  · (repeat (first | (obtain ⟨rfl, hf⟩ := hf) | (obtain ⟨⟨q, rfl, hq⟩, hf⟩ := hf) | (obtain ⟨_, hf⟩ := hf)))
    exact grows_calls hR (fun _ _ hb h => h.after hb) hC (by rfl) (by go_simp) (told_any B p n c t a K w' hC.2)
  simp only [Act.put, List.setIfInBounds_toArray, List.set_cons_succ, List.set_cons_zero, List.nil_append, List.cons_append]
  refine wpRely_cons (fun w' hC hf => ?_) (fun v6 => ?_)
  · (repeat (first | (obtain ⟨rfl, hf⟩ := hf) | (obtain ⟨⟨q, rfl, hq⟩, hf⟩ := hf) | (obtain ⟨_, hf⟩ := hf)))
    exact grows_eqv (by rfl) hC (by go_simp)
  simp only [Act.put, List.setIfInBounds_toArray, List.set_cons_succ, List.set_cons_zero, List.nil_append, List.cons_append]
  refine wpRely_cons (fun w' hC hf => ?_) (fun v7 => ?_)
  · (repeat (first | (obtain ⟨rfl, hf⟩ := hf) | (obtain ⟨⟨q, rfl, hq⟩, hf⟩ := hf) | (obtain ⟨_, hf⟩ := hf)))
    exact grows_keys hR (fun _ _ hb h => h.after hb) hC hC.1.size (by rfl) (by go_simp) (clone_any t (by omega) K a c w' (hC.2.keys.take hC.2.told))
  simp only [Act.put, List.setIfInBounds_toArray, List.set_cons_succ, List.set_cons_zero, List.nil_append, List.cons_append]
  refine wpRely_cons (fun w' hC hf => ?_) (fun v8 => ?_)
  · skip
    exact grows_val (by rfl) (by go_simp) hf.1 hC
  simp only [Act.put, List.setIfInBounds_toArray, List.set_cons_succ, List.set_cons_zero, List.nil_append, List.cons_append]
  refine wpRely_nil fun w9 hC hf => ?_
  obtain ⟨_, _, _, _, _, _, _, _, hv, _⟩ := hf
  replace hv := Lib.hid hv
  go_wp2
  go_ret
  exact ⟨_, rfl, hv, hC.1⟩

end Go.Proofs.YtedmdojmgccclaaDoor
