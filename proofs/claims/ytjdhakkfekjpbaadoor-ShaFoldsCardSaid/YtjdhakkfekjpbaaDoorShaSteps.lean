/-
  The walk of the law ShaSteps.
-/
import Derived.Test.YtjdhakkfekjpbaaDoorShaEq
import Derived.Test.YtjdhakkfekjpbaaDoorShaOpen
namespace Go.Proofs.YtjdhakkfekjpbaaDoor
open Go.RowKit

/-- A region that draws its order, whose operations only read in the worlds of a class, and whose callees end in that class: walked once, in the order of the text. -/
theorem wp_region_class {P : Program} {id : Nat} {Q : Exit → Act → World → Prop} {a : Act} {w : World} {l : List Oper} (C : World → Prop) (hm : P.follows .mixedOrders = true) (hB : Region.lexB .any l.toArray = true) (hC : C w.drew)
    (h : wpQuiet P l.toArray C (fun a' => ∀ w', C w' → Q .normal a' w') l a) : (Code.region id l.toArray true).wp P Q a w :=
  wp_region_quiet (C := C) hm hB hC (by simpa using h)

theorem wpQuiet_load_row {P : Program} {ops : Array Oper} {rest : List Oper} {o : Oper} {a : Act} {C : World → Prop} {Q : Act → Prop} (hw : Region.wanted o (yielded ops a.tmps) = true) (ty : TypeId) (x : Operand) (ho : o.op = .load ty x)
    (g : Nat) (hx : a.eval x = .pointer (some ⟨g, 0, none⟩)) (t : TypeId) (cs : Array Value) (d : TypeDesc) (hg : ∀ w, C w → RowAt w g t cs)
    (hu : P.underlying ty = some d) (hd : (match d with | .struct _ | .array _ _ => true | _ => false) = true) (hi : (P.info? ty).map (·.size) = some cs.size)
    (h : wpQuiet P ops C Q rest (a.put o.dst (.agg cs))) : wpQuiet P ops C Q (o :: rest) a := by
  refine wpQuiet_step (fun K hK => ?_)
  rw [if_pos hw]
  refine ⟨.agg cs, fun w hw => ?_, hK _ h⟩
  unfold Oper.quietAt execOp
  simp only [ho, hx, Instr.loadAt, Instr.sureAddr, Sem.run_bind, Sem.run_pure, Result.andThen_ok, run_loadVar_row w g t ty cs (0, 0) d (hg w hw) hu hd hi]
  exact ⟨rfl, rfl⟩

theorem wpQuiet_val {P : Program} {ops : Array Oper} {rest : List Oper} {o : Oper} {a : Act} {C : World → Prop} {Q : Act → Prop} (hw : Region.wanted o (yielded ops a.tmps) = true) (v : Value)
    (ho : ∀ w, C w → (execOp a.eval o).run P w = .ok (.value v) w) (h : wpQuiet P ops C Q rest (a.put o.dst v)) : wpQuiet P ops C Q (o :: rest) a := by
  refine wpQuiet_step (fun K hK => ?_)
  rw [if_pos hw]
  refine ⟨v, fun w hw => ?_, hK _ h⟩
  unfold Oper.quietAt
  rw [ho w hw]
  exact ⟨rfl, rfl⟩

/-- What stays: the words in their block; the rest above. -/
def StepsC (w : World) (f : Nat → Nat) (w' : World) : Prop := RowAt w' w.heap.size 30 (rowOf 8 (w32 f)) ∧ Below w.heap.size w w'

theorem StepsC.after {w w1 w2 : World} {f : Nat → Nat} (h : StepsC w f w1) (hb : Below w1.heap.size w1 w2) : StepsC w f w2 := ⟨h.1.below hb h.1.lt, h.2.trans (hb.mono h.2.size)⟩

/-- The words that a step of any text gives. -/
def stepAny (f : Nat → Nat) (s : ByteArray) : Nat → Nat := if s.size = 64 then stepN f (byteL s.data.toList) else f

theorem stepAny_words {f : Nat → Nat} (hf : Words f) (s : ByteArray) : Words (stepAny f s) := by
  unfold stepAny
  split
  · exact stepN_words _ _
  · exact hf

theorem shaStep_any (f : Nat → Nat) (hf : Words f) (s : ByteArray) (w : World) (hk : KRow w) :
    Calls Tryd.prog 14 #[.agg (rowOf 8 (w32 f)), .string s] w fun e w' => e = .returned (.agg (rowOf 8 (w32 (stepAny f s)))) ∧ Below w.heap.size w w' := by
  unfold stepAny
  split
  · rename_i h; exact shaStep_yes f hf s h w hk
  · rename_i h; exact shaStep_other f s h w

theorem refStep_any (f : Nat → Nat) (hf : Words f) (s : ByteArray) (w : World) :
    Calls Tryd.prog 16 #[.agg (rowOf 8 (w64 f)), .string s] w fun e w' => e = .returned (.agg (rowOf 8 (w64 (stepAny f s)))) ∧ Below w.heap.size w w' := by
  unfold stepAny
  split
  · rename_i h; exact refStep_yes f hf s h w
  · rename_i h; exact refStep_other f s h w

set_option maxHeartbeats 1000000 in
set_option maxRecDepth 8000 in
theorem walk_ShaSteps (f : Nat → Nat) (hf : Words f) (s : ByteArray) (_hs : s.size ≤ maxLen) (w : World) (hk : KRow w) :
    Calls Tryd.prog 4 #[.agg (rowOf 8 (w32 f)), .string s] w fun e w' => e = .returned (.bool true) ∧ Below w.heap.size w w' := by
  have HK := Lib.hid hk
  have HF := Lib.hid hf
  clear hk hf
  have b0 : Below w.heap.size w (w.alloc (.cells (rowOf 8 (w32 f)) 30)) := (Below.refl _ _).alloc (Nat.le_refl _) _
  have r0 : Hid (RowAt (w.alloc (.cells (rowOf 8 (w32 f)) 30)) w.heap.size 30 (rowOf 8 (w32 f))) := RowAt.new _ _ _
  have hk0 : Hid (KRow (w.alloc (.cells (rowOf 8 (w32 f)) 30))) := HK.out.below b0 HK.out.1 b0.size
  by_cases h : (200 : Int) < (s.size : Int)
  · go_enter Tryd.func4, Tryd.ntmps4
    go_wp2_with fail
    refine (shown_any _ hk0).mono ?_
    rintro e w1 ⟨rfl, hb1⟩
    go_wp2
    go_ret
    exact ⟨rfl, b0.trans (hb1.mono b0.size)⟩
  · have d : decide ((200 : Int) < (s.size : Int)) = false := decide_eq_false h
    go_enter Tryd.func4, Tryd.ntmps4
    go_wp2_with fail
    refine (shown_any _ hk0).mono ?_
    rintro e w1 ⟨rfl, hb1⟩
    have r1 : Hid (RowAt w1 w.heap.size 30 (rowOf 8 (w32 f))) := r0.out.below hb1 r0.out.lt
    have b1 : Below w.heap.size w w1 := b0.trans (hb1.mono b0.size)
    clear hb1 b0 r0 hk0
    have HC : Hid (StepsC w f w1.drew) := ⟨r1.out, b1.drew⟩
    clear r1 b1
    have hS := Lib.hid (stepAny_words HF.out s)
    have K1 : Hid (∀ w', StepsC w f w' → Calls Tryd.prog 14 #[.agg (rowOf 8 (w32 f)), .string s] w' (fun e w'' => e = .returned (.agg (rowOf 8 (w32 (stepAny f s)))) ∧ StepsC w f w'')) :=
      fun w' hw => (shaStep_any f HF.out s w' (HK.out.below hw.2 HK.out.1 hw.2.size)).mono fun e w'' ⟨he, hb⟩ => ⟨he, hw.after hb⟩
    have K2 : Hid (∀ w', StepsC w f w' → Calls Tryd.prog 17 #[.agg (rowOf 8 (w32 f))] w' (fun e w'' => e = .returned (.agg (rowOf 8 (w64 f))) ∧ StepsC w f w'')) :=
      fun w' hw => (refWide_any f HF w').mono fun e w'' ⟨he, hb⟩ => ⟨he, hw.after hb⟩
    have K3 : Hid (∀ w', StepsC w f w' → Calls Tryd.prog 16 #[.agg (rowOf 8 (w64 f)), .string s] w' (fun e w'' => e = .returned (.agg (rowOf 8 (w64 (stepAny f s)))) ∧ StepsC w f w'')) :=
      fun w' hw => (refStep_any f HF.out s w').mono fun e w'' ⟨he, hb⟩ => ⟨he, hw.after hb⟩
    have K4 : Hid (∀ w', StepsC w f w' → Calls Tryd.prog 15 #[.agg (rowOf 8 (w64 (stepAny f s)))] w' (fun e w'' => e = .returned (.agg (rowOf 8 (w32 (stepAny f s)))) ∧ StepsC w f w'')) :=
      fun w' hw => (refNarrow_any (stepAny f s) hS w').mono fun e w'' ⟨he, hb⟩ => ⟨he, hw.after hb⟩
    generalize stepAny f s = y at *
    have eq := eq_words_same y
    go_wp2
    refine wp_region_class (StepsC w f) (by kernel_rfl) (by kernel_rfl) HC.out ?_
    refine wpQuiet_load_row rfl 30 _ rfl w.heap.size rfl 30 (rowOf 8 (w32 f)) _ (fun w' hw => hw.1) Tryd.underlying30 rfl (info_w8 _) ?_
    simp only [Act.put, List.setIfInBounds_toArray, List.set_cons_succ, List.set_cons_zero]
    (go_big_quiet_want; go_big_quiet_op; go_big_quiet_on)
    (go_big_quiet_want; go_big_quiet_op; apply Exists.intro; refine ⟨K1.out, ?_⟩; go_big_quiet_on)
    refine wpQuiet_load_row rfl 30 _ rfl w.heap.size rfl 30 (rowOf 8 (w32 f)) _ (fun w' hw => hw.1) Tryd.underlying30 rfl (info_w8 _) ?_
    simp only [Act.put, List.setIfInBounds_toArray, List.set_cons_succ, List.set_cons_zero]
    (go_big_quiet_want; go_big_quiet_op; apply Exists.intro; refine ⟨K2.out, ?_⟩; go_big_quiet_on)
    (go_big_quiet_want; go_big_quiet_op; go_big_quiet_on)
    (go_big_quiet_want; go_big_quiet_op; apply Exists.intro; refine ⟨K3.out, ?_⟩; go_big_quiet_on)
    (go_big_quiet_want; go_big_quiet_op; apply Exists.intro; refine ⟨K4.out, ?_⟩; go_big_quiet_on)
    refine wpQuiet_val rfl (.bool true) (fun w' _ => ?_) ?_
    · go_simp
    simp only [Act.put, List.setIfInBounds_toArray, List.set_cons_succ, List.set_cons_zero]
    repeat (first | go_big_quiet_skip | (go_big_quiet_want; go_big_quiet_op; go_big_quiet_on))
    refine wpQuiet_nil ?_
    intro w9 hw9
    have b9 := hw9.2
    clear K1 K2 K3 K4 HC hw9 eq
    go_wp2
    go_ret
    exact ⟨rfl, b9⟩

end Go.Proofs.YtjdhakkfekjpbaaDoor
