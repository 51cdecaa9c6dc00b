/-
  A range over a function whose iterator keeps memory of its own, for any element types: which blocks the iterator turns, which the loop's body (cells of the types L, from block b on); the law of the statement.
-/
import Derived.Test.YtlfgiggeeoegjaaDoorApart
import Derived.RangeFuncNested
import Derived.StillTail
namespace Go.Proofs.YtlfgiggeeoegjaaDoor
open Go.RowKit
set_option linter.unusedVariables false

/-- Cells of the types that a loop's body turns. -/
def looseB (L : TypeId → Bool) : Obj → Bool
  | .cells _ t _ => L t
  | _ => false
/-- Other cells. -/
def firmB (L : TypeId → Bool) : Obj → Bool
  | .cells _ t _ => !L t
  | _ => false

section
variable {L : TypeId → Bool} {b : Nat}

/-- What a round does. -/
structure OuterB (L : TypeId → Bool) (b : Nat) (W W' : World) : Prop where
  os : W'.os = W.os
  tape : W'.tape = W.tape
  output : W'.output = W.output
  size : W.heap.size ≤ W'.heap.size
  block : ∀ (k : Nat) (o : Obj), W.heap[k]? = some o → (k < b ∨ looseB L o = false) → W'.heap[k]? = some o

/-- What the iterator does between two rounds, its own blocks lying from m on. -/
structure InnerB (L : TypeId → Bool) (m : Nat) (W W' : World) : Prop where
  os : W'.os = W.os
  tape : W'.tape = W.tape
  output : W'.output = W.output
  size : W.heap.size ≤ W'.heap.size
  block : ∀ (k : Nat) (o : Obj), W.heap[k]? = some o → (k < m ∨ firmB L o = false) → W'.heap[k]? = some o

theorem OuterB.refl (W : World) : OuterB L b W W := ⟨rfl, rfl, rfl, Nat.le_refl _, fun _ _ h _ => h⟩
theorem InnerB.refl (m : Nat) (W : World) : InnerB L m W W := ⟨rfl, rfl, rfl, Nat.le_refl _, fun _ _ h _ => h⟩
theorem InnerB.trans {m : Nat} {A B C : World} (h : InnerB L m A B) (k : InnerB L m B C) : InnerB L m A C :=
  ⟨k.os.trans h.os, k.tape.trans h.tape, k.output.trans h.output, Nat.le_trans h.size k.size, fun i o hi ho => k.block i o (h.block i o hi ho) ho⟩
theorem InnerB.mono {m m' : Nat} {A B : World} (h : InnerB L m A B) (hm : m' ≤ m) : InnerB L m' A B :=
  ⟨h.os, h.tape, h.output, h.size, fun i o hi ho => h.block i o hi (ho.imp (fun x => Nat.lt_of_lt_of_le x hm) id)⟩
theorem InnerB.below {m : Nat} {A B : World} (h : InnerB L m A B) (hm : m ≤ A.heap.size) : Below m A B :=
  ⟨h.os, h.tape, h.output, h.size, fun k hk => by
    have hk' : k < A.heap.size := by omega
    rw [Array.getElem?_eq_getElem hk']
    exact h.block k _ (Array.getElem?_eq_getElem hk') (.inl hk)⟩
theorem block_kept {A B : World} {k : Nat} {o : Obj} (h : Below A.heap.size A B) (hk : A.heap[k]? = some o) : B.heap[k]? = some o :=
  (h.block k (Array.getElem?_eq_some_iff.1 hk).1).trans hk
theorem InnerB.of_below {m : Nat} {A B : World} (h : Below A.heap.size A B) : InnerB L m A B := ⟨h.os, h.tape, h.output, h.size, fun _ _ hi _ => block_kept h hi⟩
theorem OuterB.of_below {A B : World} (h : Below A.heap.size A B) : OuterB L b A B := ⟨h.os, h.tape, h.output, h.size, fun _ _ hi _ => block_kept h hi⟩
/-- A firm block of the iterator's own turned. -/
theorem InnerB.of_apart {m p : Nat} {A B : World} {o : Obj} (h : Apart p A B) (hp : m ≤ p) (ho : A.heap[p]? = some o) (hf : firmB L o = true) : InnerB L m A B := by
  have h1 := h #[]
  refine ⟨h1.os, h1.tape, h1.output, h.size, fun k x hx hk => ?_⟩
  by_cases e : k = p
  · subst e
    rw [ho] at hx
    cases hx
    rcases hk with hk | hk
    · omega
    · rw [hf] at hk; cases hk
  · have hlt := (Array.getElem?_eq_some_iff.1 hx).1
    have := h1.block k hlt
    rw [setRow_other _ _ _ _ e, setRow_other _ _ _ _ e] at this
    exact this.trans hx
theorem OuterB.row {A B : World} {p : Nat} {t : TypeId} {cs : Array Value} (h : OuterB L b A B) (hr : RowAt A p t cs) (ht : L t = false) : RowAt B p t cs := h.block _ _ hr (.inr ht)

/-- An iterator that hands out xs 0 .. xs (N - 1), whatever the body that keeps what is no row of bytes, and asks for more. -/
def SeqB (L : TypeId → Bool) (b : Nat) (P : Program) (g : Nat) (lb : Array Value) (N : Nat) (xs : Nat → Array Value) (w0 : World) : Prop :=
  ∀ (l : Nat) (J : Nat → World → Prop) (W : World), InnerB L w0.heap.size w0 W → w0.heap.size ≤ W.heap.size →
    (∀ k A B, J k A → InnerB L W.heap.size A B → J k B) →
    (∀ k W1, J k W1 → k < N → YieldAt Fence.wide 0 P l (xs k) W1 fun e W' => e = .returned (.bool true) ∧ J (k + 1) W' ∧ OuterB L b W1 W') →
    J 0 W → Calls P g (#[.func (.yield l) #[] #[]] ++ lb) W fun e W' => (∃ v, e = .returned v) ∧ J N W'

/-- What a round's body is asked for. -/
def roundPostB (L : TypeId → Bool) (b : Nat) (I : World → Prop) (W : World) (e : Exit) (_ : Act) (W' : World) : Prop := e = .normal ∧ I W' ∧ OuterB L b W W'

theorem wp_rangeFunc_b {P : Program} {g : Operand} {ps : Array Tmp} {assign body : Code} {Q : Exit → Act → World → Prop} {a : Act} {w : World}
    {gf : Nat} {lb : Array Value} (hg : a.eval g = .func (.func gf) #[] lb) (eg : ∀ args w, (callFunc gf args).run P w = .ok (.enter gf args) w)
    {N : Nat} {xs : Nat → Array Value} {w0 : World} (hseq : SeqB L b P gf lb N xs w0) (hb0 : Below w0.heap.size w0 w) (hps : ∀ k, (xs k).size = ps.size)
    (I : Nat → World → Prop) (hI : ∀ k A B, I k A → InnerB L w.heap.size A B → I k B) (hL : ∀ k A j o o', I k A → w.heap.size ≤ j → A.heap[j]? = some o → o.isCells = false → I k (A.putObj j o')) (h0 : I 0 w)
    (a₁ : Nat → Act)
    (hassign : ∀ (l : Nat) (k : Nat) (W : World) (K : Act → World → Prop), K (a₁ k) W →
      assign.wpIn (Fence.wide.inRound l) 0 P (Exit.then K (fun _ _ _ => False)) { tmps := (ps.zip (xs k)).foldl (fun t (p, v) => t.setIfInBounds p v) a.tmps, defers := [] } W)
    (hbody : ∀ (l : Nat) (k : Nat) (W : World), I k W → k < N → body.wpIn (Fence.wide.inRound l) 0 P (roundPostB L b (I (k + 1)) W) (a₁ k) W)
    (hdone : ∀ (D : Nat) (W : World), w.heap.size ≤ D → I N W → W.heap[D]? = some (.deferred (some [])) → Q .normal { a with defers := { target := .collected D, args := #[] } :: a.defers } W) :
    (Code.rangeFunc g ps assign body).wp P Q a w := by
  refine (wpIn_wide (n := 1)).1 (wpIn_rangeFunc ?_)
  intro fn hfn
  obtain ⟨rec, hrec⟩ : ∃ rec : LoopState → Option Code → Loop, rec = fun st pe => { state := st, pending := pe, fn, tmps := a.tmps, params := ps, assign, body, defers := w.heap.size } := ⟨_, rfl⟩
  obtain ⟨W1, hW1⟩ : ∃ W1, (w.alloc (.deferred (some []))).alloc (.loop (rec .ready none)) = W1 := ⟨_, rfl⟩
  have hL1 : W1.heap[w.heap.size + 1]? = some (.loop (rec .ready none)) := by
    rw [← hW1]; have := World.alloc_heap_new (w.alloc (.deferred (some []))) (.loop (rec .ready none)); rwa [World.size_alloc] at this
  have hK1 : W1.heap[w.heap.size]? = some (.deferred (some [])) := by
    rw [← hW1]; exact (Below.heap_alloc _ _ _ (by simp)).trans (World.alloc_heap_new w _)
  have hbW : Below w.heap.size w W1 := by rw [← hW1]; exact ((Below.refl _ w).alloc (Nat.le_refl _) _).alloc (by simp) _
  have hsz : W1.heap.size = w.heap.size + 1 + 1 := by rw [← hW1, World.size_alloc, World.size_alloc]
  have hI1 : I 0 W1 := hI _ _ _ h0 (InnerB.of_below hbW)
  have hb1 : Below w0.heap.size w0 W1 := hb0.trans (hbW.mono hb0.size)
  refine ⟨w.heap.size + 1, [{ target := .collected w.heap.size, args := #[] }], W1, { target := .fn (.func gf) lb, args := #[.func (.yield (w.heap.size + 1)) #[] #[]] }, W1, gf,
    #[.func (.yield (w.heap.size + 1)) #[] #[]] ++ lb, W1, ?_, ?_, ?_, ?_, fun _ => Nat.le_refl _, ?_⟩
  · rw [← hW1, hrec]; exact run_enterLoop_outer _ _ _ _ _
  · simp only [resolve, hg]
    simp [go_sem]
  · intro f' _; trivial
  · simp [invoke, go_sem, eg]
  · refine callsIn_wide.2 ((hseq (w.heap.size + 1)
      (fun k W => I k W ∧ W.heap[w.heap.size + 1]? = some (.loop (rec .ready none)) ∧ W.heap[w.heap.size]? = some (.deferred (some [])))
      W1 (InnerB.of_below hb1) hb1.size ?_ ?_ ⟨hI1, hL1, hK1⟩).mono ?_)
    · rintro k A B ⟨h1, h2, h3⟩ hAB
      exact ⟨hI k A B h1 (hAB.mono (by omega)), hAB.block _ _ h2 (.inr rfl), hAB.block _ _ h3 (.inr rfl)⟩
    · -- ONE ROUND
      rintro k W ⟨hi, hl, hk⟩ hlen
      have hlt : w.heap.size + 1 < W.heap.size := (Array.getElem?_eq_some_iff.1 hl).1
      have hy := run_yield (P := P) (args := xs k) hl (by rw [hrec]; exact hps k)
      rw [hrec] at hy
      refine ⟨fn, _, assign, body, hy, roundIn_of_wpIn hfn (hassign _ k W _ ?_)⟩
      clear hy
      refine ⟨_, run_beginRound hl (by rw [hrec]), ?_⟩
      have hl2 : (W.putObj (w.heap.size + 1) (.loop { rec .ready none with state := .busy })).heap[w.heap.size + 1]? = some (.loop { rec .ready none with state := .busy }) := World.putObj_heap_same hlt
      have hk2 : (W.putObj (w.heap.size + 1) (.loop { rec .ready none with state := .busy })).heap[w.heap.size]? = some (.deferred (some [])) := (World.putObj_heap_other (by omega)).trans hk
      refine wpIn_mono (hbody _ k _ (hL _ _ _ _ _ hi (by omega) hl rfl) hlen) ?_
      rintro e a3 W3 ⟨rfl, hi3, hout⟩
      have hl3 := hout.block _ _ hl2 (.inr rfl)
      have hk3 := hout.block _ _ hk2 (.inr rfl)
      have hend := run_endRound (P := P) none hl3
      refine ⟨_, _, hend, rfl, ⟨hL _ _ _ _ _ hi3 (by omega) hl3 rfl, ?_, (World.putObj_heap_other (by omega)).trans hk3⟩, ?_⟩
      · rw [hrec]
        exact World.putObj_heap_same (Array.getElem?_eq_some_iff.1 hl3).1
      · refine ⟨hout.os, hout.tape, hout.output, by rw [World.putObj_size]; have := hout.size; rwa [World.putObj_size] at this, fun j o hj ho => ?_⟩
        by_cases e : j = w.heap.size + 1
        · subst e
          rw [hl] at hj
          cases hj
          rw [hrec]
          exact World.putObj_heap_same (Array.getElem?_eq_some_iff.1 hl3).1
        · rw [World.putObj_heap_other e]
          exact hout.block j o ((World.putObj_heap_other e).trans hj) ho
    · rintro e W2 ⟨⟨v, rfl⟩, hi, hl, hk⟩
      exact ⟨none, _, by have := run_endLoop (P := P) hl (by rw [hrec]; simp); rw [hrec] at this; exact this, hdone _ _ (Nat.le_refl _) (hL _ _ _ _ _ hi (by omega) hl rfl) ((World.putObj_heap_other (by omega)).trans hk)⟩

/-! ### Regions of a round, by the plain walk -/

theorem operIn_of' {P : Program} (l : Nat) {o : Oper} {a : Act} {w : World} {next : Act → World → Prop} {Q : Exit → Act → World → Prop} (hd : ∀ c, o.op ≠ .defer c) (h : o.wp P a w next Q) :
    o.wpIn (Fence.wide.inRound l) 0 P a w next Q := by
  refine ⟨fun _ _ => trivial, ?_⟩
  have hs : (o.semAt (Fence.wide.inRound l).round a.eval) = execOp a.eval o := Oper.semAt_some l _ _ hd
  rw [hs]
  unfold Oper.wp at h
  generalize (execOp a.eval o).run P w = r at h
  match r, h with
  | .ok (.value v) w', h => exact h
  | .ok .skip w', h => exact h
  | .ok (.defer d) w', h => exact h
  | .ok (.enter f args) w', h => exact ⟨(fun e => by cases e), CallsIn.inRound l (callsIn_wide.2 h)⟩
  | .ok (.row row args) w', h =>
    refine ⟨(fun e => by cases e), fun c cs _ => ?_⟩
    obtain ⟨v, w'', hv, hs⟩ := h c cs
    exact ⟨v, w'', hv, stepsIn_wide.2 hs⟩
  | .halt (.panic v) w', h => exact h

/-- An operation that is no defer statement. -/
def plainOp' (o : Oper) : Bool := match o.op with | .defer _ => false | _ => true
theorem plainOp_ne' {o : Oper} (h : plainOp' o = true) : ∀ c, o.op ≠ .defer c := fun c e => by
  unfold plainOp' at h
  rw [e] at h
  cases h

theorem opsIn_of' {P : Program} (l : Nat) {ops : Array Oper} {Q : Exit → Act → World → Prop} (hd : ops.all plainOp' = true) (hQ : ¬ LetsOut Q) :
    ∀ (li : List Nat) (a : Act) (w : World), wpOps P ops Q li a w → wpOpsIn (Fence.wide.inRound l) 0 P ops Q li a w := by
  intro li
  induction li with
  | nil => exact fun a w h => h
  | cons i rest ih =>
    intro a w h
    simp only [wpOps] at h
    simp only [wpOpsIn]
    cases ho : ops[i]? with
    | none => rw [ho] at h; exact ih a w h
    | some o =>
      rw [ho] at h
      simp only at h ⊢
      have hp : plainOp' o = true := by
        obtain ⟨hi, e⟩ := Array.getElem?_eq_some_iff.1 ho
        rw [← e]
        exact (Array.all_eq_true.1 hd) i hi
      by_cases hw : Region.wanted o (yielded ops a.tmps) = true
      · rw [if_pos hw] at h ⊢
        rcases h with h | ⟨_, h⟩
        · exact operIn_of' l (plainOp_ne' hp) (Oper.wp_mono ih h)
        · exact absurd h hQ
      · rw [if_neg hw] at h ⊢
        exact ⟨fun _ _ => trivial, ih _ _ h⟩

/-- A plain region of a round. -/
theorem wpIn_round_list' {P : Program} (l : Nat) {id : Nat} {ops : List Oper} {Q : Exit → Act → World → Prop} {a : Act} {w : World} (hd : ops.toArray.all plainOp' = true) (hQ : ¬ LetsOut Q)
    (h : wpList P ops.toArray Q ops a w) : (Code.region id ops.toArray false).wpIn (Fence.wide.inRound l) 0 P Q a w := by
  refine wpIn_region (opsIn_of' l hd hQ _ _ _ ?_)
  rw [List.range_eq_range', ← Array.length_toList, wpOps_eq_wpList ops.toArray.toList 0 (by simp)]
  exact h

/-- A drawn region of a round whose last operations alone write. -/
theorem wpIn_round_tail' {P : Program} (l : Nat) {id : Nat} {Q : Exit → Act → World → Prop} {a : Act} {w : World} {ops : List Oper} (n : Nat) (hd : ops.toArray.all plainOp' = true) (hQ : ¬ LetsOut Q)
    (hm : P.follows .mixedOrders = true) (hB : Region.lexTailB .any ops.toArray n = true)
    (h : wpStill P ops.toArray { w with drawn := w.drawn + 1 } (fun a' => wpList P ops.toArray Q (ops.drop n) a' { w with drawn := w.drawn + 1 }) (ops.take n) a) : (Code.region id ops.toArray true).wpIn (Fence.wide.inRound l) 0 P Q a w := by
  refine wpIn_region_draw fun t => opsIn_of' l hd hQ _ _ _ ?_
  simp only [Region.schedule, hm, Bool.true_or, if_true]
  refine wpAny_sound ops.toArray.size t _ a _ ?_
  simp only [Region.lexTailB, Bool.and_eq_true, decide_eq_true_eq] at hB
  obtain ⟨⟨⟨⟨hsel, hn⟩, hs⟩, hc⟩, hlex⟩ := hB
  have hn' : n < ops.length := by simpa using hn
  have htl : (ops.take n).length = n := by simp; omega
  have hdl : (ops.drop n).length = ops.toArray.size - n := by simp
  have inv0 : HeadInv .any ops.toArray n (Array.replicate ops.toArray.size false) :=
    ⟨by simp, fun j oj _ hl => (by rw [getD_replicate_false] at hl; cases hl), fun t _ ht => getD_in (by simpa using ht) (getD_replicate_false _ _)⟩
  have H := wpAnyL_lex (md := .any) (g := ops.toArray.size - n) hsel hs hc hn (ops.take n) 0 _ a (fun j hj => by
    have hj' : j < n := by rw [htl] at hj; exact hj
    simp [hj']) (by simpa using htl) inv0 (by rw [htl]; exact hlex) h
  have := wpAny_of_head (Q' := Q) (g := ops.toArray.size - n) (fun listed a' hL => by
    have := wpAny_of_seq (md := .any) (Q' := Q) (ops.drop n) n listed a' { w with drawn := w.drawn + 1 } (fun j => by simp [List.getElem?_drop]) (by rw [hdl]; exact hL.1) hL.2
    rwa [hdl] at this) _ _ _ H
  rw [htl, show n + (ops.toArray.size - n) = ops.toArray.size by omega] at this
  exact this

theorem roundPostB_in {I : World → Prop} {W : World} : ¬ LetsOut (roundPostB L b I W) := fun ⟨_, _, h, _⟩ => by cases h
theorem roundPostB_block {I : World → Prop} {W : World} {id : Nat} : ¬ LetsOut (Exit.inBlock id (roundPostB L b I W)) := fun ⟨_, _, h⟩ => by
  simp only [Exit.inBlock] at h
  obtain ⟨h, _⟩ := h
  cases h

end

end Go.Proofs.YtlfgiggeeoegjaaDoor
