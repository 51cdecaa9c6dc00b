/-
  Worlds that are as before but for some blocks, and what lies above.
-/
import Derived.Test.YtapebaoajknepaaApart
import Derived.Test.YtapebaoajknepaaSeesV
namespace Go.Proofs.Ytapebaoajknepaa
open Go.RowKit
set_option linter.unusedVariables false

/-- But for the blocks of F, and what is new, w' is as w. -/
structure Beside (F : Nat → Prop) (w w' : World) : Prop where
  os : w'.os = w.os
  tape : w'.tape = w.tape
  output : w'.output = w.output
  size : w.heap.size ≤ w'.heap.size
  block : ∀ k, k < w.heap.size → ¬ F k → w'.heap[k]? = w.heap[k]?

theorem Beside.refl (F : Nat → Prop) (w : World) : Beside F w w := ⟨rfl, rfl, rfl, Nat.le_refl _, fun _ _ _ => rfl⟩
theorem Beside.of_below {F : Nat → Prop} {w w' : World} (h : Below w.heap.size w w') : Beside F w w' := ⟨h.os, h.tape, h.output, h.size, fun k hk _ => h.block k hk⟩
theorem Beside.trans {F : Nat → Prop} {a b c : World} (h : Beside F a b) (k : Beside F b c) : Beside F a c :=
  ⟨k.os.trans h.os, k.tape.trans h.tape, k.output.trans h.output, Nat.le_trans h.size k.size, fun i hi hF => (k.block i (Nat.lt_of_lt_of_le hi h.size) hF).trans (h.block i hi hF)⟩
theorem Beside.below {F : Nat → Prop} {a b c : World} (h : Beside F a b) (k : Below b.heap.size b c) : Beside F a c := h.trans (.of_below k)
/-- More blocks, among them such as are new. -/
theorem Beside.wide {F G : Nat → Prop} {a b c : World} (h : Beside F a b) (k : Beside G b c) (hG : ∀ i, G i → F i ∨ a.heap.size ≤ i) : Beside F a c :=
  ⟨k.os.trans h.os, k.tape.trans h.tape, k.output.trans h.output, Nat.le_trans h.size k.size, fun i hi hF => (k.block i (Nat.lt_of_lt_of_le hi h.size) (fun hg => by rcases hG i hg with h1 | h1; exact hF h1; omega)).trans (h.block i hi hF)⟩
theorem Beside.mono {F G : Nat → Prop} {a b : World} (h : Beside F a b) (hG : ∀ i, F i → G i) : Beside G a b := ⟨h.os, h.tape, h.output, h.size, fun i hi hg => h.block i hi fun hf => hg (hG i hf)⟩
theorem Beside.drew {F : Nat → Prop} {a b : World} (h : Beside F a b) : Beside F a b.drew := ⟨h.os, h.tape, h.output, h.size, h.block⟩
theorem Beside.setCell {F : Nat → Prop} {a b : World} (h : Beside F a b) {p : Addr} (hp : F p.block ∨ a.heap.size ≤ p.block) (v : Value) : Beside F a (b.setCell p v) :=
  ⟨h.os, h.tape, h.output, by have := h.size; simpa [World.setCell] using this, fun k hk hF => by
    rw [Below.heap_setCell _ _ _ _ (fun e => by subst e; rcases hp with h1 | h1; exact hF h1; omega)]
    exact h.block k hk hF⟩
theorem Beside.setRow {F : Nat → Prop} {a b : World} (h : Beside F a b) {p : Nat} (hp : F p ∨ a.heap.size ≤ p) (cs : Array Value) : Beside F a (b.setRow p cs) :=
  ⟨h.os, h.tape, h.output, by rw [setRow_size]; exact h.size, fun k hk hF => by
    rw [setRow_other _ _ _ _ (fun e => by subst e; rcases hp with h1 | h1; exact hF h1; omega)]
    exact h.block k hk hF⟩
theorem Beside.alloc {F : Nat → Prop} {a b : World} (h : Beside F a b) (o : Obj) : Beside F a (b.alloc o) := h.below ((Below.refl _ _).alloc (Nat.le_refl _) o)
theorem Beside.of_apart {F : Nat → Prop} {p : Nat} {a b : World} (h : Apart p a b) (hp : F p) : Beside F a b := by
  have h1 := h #[]
  refine ⟨h1.os, h1.tape, h1.output, h.size, fun k hk hF => ?_⟩
  have hne : k ≠ p := fun e => hF (e ▸ hp)
  have := h1.block k hk
  rwa [setRow_other _ _ _ _ hne, setRow_other _ _ _ _ hne] at this
theorem Beside.grown {F : Nat → Prop} {a b c : World} {row : Option Nat} (h : Beside F a b) (hg : b.grownBy c row) (hr : ∀ k, row = some k → F k ∨ a.heap.size ≤ k) : Beside F a c :=
  h.wide (G := fun k => row = some k) ⟨hg.os, hg.tape, hg.output, hg.size, fun k hk hne => hg.block k hk (fun e => hne e.symm)⟩ hr
theorem Beside.under {F : Nat → Prop} {B : Nat} {w w' : World} (h : Beside F w w') (hF : ∀ k, F k → B ≤ k) (hw : B ≤ w.heap.size) : Below B w w' :=
  ⟨h.os, h.tape, h.output, h.size, fun k hk => h.block k (by omega) (fun hf => by have := hF k hf; omega)⟩
theorem RowAt.beside {F : Nat → Prop} {w w' : World} {p : Nat} {t : TypeId} {cs : Array Value} (h : RowAt w p t cs) (hb : Beside F w w') (hp : ¬ F p) : RowAt w' p t cs := (hb.block p h.lt hp).trans h
theorem own_beside {F : Nat → Prop} {w w' : World} {base : Nat} {e : TypeId} {size : Nat} {v : Value} {n : Nat} {xs : List Value} (h : w.ownsRow base e size v n xs) (hb : Beside F w w') (hv : ∀ k, v.ownBlock = some k → ¬ F k) : w'.ownsRow base e size v n xs := by
  refine ⟨h.1, ?_⟩
  rcases h.2 with h2 | ⟨g, cap, cur, rfl, hg, hr, rest⟩
  · exact .inl h2
  · exact .inr ⟨g, cap, cur, rfl, hg, (hb.block g (Array.getElem?_eq_some_iff.1 hr).1 (hv g rfl)).trans hr, rest⟩
theorem SeesV.beside {F : Nat → Prop} {w w' : World} {a : Option Addr} {n : Nat} {G : Nat → Value} (h : SeesV w a n G) (hb : Beside F w w') (ha : ∀ ad, a = Option.some ad → ¬ F ad.block) : SeesV w' a n G :=
  h.kept fun ad e hl => ⟨Nat.lt_of_lt_of_le hl hb.size, hb.block _ hl (ha ad e)⟩

/-- Rows of unlike types lie in unlike blocks. -/
theorem RowAt.apart {w : World} {p q : Nat} {t u : TypeId} {cs ds : Array Value} (h : RowAt w p t cs) (k : RowAt w q u ds) (hne : t ≠ u) : p ≠ q := fun e => hne (by
  subst e
  unfold RowAt at h k
  rw [h] at k
  cases k
  rfl)
theorem RowAt.not_own {w : World} {p : Nat} {t e : TypeId} {cs : Array Value} {base size n : Nat} {v : Value} {xs : List Value} (h : RowAt w p t cs) (k : w.ownsRow base e size v n xs) (hne : t ≠ e) : v.ownBlock ≠ some p := by
  rcases k.2 with ⟨rfl, _⟩ | ⟨g, cap, cur, rfl, _, hr, _⟩
  · intro e; cases e
  · intro e1
    cases e1
    unfold RowAt at h
    rw [h] at hr
    cases hr
    exact hne rfl

end Go.Proofs.Ytapebaoajknepaa
