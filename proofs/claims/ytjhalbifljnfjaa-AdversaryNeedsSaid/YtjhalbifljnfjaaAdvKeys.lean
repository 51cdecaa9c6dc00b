/-
  Nodes as a map's keys; the map of the terms that were found.
-/
import Derived.Test.YtjhalbifljnfjaaAdvRows
import Derived.Maps.Own
import Derived.Maps.OwnSet
import Derived.Maps.OwnOps
import Derived.Maps.Views
import Derived.Maps.Keyed
import Derived.DeepKeys5
namespace Go.Proofs.Ytjhalbifljnfjaa
open Go.RowKit Go.Maps
set_option linter.unusedVariables false

theorem laidNode : laidOutB Try.prog = true := by kernel_rfl
theorem keyedNode : Keyed Try.prog 42 := Keyed.of_law (deep_law_gate laidNode (of_decide_eq_true (by kernel_rfl)) (of_decide_eq_true (by kernel_rfl)) (by kernel_rfl) (by kernel_rfl))
theorem zeroInt (w : World) : (zeroValue 3).run Try.prog w = .ok (.int .i64 0) w := Try.zeroValue3 w

theorem wf_million {z : Int} (h0 : 0 ≤ z) (h1 : z ≤ 1000000) : (Lit.int .i64 z).wf = true := by
  simp [Lit.wf, IntKind.min, IntKind.max, IntKind.signed, IntKind.bits]
  omega

/-- What a node reads as. -/
noncomputable def litN (o x y : Int) : Lit := (keyOf Try.prog 42 (.agg #[.int .i64 o, .int .i64 x, .int .i64 y])).getD (.bool false)
def SmallZ (z : Int) : Prop := 0 ≤ z ∧ z ≤ 1000000

theorem nodeFields : ∃ f0 f1 f2, Try.prog.underlying 42 = some (.struct #[f0, f1, f2]) ∧ f0.type = 3 ∧ f1.type = 3 ∧ f2.type = 3 ∧ f0.offset = 0 ∧ f1.offset = 1 ∧ f2.offset = 2 := ⟨_, _, _, Try.underlying42, by kernel_rfl, by kernel_rfl, by kernel_rfl, by kernel_rfl, by kernel_rfl, by kernel_rfl⟩
theorem nodeKey : Try.prog.keyType 42 = true := by kernel_rfl
theorem nodeCells : Try.prog.cellsOf 42 = 3 := by kernel_rfl
theorem intCells : Try.prog.cellsOf 3 = 1 := by kernel_rfl
theorem nodeNames : (match Try.prog.underlying 42 with | some (.struct fs) => fs.all (·.name != "_") | _ => false) = true := by kernel_rfl
theorem typesPos : ∃ m, Try.prog.types.size = m + 1 := ⟨Try.prog.types.size - 1, by
  have : 0 < Try.prog.types.size := of_decide_eq_true (by kernel_rfl)
  omega⟩

theorem keyLits_int (d : Nat) {z : Int} (h : SmallZ z) : Try.prog.keyLits (d + 1) 3 [.int .i64 z] = some [.int .i64 z] := by
  unfold Program.keyLits
  simp only [Try.underlying3]
  simp [wf_million h.1 h.2]

theorem keyOf_node {o x y : Int} (ho : SmallZ o) (hx : SmallZ x) (hy : SmallZ y) : keyOf Try.prog 42 (.agg #[.int .i64 o, .int .i64 x, .int .i64 y]) = some (litN o x y) := by
  have h : ∃ l, keyOf Try.prog 42 (.agg #[.int .i64 o, .int .i64 x, .int .i64 y]) = some l := by
    obtain ⟨f0, f1, f2, hu, t0, t1, t2, o0, o1, o2⟩ := nodeFields
    obtain ⟨m, hm⟩ := typesPos
    have hn := nodeNames
    rw [hu] at hn
    unfold keyOf
    simp only [hu]
    rw [if_pos (by simp [nodeKey, Value.formed, hu, nodeCells]), hm]
    unfold Program.keyLits
    simp only [hu, Value.cells]
    rw [if_pos ⟨by rw [nodeCells]; rfl, hn⟩]
    simp [t0, t1, t2, o0, o1, o2, intCells, keyLits_int m ho, keyLits_int m hx, keyLits_int m hy]
  obtain ⟨l, hl⟩ := h
  unfold litN
  rw [hl]
  rfl
theorem litN_key {o x y : Int} (ho : SmallZ o) (hx : SmallZ x) (hy : SmallZ y) : WideAt.IsKeyLit (litN o x y) := keyedNode.key (keyOf_node ho hx hy)
theorem litN_inj {o x y o' x' y' : Int} (ho : SmallZ o) (hx : SmallZ x) (hy : SmallZ y) (ho' : SmallZ o') (hx' : SmallZ x') (hy' : SmallZ y') (h : litN o x y = litN o' x' y') : o = o' ∧ x = x' ∧ y = y' := by
  have h1 := keyOf_node ho hx hy
  rw [h] at h1
  have h2 := keyedNode.inj h1 (keyOf_node ho' hx' hy')
  simpa using h2

/-- What the node of place i reads as, its parts named. -/
noncomputable def litA (K : Nds) (i : Nat) : Lit := litN (aliasN K i 0) (aliasN K i 1) (aliasN K i 2)
theorem alias_small {K : Nds} {n : Nat} (h : Wf K n) (hn : n ≤ 1000) {i : Nat} (hi : i < n) : SmallZ (aliasN K i 0) ∧ SmallZ (aliasN K i 1) ∧ SmallZ (aliasN K i 2) := by
  unfold SmallZ
  rw [alias_op]
  rcases h.kinds hi with ⟨a0, ⟨x, hx, a1⟩, a2⟩ | ⟨a0, x, y, hx, hy, a1, a2⟩
  · rw [alias_leaf K i 1 (made_leaf a0), alias_leaf K i 2 (made_leaf a0), a1, a2]
    omega
  · rw [alias_made K i 1 (made_yes a0) (by decide), alias_made K i 2 (made_yes a0) (by decide), a1, a2, Int.toNat_natCast, Int.toNat_natCast]
    have h1 := atN_lt (K := K) (i := x) (n := n) (by omega)
    have h2 := atN_lt (K := K) (i := y) (n := n) (by omega)
    have h3 := cnt_le K n
    omega
theorem litA_same {K : Nds} {n : Nat} (h : Wf K n) (hn : n ≤ 1000) {i j : Nat} (hi : i < n) (hj : j < n) : litA K i = litA K j ↔ tm K i = tm K j := by
  obtain ⟨a0, a1, a2⟩ := alias_small h hn hi
  obtain ⟨b0, b1, b2⟩ := alias_small h hn hj
  rw [← alias_same h hi hj]
  constructor
  · exact fun e => litN_inj a0 a1 a2 b0 b1 b2 e
  · rintro ⟨e0, e1, e2⟩
    unfold litA
    rw [e0, e1, e2]

abbrev OwnF (w : World) (b n : Nat) (D : DataW Unit) : Prop := w.ownsMap Try.prog 42 (plainElem Try.prog 3) b n D
/-- The map has the terms of the first k places, and where they are. -/
def Found (K : Nds) (n k : Nat) (D : DataW Unit) : Prop := ∀ i, i < n → (Maps.has D (litA K i) = true ↔ fst K i < k) ∧ (fst K i < k → ∀ z, D.atKey (litA K i) z = .lit (.int .i64 ((atN K i : Nat) : Int)))
theorem found_none (K : Nds) (n : Nat) : Found K n 0 (.map []) := fun i _ => ⟨⟨fun h => by simp [Maps.has] at h, fun h => absurd h (Nat.not_lt_zero _)⟩, fun h => absurd h (Nat.not_lt_zero _)⟩
theorem found_old {K : Nds} {n k : Nat} {D : DataW Unit} (h : Found K n k D) (hk : fst K k ≠ k) : Found K n (k + 1) D := fun i hi => by
  have e : fst K i < k + 1 ↔ fst K i < k := by
    constructor
    · intro h1
      by_cases e : fst K i = k
      · exact absurd (by rw [← e]; exact fst_fst K i) hk
      · omega
    · intro h1; omega
  rw [e]
  exact h i hi
theorem found_new {K : Nds} {n k : Nat} {D : DataW Unit} (hK : Wf K n) (hn : n ≤ 1000) (h : Found K n k D) (hD : IsMap D) (hk : k < n) (hf : fst K k = k) : Found K n (k + 1) (D.put (litA K k) (.lit (.int .i64 ((cnt K k : Nat) : Int)))) := fun i hi => by
  obtain ⟨a0, a1, a2⟩ := alias_small hK hn hk
  by_cases e : tm K i = tm K k
  · have el := (litA_same hK hn hi hk).2 e
    have ef : fst K i = k := by rw [(fst_same K i k).2 e]; exact hf
    have ea : atN K i = cnt K k := by unfold atN; rw [ef]
    rw [el, ea]
    refine ⟨⟨fun _ => by omega, fun _ => has_put_same hD (litN_key a0 a1 a2) _⟩, fun _ z => ?_⟩
    exact atKey_put_same hD (litN_key a0 a1 a2) _ _
  · have el : litA K i ≠ litA K k := fun x => e ((litA_same hK hn hi hk).1 x)
    have ef : fst K i < k + 1 ↔ fst K i < k := by
      constructor
      · intro h1
        by_cases e2 : fst K i = k
        · exfalso
          apply e
          rw [← fst_tm K i, e2]
        · omega
      · intro h1; omega
    rw [has_put_other el, ef]
    refine ⟨(h i hi).1, fun h1 z => ?_⟩
    rw [atKey_put_other el]
    exact (h i hi).2 h1 z

/-- v, ok := found[x], at the operation. -/
theorem run_found {w : World} {b n : Nat} {D : DataW Unit} (hown : OwnF w b n D) {o x y : Int} (ho : SmallZ o) (hx : SmallZ x) (hy : SmallZ y) {c : Int} {h : Bool} (hh : Maps.has D (litN o x y) = h) (hat : D.atKey (litN o x y) (.lit (.int .i64 0)) = .lit (.int .i64 c)) {op : Oper} {a : Act} {m u : Operand} (hop : op.op = .lookup 67 m u true) (hm : a.eval m = .map (some b)) (hu : a.eval u = .agg #[.int .i64 o, .int .i64 x, .int .i64 y]) :
    (execOp a.eval op).run Try.prog w = .ok (.value (.tuple #[.int .i64 c, .bool h])) w := by
  obtain ⟨v, ps, hrun, hv⟩ := hown.look_ok keyedNode Try.underlying67 (zeroInt w) (plainElem_int (H := Unit) Try.underlying3 (by decide)) (keyOf_node ho hx hy)
  obtain ⟨c', rfl, hc, _⟩ := plainElem_int_inv Try.underlying3 hv
  have hc1 : D.atKey (litN o x y) (.lit (.int .i64 0)) = .lit (.int .i64 c') := congrArg Prod.fst hc
  have e : c' = c := by
    rw [hat] at hc1
    simpa using hc1.symm
  subst e
  rw [hh] at hrun
  simp [execOp, hop, hm, hu, hrun, Result.andThen]

/-- A row that the call owns is no map. -/
theorem own_map_ne {w : World} {b n b1 s n1 : Nat} {e : TypeId} {D : DataW Unit} {v : Value} {xs : List Value} (hm : OwnF w b n D) (h : w.ownsRow b1 e s v n1 xs) : v.ownBlock ≠ some b := by
  intro e1
  obtain ⟨es, clock, hb, _⟩ := hm
  rcases h.2 with ⟨rfl, _⟩ | ⟨g, cap, cur, rfl, _, hr, _⟩
  · cases e1
  · have : g = b := by simpa [Value.ownBlock] using e1
    subst this
    rw [hb] at hr
    cases hr
theorem own_map_after {w w' : World} {b n : Nat} {D : DataW Unit} (h : OwnF w b n D) (hb : Below w.heap.size w w') : OwnF w' b n D := by
  have hl := h.lt
  obtain ⟨es, clock, h1, F, hs, hD⟩ := h
  exact ⟨es, clock, (hb.block b hl).trans h1, F, hs, hD⟩
theorem own_map_apart {p : Nat} {w w' : World} {b n : Nat} {D : DataW Unit} (h : OwnF w b n D) (ha : Apart p w w') (hp : b ≠ p) : OwnF w' b n D := by
  have hl := h.lt
  obtain ⟨es, clock, h1, F, hs, hD⟩ := h
  refine ⟨es, clock, ?_, F, hs, hD⟩
  have h2 := (ha #[]).block b hl
  rw [setRow_other _ _ _ _ hp, setRow_other _ _ _ _ hp] at h2
  rw [h2]
  exact h1

end Go.Proofs.Ytjhalbifljnfjaa
