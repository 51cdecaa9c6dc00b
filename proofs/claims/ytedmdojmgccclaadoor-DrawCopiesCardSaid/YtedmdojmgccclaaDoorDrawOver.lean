/-
  Slices of keys that are written over; keys appended to nothing.
-/
import Derived.Test.YtedmdojmgccclaaDoorDrawTold
import Derived.Test.YtedmdojmgccclaaDoorDrawOpen
namespace Go.Proofs.YtedmdojmgccclaaDoor
open Go.RowKit

/-- The cells of a slice of n keys may be written over. -/
def OverK (w : World) (a : Option Addr) (n : Nat) : Prop := (0 < n → ∃ g, a = some ⟨g, 0, none⟩) ∧ ∀ g, a = some ⟨g, 0, none⟩ → ∃ L F, n * 16 ≤ L ∧ RowAt w g 27 (rowOf L F)

theorem OverK.after {w w' : World} {a : Option Addr} {n : Nat} (h : OverK w a n) (hb : Below w.heap.size w w') : OverK w' a n := ⟨h.1, fun g e => by
  obtain ⟨L, F, hl, hr⟩ := h.2 g e
  exact ⟨L, F, hl, hr.below hb hr.lt⟩⟩
theorem OverK.apart {p : Nat} {w w' : World} {a : Option Addr} {n : Nat} (h : OverK w a n) (hb : Apart p w w') (hp : ∀ g, a = some ⟨g, 0, none⟩ → g ≠ p) : OverK w' a n := ⟨h.1, fun g e => by
  obtain ⟨L, F, hl, hr⟩ := h.2 g e
  exact ⟨L, F, hl, hb.row hr (hp g e)⟩⟩
theorem OverK.far {q : Nat} {w : World} {a : Option Addr} {n : Nat} (h : OverK w a n) (cs : Array Value) (hq : ∀ g, a = some ⟨g, 0, none⟩ → g ≠ q) : OverK (w.setRow q cs) a n := ⟨h.1, fun g e => by
  obtain ⟨L, F, hl, hr⟩ := h.2 g e
  exact ⟨L, F, hl, hr.setRowOther q cs (hq g e)⟩⟩
theorem OverK.self {w : World} {n g L : Nat} {F G : Nat → Value} (hr : RowAt w g 27 (rowOf L F)) (hl : n * 16 ≤ L) {a : Option Addr} (ha : a = some ⟨g, 0, none⟩) : OverK (w.setRow g (rowOf L G)) a n := ⟨fun _ => ⟨g, ha⟩, fun g' e => by
  rw [ha] at e
  cases e
  exact ⟨L, G, hl, hr.setRow _⟩⟩

theorem row_any (cs : Array Value) : cs = rowOf cs.size (fun j => cs[j]?.getD (.int .u8 0)) := by
  apply Array.ext
  · rw [rowOf_size]
  · intro j h1 h2
    have e := rowOf_get cs.size (fun j => cs[j]?.getD (.int .u8 0)) j h1
    rw [Array.getElem?_eq_getElem h2] at e
    rw [Option.some.inj e, Array.getElem?_eq_getElem h1]
    rfl

/-- Keys that the call owns may be written over. -/
theorem own_over {w : World} {base : Nat} {v : Value} {n : Nat} {xs : List Value} (h : w.ownsRow base 27 16 v n xs) : ∃ a c, v = .slice a n c ∧ OverK w a n ∧ ∀ g, a = some ⟨g, 0, none⟩ → base ≤ g ∧ g < w.heap.size := by
  rcases h.2 with ⟨rfl, rfl⟩ | ⟨g, cap, cur, rfl, hg, hr, hc, _, hs, _⟩
  · exact ⟨none, 0, rfl, ⟨fun h => by omega, fun g e => by cases e⟩, fun g e => by cases e⟩
  · have hR : RowAt w g 27 cur := hr
    refine ⟨some ⟨g, 0, none⟩, cap, rfl, ⟨fun _ => ⟨g, rfl⟩, fun g' e => ?_⟩, fun g' e => ?_⟩
    · cases e
      exact ⟨cur.size, _, by rw [hs]; exact Nat.mul_le_mul_right 16 hc, hR.congr (row_any cur)⟩
    · cases e
      exact ⟨hg, hR.lt⟩

theorem elA_at {a : Option Addr} {g : Nat} (h : a = some ⟨g, 0, none⟩) (i : Nat) : elA a i = ⟨g, i * 16, none⟩ := by
  subst h
  show (⟨g, 0, none⟩ : Addr).add (i * 16) = _
  rw [addr_add, Nat.zero_add]

/-- append([]api.Key{}, l...). -/
theorem wpList_append_keys {ops : Array Oper} {rest : List Oper} {o : Oper} {a : Act} {w : World} {Q : Exit → Act → World → Prop} (hgd : o.guard = none) (s x : Operand)
    (ho : o.op = .call { callee := .builtin .append, args := #[s, x], argTypes := #[22, 22] }) (base : Nat) (v : Value) (hs : a.eval s = v) (hown : w.ownsRow base 27 16 v 0 []) (hbase : base ≤ w.heap.size)
    (al : Option Addr) (n c : Nat) (hx : a.eval x = .slice al n c) (K : Nat → Nat → Nat) (hK : SeesK w al n K) (hn : n ≤ 1000000) (hnil : al = none → c = 0)
    (h : ∀ v' w', w'.ownsRow base 27 16 v' n (keyL n K) → w.grownBy w' v.ownBlock → wpList Tryd.prog ops Q rest (a.put o.dst v') w') : wpList Tryd.prog ops Q (o :: rest) a w := by
  obtain ⟨i0, hi, hz0, hz1, hz2⟩ := info_parts Tryd.infoKey
  cases al with
  | none =>
    have h0 : n = 0 := by
      rcases Nat.eq_zero_or_pos n with h | h
      · exact h
      · obtain ⟨ad, e, _⟩ := hK.some h
        cases e
    subst h0
    have hc := hnil rfl
    subst hc
    exact wpList_append_own_none hgd s x 22 ho base 27 i0 16 Tryd.underlying22 hi v 0 [] hs hown hx (h v w hown (World.grownBy.refl w _))
  | some ad =>
    refine wpList_append_own_at w hgd s x 22 ho base 27 i0 (.agg (rowOf 16 (w8 zeroN))) 16 16 Tryd.underlying22 hi hz0 hz1 hz2 rfl (by decide) v 0 [] hs hown ad n c (keyL n K) hx (keyL_length n K) ?_ (keyL_one n K) (by unfold maxLen; omega) (by omega) hbase ?_
    · intro j u hj
      have hl : j < n * 16 := by
        have := (List.getElem?_eq_some_iff.1 hj).1
        rwa [keyL_length] at this
      obtain ⟨ad', e, _, hc⟩ := hK j hl
      cases e
      rw [keyL_get n K j hl] at hj
      rw [hc]
      exact hj
    · intro v' w' h1 h2 _ _
      rw [List.nil_append, Nat.zero_add] at h1
      exact h v' w' h1 h2

def nineN : Nat → Nat := fun j => if j < 3 then 9 else 0
def eightN : Nat → Nat := fun j => if j < 3 then 8 else 0

end Go.Proofs.YtedmdojmgccclaaDoor
