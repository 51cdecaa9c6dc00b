/-
  Texts appended in a region that draws its order: what is told of the values, what is kept (made of XAdvNeedsMath, XAdvNeedsRely by gen10app.py).
-/
import Derived.Test.YtogeccmeaacgnaaNandHistory
import Derived.Test.YtogeccmeaacgnaaNandTurn
import Derived.Test.YtogeccmeaacgnaaRely
import Derived.Maps.AppendAt
import Derived.Laws.AppendOwnNone
import Derived.Maps.Own
import Derived.Maps.OwnSet
import Derived.Maps.OwnOps
import Derived.Maps.Views
import Derived.Maps.Keyed
namespace Go.Proofs.Ytogeccmeaacgnaa
open Go.RowKit
set_option linter.unusedVariables false

/-- One text behind k. -/
def snocS (f : Nat → ByteArray) (k : Nat) (s : ByteArray) : Nat → ByteArray := fun j => if j = k then s else f j
theorem cellS_snoc (m : Nat) (f : Nat → ByteArray) (s : ByteArray) : cellL m (strV f) ++ [Value.string s] = cellL (m + 1) (strV (snocS f m s)) := by
  rw [← cellL_succ]
  congr 1
  · refine cellL_congr fun j hj => ?_
    unfold strV snocS
    rw [if_neg (by omega)]
  · unfold strV snocS
    rw [if_pos rfl]

theorem append_firstS (w : World) (B q : Nat) (ty : TypeId) (hq : RowAt w q 9 #[]) (hBq : B ≤ q) (hB : B ≤ w.heap.size) (ak : Option Addr) (k ck : Nat) (f : Nat → ByteArray) (hf : SeesV w ak k (strV f)) (hnil : ak = none → ck = 0) (hk : k ≤ 1000000) :
    ∃ v' w', (Builtin.append_ #[34, 34] ty #[.slice (some ⟨q, 0, none⟩) 0 0, .slice ak k ck]).run Try.prog w = .ok v' w' ∧ w'.ownsRow B 9 1 v' k (cellL k (strV f)) ∧ Below w.heap.size w w' := by
  obtain ⟨i0, hi, hz0, hz1, hz2⟩ := info_parts infoStr'
  have own0 : w.ownsRow B 9 1 (.slice (some ⟨q, 0, none⟩) 0 0) 0 [] := ⟨rfl, .inr ⟨q, 0, #[], rfl, hBq, hq, Nat.le_refl _, by decide, rfl, rfl⟩⟩
  cases ak with
  | none =>
    have h0 : k = 0 := by
      rcases Nat.eq_zero_or_pos k with h | h
      · exact h
      · obtain ⟨ad, e, _⟩ := SeesV.some hf h
        cases e
    subst h0
    have hc := hnil rfl
    subst hc
    exact ⟨_, w, run_append_owned_none (P := Try.prog) (w := w) B 34 ty 9 i0 1 Try.underlying34 hi _ 0 [] own0, own0, Below.refl _ _⟩
  | some ad =>
    have hnews : ∀ j u, (cellL k (strV f))[j]? = some u → w.cell? (ad.add j) = some u := by
      intro j u hj
      have hl : j < k := by
        have := (List.getElem?_eq_some_iff.1 hj).1
        rwa [cellL_length] at this
      obtain ⟨ad', e, _, hc⟩ := hf j hl
      cases e
      rw [cellL_get k _ j hl] at hj
      rw [hc]
      exact hj
    have h1 := cellL_one (n := k) (F := strV f) (fun j => rfl)
    obtain ⟨v', w', hr, h2, h3, _⟩ := run_append_own (P := Try.prog) w B 34 ty 9 i0 (.string ⟨#[]⟩) 1 16 Try.underlying34 hi hz0 hz1 hz2 rfl (by decide) _ 0 [] own0 ad k ck (cellL k (strV f)) (by rw [cellL_length, Nat.mul_one]) hnews h1 (by unfold maxLen; omega) (by omega) hB
    rw [List.nil_append, Nat.zero_add] at h2
    refine ⟨v', w', hr, h2, ?_⟩
    by_cases h0 : k = 0
    · subst h0
      have hr2 := run_append_room_cells (P := Try.prog) (w := w) 34 ty 9 i0 Try.underlying34 hi q 0 0 0 ad 0 ck [] (by simp) (by simp) (by simp) (by omega) (by simp) (by simp)
      rw [hr] at hr2
      cases hr2
      exact Below.refl _ _
    · have hr2 := run_append_grow (P := Try.prog) w 34 ty 9 i0 (.string ⟨#[]⟩) Try.underlying34 hi hz0 ⟨q, 0, none⟩ 0 0 [] (by simp) (by simp) ad k ck (cellL k (strV f)) (by rw [hz1, cellL_length, Nat.mul_one]) hnews (by omega) (by omega) (growslice_fits (by omega) (by rw [hz2]; omega))
      rw [hr] at hr2
      cases hr2
      exact (Below.refl _ _).drew.alloc (by simp) _

/-- What a number appended to its row leaves as it was. -/
def KeepS (B k : Nat) (f : Nat → ByteArray) (z : ByteArray) (w w' : World) : Prop :=
  (∀ q, RowAt w q 9 #[] → RowAt w' q 9 #[]) ∧ (∀ q, RowAt w q 9 #[.string z] → RowAt w' q 9 #[.string z]) ∧ (∀ u, w.ownsRow B 9 1 u k (cellL k (strV f)) → w'.ownsRow B 9 1 u k (cellL k (strV f))) ∧
  (∀ u, w.ownsRow B 9 1 u (k + 1) (cellL (k + 1) (strV (snocS f k z))) → w'.ownsRow B 9 1 u (k + 1) (cellL (k + 1) (strV (snocS f k z))))
theorem KeepS.of {B k : Nat} {f : Nat → ByteArray} {z : ByteArray} {w w' : World} (hb : Below w.heap.size w w') : KeepS B k f z w w' :=
  ⟨fun q h => h.below hb h.lt, fun q h => h.below hb h.lt, fun u h => own_onto h hb, fun u h => own_onto h hb⟩

theorem append_keepsS (w : World) (B m q : Nat) (v : Value) (f : Nat → ByteArray) (z : ByteArray) (ty : TypeId) (hown : w.ownsRow B 9 1 v m (cellL m (strV f))) (hq : RowAt w q 9 #[.string z]) (hm : m ≤ 1000000) (hB : B ≤ w.heap.size) :
    ∃ v' w', (Builtin.append_ #[34, 34] ty #[v, .slice (some ⟨q, 0, none⟩) 1 1]).run Try.prog w = .ok v' w' ∧ w'.ownsRow B 9 1 v' (m + 1) (cellL (m + 1) (strV (snocS f m z))) ∧ w.grownBy w' v.ownBlock ∧ KeepS B m f z w w' := by
  obtain ⟨i0, hi, hz0, hz1, hz2⟩ := info_parts infoStr'
  have hnews : ∀ j u, [Value.string z][j]? = some u → w.cell? ((⟨q, 0, none⟩ : Addr).add j) = some u := by
    intro j u hj
    rw [addr_add, Nat.zero_add, cell_of_row w q j #[.string z] _ (0, 0) hq]
    simpa using hj
  have h1 : ∀ u ∈ [Value.string z], u.oneCell' = true := fun u hu => by simp at hu; subst hu; rfl
  obtain ⟨v', w', hr, h2, h3, _⟩ := run_append_own (P := Try.prog) w B 34 ty 9 i0 (.string ⟨#[]⟩) 1 16 Try.underlying34 hi hz0 hz1 hz2 rfl (by decide) v m (cellL m (strV f)) hown ⟨q, 0, none⟩ 1 1 [.string z] rfl hnews h1 (by unfold maxLen; omega) (by omega) hB
  rw [cellS_snoc] at h2
  refine ⟨v', w', hr, h2, h3, ?_⟩
  rcases hown.2 with ⟨rfl, rfl⟩ | ⟨g, cap, cur, rfl, hg, hrow, hc, hcm, hcs, htake⟩
  · refine KeepS.of ⟨h3.os, h3.tape, h3.output, h3.size, fun j hj => h3.block j hj (by simp [Value.ownBlock])⟩
  · by_cases hroom : m + 1 ≤ cap
    · have hr2 := run_append_room (P := Try.prog) w 34 ty 9 i0 Try.underlying34 hi g m cap cur hrow ⟨q, 0, none⟩ 1 1 [.string z] (by rw [hz1]; rfl) hnews h1 hroom (by rw [hz1]; simp; omega)
      rw [hr] at hr2
      cases hr2
      rw [hz1] at *
      have hset : RowAt (w.setRow g ((List.take (m * 1) cur.toList ++ [Value.string z]) ++ List.drop (m * 1 + [Value.string z].length) cur.toList).toArray) g 9 ((List.take (m * 1) cur.toList ++ [Value.string z]) ++ List.drop (m * 1 + [Value.string z].length) cur.toList).toArray := setRow_heap w g cur _ _ _ hrow
      have hsz : cur.toList.length = cap * 1 := by simpa using hcs
      have e1 : (List.take (m * 1) cur.toList).length = m := by simp; omega
      have keep : ∀ u n xs, w.ownsRow B 9 1 u n xs → (cur.toList.take (n * 1) = xs → ((List.take (m * 1) cur.toList ++ [Value.string z]) ++ List.drop (m * 1 + [Value.string z].length) cur.toList).take (n * 1) = xs) → (w.setRow g ((List.take (m * 1) cur.toList ++ [Value.string z]) ++ List.drop (m * 1 + [Value.string z].length) cur.toList).toArray).ownsRow B 9 1 u n xs := by
        intro u n xs hu he
        by_cases hne : u.ownBlock = none ∨ u.ownBlock ≠ (Value.slice (some ⟨g, 0, none⟩) m cap).ownBlock
        · exact hu.kept h3 hne
        · rcases hu.2 with ⟨rfl, _⟩ | ⟨g', cap', cur', rfl, hg', hrow', hc', hcm', hcs', htake'⟩
          · exact absurd (.inl rfl) hne
          · have eg : g' = g := by
              by_cases e : g' = g
              · exact e
              · exact absurd (.inr (by simp [Value.ownBlock, e])) hne
            subst eg
            rw [hrow] at hrow'
            cases hrow'
            refine ⟨hu.1, .inr ⟨g', cap', _, rfl, hg', hset, hc', hcm', ?_, ?_⟩⟩
            · simp at hsz hcs' ⊢; omega
            · exact he htake'
      have rows : ∀ (cs : Array Value) (p : Nat), (cs = cur → ((List.take (m * 1) cur.toList ++ [Value.string z]) ++ List.drop (m * 1 + [Value.string z].length) cur.toList).toArray = cs) → RowAt w p 9 cs → RowAt (w.setRow g ((List.take (m * 1) cur.toList ++ [Value.string z]) ++ List.drop (m * 1 + [Value.string z].length) cur.toList).toArray) p 9 cs := by
        intro cs p he hp
        by_cases e : p = g
        · subst e
          have hp' := hp
          unfold RowAt at hp'
          rw [hrow] at hp'
          cases hp'
          have := hset
          rw [he rfl] at this
          rw [he rfl]
          exact this
        · have := h3.block p hp.lt (by simp [Value.ownBlock]; exact e)
          exact this.trans hp
      refine ⟨fun p hp => rows _ p (fun e => ?_) hp, fun p hp => rows _ p (fun e => ?_) hp, fun u hu => keep u _ _ hu fun _ => ?_, fun u hu => keep u _ _ hu fun _ => ?_⟩
      · rw [← e] at hsz
        simp at hsz
        omega
      · rw [← e] at hsz ⊢
        simp at hsz
        have : m = 0 := by omega
        subst this
        simp
      · rw [List.append_assoc, List.take_append_of_le_length (by omega), List.take_of_length_le (by omega), htake]
      · rw [List.take_append_of_le_length (by simp; omega), List.take_of_length_le (by simp; omega), htake, cellS_snoc]
    · have hr2 := run_append_grow (P := Try.prog) w 34 ty 9 i0 (.string ⟨#[]⟩) Try.underlying34 hi hz0 ⟨g, 0, none⟩ m cap (cellL m (strV f)) (by rw [hz1]; exact hown.1) (hown.cells (g := g) rfl) ⟨q, 0, none⟩ 1 1 [.string z] (by rw [hz1]; rfl) hnews (by omega) (by omega) (growslice_fits (by omega) (by rw [hz2]; omega))
      rw [hr] at hr2
      cases hr2
      exact KeepS.of ((Below.refl _ _).drew.alloc (by simp) _)

def emptys (B : Nat) : Pred := fun v w => ∃ q, v = .slice (some ⟨q, 0, none⟩) 0 0 ∧ B ≤ q ∧ RowAt w q 9 #[]
def ones (z : ByteArray) : Pred := fun v w => ∃ q, v = .slice (some ⟨q, 0, none⟩) 1 1 ∧ RowAt w q 9 #[.string z]
def owns (B k : Nat) (f : Nat → ByteArray) : Pred := fun v w => w.ownsRow B 9 1 v k (cellL k (strV f))

/-- What is kept by all that goes on above, and by a number appended to its row. -/
def KeptS (B k : Nat) (f : Nat → ByteArray) (z : ByteArray) (R : List Pred) : Prop := ∀ i v w w', KeepS B k f z w w' → predAt R i v w → predAt R i v w'
section
variable {B k : Nat} {f : Nat → ByteArray} {z : ByteArray}
theorem KeptS.nil : KeptS B k f z [] := fun i v w w' _ h => by cases i <;> exact h
theorem KeptS.cons {r : Pred} {R : List Pred} (h : ∀ v w w', KeepS B k f z w w' → r v w → r v w') (hR : KeptS B k f z R) : KeptS B k f z (r :: R) := fun i v w w' hb hr => by
  cases i with
  | zero => exact h v w w' hb hr
  | succ i => exact hR i v w w' hb hr
theorem kept_eqv (V : Value) : ∀ v w w', KeepS B k f z w w' → eqv V v w → eqv V v w' := fun _ _ _ _ h => h
theorem kept_emptys : ∀ v w w', KeepS B k f z w w' → emptys B v w → emptys B v w' := fun v w w' h ⟨q, h1, h2, h3⟩ => ⟨q, h1, h2, h.1 q h3⟩
theorem kept_ones : ∀ v w w', KeepS B k f z w w' → ones z v w → ones z v w' := fun v w w' h ⟨q, h1, h2⟩ => ⟨q, h1, h.2.1 q h2⟩
theorem kept_owns : ∀ v w w', KeepS B k f z w w' → owns B k f v w → owns B k f v w' := fun v w w' h h1 => h.2.2.1 v h1
theorem kept_owns1 : ∀ v w w', KeepS B k f z w w' → owns B (k + 1) (snocS f k z) v w → owns B (k + 1) (snocS f k z) v w' := fun v w w' h h1 => h.2.2.2 v h1
theorem KeptS.steady {R : List Pred} (h : KeptS B k f z R) : Steady R := fun i v w w' hb hr => h i v w w' (KeepS.of hb) hr

theorem wp_region_keptS {P : Program} {a0 : Act} {id : Nat} {Q : Exit → Act → World → Prop} {w : World} {l : List Oper} (C : World → Prop) (rs : List Pred) (hm : P.follows .mixedOrders = true) (hB : relyB l.toArray = true) (hC : C w.drew) (hst : KeptS B k f z rs)
    (h : ∀ R, KeptS B k f z R → wpRely P l.toArray C R (fun a w => Q .normal a w) l rs [] a0) : (Code.region id l.toArray true).wp P Q a0 w :=
  wp_region_rely C rs hm hB hC (h rs hst)

variable {ops : Array Oper} {R : List Pred} {o : Oper} {a : Act} {w w0 : World}
theorem grows_emptys (hR : KeptS B k f z R) (hC : Below w0.heap.size w0 w) (hBB : B = w0.heap.size) (hw : Region.wanted o (yielded ops a.tmps) = true)
    (hv : (execOp a.eval o).run Try.prog w = .ok (.value (.slice (some ⟨w.heap.size, 0, none⟩) 0 0)) (w.alloc (.cells #[] 9))) : growsAt Try.prog ops o a w fun v w' => Below w0.heap.size w0 w' ∧ emptys B v w' ∧ Keeps R w w' :=
  have b : Below w.heap.size w (w.alloc (.cells #[] 9)) := (Below.refl _ _).alloc (Nat.le_refl _) _
  grows_new hw hv ⟨w.heap.size, rfl, by rw [hBB]; exact hC.size, RowAt.new _ _ _⟩ (hC.trans (b.mono hC.size)) fun i v h => hR.steady i v _ _ b h
theorem grows_ones (hR : KeptS B k f z R) (hC : Below w0.heap.size w0 w) (hw : Region.wanted o (yielded ops a.tmps) = true)
    (hv : (execOp a.eval o).run Try.prog w = .ok (.value (.slice (some ⟨w.heap.size, 0, none⟩) 1 1)) (w.alloc (.cells #[.string z] 9))) : growsAt Try.prog ops o a w fun v w' => Below w0.heap.size w0 w' ∧ ones z v w' ∧ Keeps R w w' :=
  have b : Below w.heap.size w (w.alloc (.cells #[.string z] 9)) := (Below.refl _ _).alloc (Nat.le_refl _) _
  grows_new hw hv ⟨w.heap.size, rfl, RowAt.new _ _ _⟩ (hC.trans (b.mono hC.size)) fun i v h => hR.steady i v _ _ b h
theorem grows_app1 (hR : KeptS B k f z R) (hC : Below w0.heap.size w0 w) (hBB : B = w0.heap.size) (hw : Region.wanted o (yielded ops a.tmps) = true) {s x : Operand} (ho : o.op = .call { callee := .builtin .append, args := #[s, x], argTypes := #[34, 34] })
    {v : Value} (hs : a.eval s = v) (hv : emptys B v w) {ak : Option Addr} {ck : Nat} (hx : a.eval x = .slice ak k ck) (hf : SeesV w0 ak k (strV f)) (hnil : ak = none → ck = 0) (hk : k ≤ 1000000) :
    growsAt Try.prog ops o a w fun v w' => Below w0.heap.size w0 w' ∧ owns B k f v w' ∧ Keeps R w w' := by
  obtain ⟨q, rfl, hBq, hq⟩ := hv
  obtain ⟨v', w', hr, h1, h2⟩ := append_firstS w B q o.type hq hBq (by rw [hBB]; exact hC.size) ak k ck f (SeesV.after hf hC) hnil hk
  refine grows_new (v := v') (w' := w') hw ?_ h1 (hC.trans (h2.mono hC.size)) fun i u h => hR.steady i u _ _ h2 h
  unfold execOp
  simp only [ho, resolve, invoke, builtin, Sem.run_bind, Sem.run_pure, Result.andThen_ok, List.map_toArray, List.map_cons, List.map_nil, hs, hx, hr]
theorem grows_app2 (hR : KeptS B k f z R) (hC : Below w0.heap.size w0 w) (hBB : B = w0.heap.size) (hw : Region.wanted o (yielded ops a.tmps) = true) {s x : Operand} (ho : o.op = .call { callee := .builtin .append, args := #[s, x], argTypes := #[34, 34] })
    {v u : Value} (hs : a.eval s = v) (hv : owns B k f v w) (hx : a.eval x = u) (hu : ones z u w) (hk : k ≤ 1000000) :
    growsAt Try.prog ops o a w fun v w' => Below w0.heap.size w0 w' ∧ owns B (k + 1) (snocS f k z) v w' ∧ Keeps R w w' := by
  obtain ⟨q, rfl, hq⟩ := hu
  obtain ⟨v', w', hr, h1, h2, h3⟩ := append_keepsS w B k q v f z o.type hv hq hk (by rw [hBB]; exact hC.size)
  refine grows_new (v := v') (w' := w') hw ?_ h1 ?_ fun i u h => hR i u _ _ h3 h
  · unfold execOp
    simp only [ho, resolve, invoke, builtin, Sem.run_bind, Sem.run_pure, Result.andThen_ok, List.map_toArray, List.map_cons, List.map_nil, hs, hx, hr]
  · exact hC.grown h2 hC.size (fun g hg => by rw [← hBB]; exact (World.ownsRow.lt hv g hg).1)
end

end Go.Proofs.Ytogeccmeaacgnaa
