/-
  AdversaryNeeds: which keys would tell more; numbers counted in a map; numbers appended where the order is drawn.
-/
import Derived.Test.YtjhalbifljnfjaaAdvLock
import Derived.Test.YtjhalbifljnfjaaRely
import Derived.Maps.Own
import Derived.Maps.OwnSet
import Derived.Maps.OwnOps
import Derived.Maps.Views
import Derived.Maps.Keyed
namespace Go.Proofs.Ytjhalbifljnfjaa
open Go.RowKit Go.Maps
set_option linter.unusedVariables false

/-- One more key makes the goal known just if its number is needed. -/
theorem needs_key {K : Nds} {n : Nat} {S : Nat → Prop} {x : Nat} (hm : mayB K n = true) (hx : x < n) (hk : knB K n S x = false) {i : Nat} (hi : i < n) (h1 : K i 0 = 1) : knB K n (fun j => S j ∨ j = i) x = decide (K i 1 ∈ needsL K n S (x : Int)) := by
  have hK := ((mayB_iff K n).1 hm).2
  have e : needsL K n S (x : Int) = riseL (needL K n S x n) := by
    unfold needsL
    rw [Int.toNat_natCast, if_pos ⟨hm, by unfold inB; simp; omega, hk⟩]
  rw [e]
  apply bool_eq_of
  rw [decide_eq_true_iff, riseL_mem]
  unfold needL
  rw [selL_mem]
  constructor
  · intro h
    exact ⟨i, hi, by rw [h1, Bool.and_eq_true]; exact ⟨rfl, h⟩, rfl⟩
  · rintro ⟨j, hj, hp, ej⟩
    rw [Bool.and_eq_true, beq_iff_eq] at hp
    obtain ⟨hp1, hp2⟩ := hp
    rw [knB_iff] at hp2 ⊢
    refine ⟨hx, hp2.2.again fun q hq hs => ?_⟩
    rcases hs with hs | rfl
    · exact Kn.base hq (.inl hs)
    · refine (Kn.clo K n _).same i q hi hq ?_ (Kn.base hi (.inr rfl))
      rcases hK.kinds hi with ⟨_, ⟨u, _, eu⟩, _⟩ | ⟨h5, _⟩
      · rw [tm_key hK hi h1 eu, tm_key hK hq hp1 (ej.trans eu)]
      · omega
theorem needs_known {K : Nds} {n : Nat} {S : Nat → Prop} {x : Nat} (hk : knB K n S x = true) : needsL K n S (x : Int) = [] := by
  unfold needsL
  rw [Int.toNat_natCast, if_neg (by rw [hk]; simp)]
theorem needs_rise (K : Nds) (n : Nat) (S : Nat → Prop) (x : Int) : (needsL K n S x).Pairwise (· < ·) := by
  unfold needsL
  split
  · exact riseL_rise _
  · exact List.Pairwise.nil
theorem needs_small {K : Nds} {n : Nat} {S : Nat → Prop} {x : Int} (hm : mayB K n = true) : ∀ z ∈ needsL K n S x, 0 ≤ z ∧ z ≤ 999999 := by
  have hK := ((mayB_iff K n).1 hm).2
  intro z hz
  unfold needsL at hz
  split at hz
  · rw [riseL_mem] at hz
    unfold needL at hz
    rw [selL_mem] at hz
    obtain ⟨i, hi, hp, e⟩ := hz
    rw [Bool.and_eq_true, beq_iff_eq] at hp
    rcases hK.kinds hi with ⟨_, ⟨u, hu, eu⟩, _⟩ | ⟨h5, _⟩
    · omega
    · omega
  · cases hz

theorem keyed9 : Keyed Try.prog 3 := int_keyed Try.underlying3
theorem wf9 {z : Int} (h0 : 0 ≤ z) (h : z ≤ 1000000) : (Lit.int .i64 z).wf = true := by
  simp [Lit.wf, IntKind.min, IntKind.max, IntKind.signed, IntKind.bits]
  omega
theorem key9 {z : Int} (h0 : 0 ≤ z) (h : z ≤ 1000000) : keyOf Try.prog 3 (.int .i64 z) = some (.int .i64 z) := keyOf_int_mk Try.underlying3 (wf9 h0 h)
theorem isKey9 {z : Int} (h0 : 0 ≤ z) (h : z ≤ 1000000) : WideAt.IsKeyLit (.int .i64 z) := keyed9.key (key9 h0 h)
theorem zero9 (w : World) : (zeroValue 3).run Try.prog w = .ok (.int .i64 0) w := Try.zeroValue3 w
/-- The map counts the numbers of l. -/
def CountsZ (D : DataW Unit) (l : List Int) : Prop := ∀ z : Int, 0 ≤ z → z ≤ 1000000 → D.atKey (.int .i64 z) (.lit (.int .i64 0)) = .lit (.int .i64 (if z ∈ l then 1 else 0))
abbrev OwnM9 (w : World) (b n : Nat) (D : DataW Unit) : Prop := w.ownsMap Try.prog 3 (plainElem Try.prog 3) b n D
theorem countsZ_none : CountsZ (.map []) [] := fun z _ _ => by
  rw [WideAt.atKey_none _ (by simp)]
  simp
theorem countsZ_one {D : DataW Unit} {l : List Int} {x : Int} (h : CountsZ D l) (hD : IsMap D) (h0 : 0 ≤ x) (hx : x ≤ 1000000) : CountsZ (D.put (.int .i64 x) (.lit (.int .i64 1))) (l ++ [x]) := fun z hz0 hz => by
  by_cases e : z = x
  · subst e
    rw [atKey_put_same hD (isKey9 h0 hx)]
    simp
  · rw [atKey_put_other (fun e2 => e (by simp at e2; omega)), h z hz0 hz]
    simp [e]
/-- m[k], at the operation. -/
theorem run_look9 {w : World} {b n : Nat} {D : DataW Unit} (hown : OwnM9 w b n D) {z : Int} (h0 : 0 ≤ z) (hz : z ≤ 1000000) {c : Int} (hat : D.atKey (.int .i64 z) (.lit (.int .i64 0)) = .lit (.int .i64 c)) {o : Oper} {a : Act} {m x : Operand} (ho : o.op = .lookup 48 m x false) (hm : a.eval m = .map (some b)) (hx : a.eval x = .int .i64 z) :
    (execOp a.eval o).run Try.prog w = .ok (.value (.int .i64 c)) w := by
  obtain ⟨c', hrun, hat', _⟩ := hown.lookup_int keyed9 Try.underlying48 Try.underlying3 (zero9 w) (key9 h0 hz)
  have e : c' = c := by
    rw [hat] at hat'
    simpa using hat'.symm
  subst e
  simp [execOp, ho, hm, hx, hrun, Result.andThen]
theorem OwnM9.after {w w' : World} {b n : Nat} {D : DataW Unit} (h : OwnM9 w b n D) (hb : Below w.heap.size w w') : OwnM9 w' b n D := by
  have hl := World.ownsMap.lt h
  obtain ⟨es, clock, hmap, rest⟩ := h
  exact ⟨es, clock, (hb.block b hl).trans hmap, rest⟩
theorem take_freshZ {l : List Int} (h : l.Pairwise (· < ·)) {k : Nat} (hk : k < l.length) : l.getD k 0 ∉ l.take k ∧ l.take (k + 1) = l.take k ++ [l.getD k 0] := by
  have e : l.getD k 0 = l[k] := by rw [List.getD_eq_getElem?_getD, List.getElem?_eq_getElem hk]; rfl
  rw [e]
  refine ⟨fun hm => ?_, by rw [List.take_add_one, List.getElem?_eq_getElem hk]; rfl⟩
  obtain ⟨j, hj, ej⟩ := List.getElem_of_mem hm
  rw [List.length_take] at hj
  rw [List.getElem_take] at ej
  have h3 := List.pairwise_iff_getElem.1 h j k (by omega) hk (by omega)
  omega
theorem getD_mem {l : List Int} {k : Nat} (hk : k < l.length) : l.getD k 0 ∈ l := by
  rw [List.getD_eq_getElem?_getD, List.getElem?_eq_getElem hk]
  exact List.getElem_mem hk
theorem rise_at {l : List Int} (h : l.Pairwise (· < ·)) {k : Nat} (hk : k + 1 < l.length) : l.getD k 0 < l.getD (k + 1) 0 := by
  have e1 : l.getD k 0 = l[k] := by rw [List.getD_eq_getElem?_getD, List.getElem?_eq_getElem (by omega)]; rfl
  have e2 : l.getD (k + 1) 0 = l[k + 1] := by rw [List.getD_eq_getElem?_getD, List.getElem?_eq_getElem hk]; rfl
  rw [e1, e2]
  exact List.pairwise_iff_getElem.1 h k (k + 1) (by omega) hk (by omega)

/-- Numbers appended to nothing: whatever was there stays. -/
theorem append_first (w : World) (B q : Nat) (ty : TypeId) (hq : RowAt w q 3 #[]) (hBq : B ≤ q) (hB : B ≤ w.heap.size) (ak : Option Addr) (k ck : Nat) (f : Nat → Int) (hf : SeesZ w ak k f) (hnil : ak = none → ck = 0) (hk : k ≤ 1000000) :
    ∃ v' w', (Builtin.append_ #[23, 23] ty #[.slice (some ⟨q, 0, none⟩) 0 0, .slice ak k ck]).run Try.prog w = .ok v' w' ∧ w'.ownsRow B 3 1 v' k (cellL k (intV f)) ∧ Below w.heap.size w w' := by
  obtain ⟨i0, hi, hz0, hz1, hz2⟩ := info_parts Try.infoInt
  have own0 : w.ownsRow B 3 1 (.slice (some ⟨q, 0, none⟩) 0 0) 0 [] := ⟨rfl, .inr ⟨q, 0, #[], rfl, hBq, hq, Nat.le_refl _, by decide, rfl, rfl⟩⟩
  cases ak with
  | none =>
    have h0 : k = 0 := by
      rcases Nat.eq_zero_or_pos k with h | h
      · exact h
      · obtain ⟨ad, e, _⟩ := SeesV.some hf h
        cases e
    subst h0
    have hc := hnil rfl
    subst hc
    exact ⟨_, w, run_append_owned_none (P := Try.prog) (w := w) B 23 ty 3 i0 1 Try.underlying23 hi _ 0 [] own0, own0, Below.refl _ _⟩
  | some ad =>
    have hnews : ∀ j u, (cellL k (intV f))[j]? = some u → w.cell? (ad.add j) = some u := by
      intro j u hj
      have hl : j < k := by
        have := (List.getElem?_eq_some_iff.1 hj).1
        rwa [cellL_length] at this
      obtain ⟨ad', e, _, hc⟩ := hf j hl
      cases e
      rw [cellL_get k _ j hl] at hj
      rw [hc]
      exact hj
    have h1 := cellL_one (n := k) (F := intV f) (fun j => rfl)
    obtain ⟨v', w', hr, h2, h3, _⟩ := run_append_own (P := Try.prog) w B 23 ty 3 i0 (.int .i64 0) 1 8 Try.underlying23 hi hz0 hz1 hz2 rfl (by decide) _ 0 [] own0 ad k ck (cellL k (intV f)) (by rw [cellL_length, Nat.mul_one]) hnews h1 (by unfold maxLen; omega) (by omega) hB
    rw [List.nil_append, Nat.zero_add] at h2
    refine ⟨v', w', hr, h2, ?_⟩
    by_cases h0 : k = 0
    · subst h0
      have hr2 := run_append_room_cells (P := Try.prog) (w := w) 23 ty 3 i0 Try.underlying23 hi q 0 0 0 ad 0 ck [] (by simp) (by simp) (by simp) (by omega) (by simp) (by simp)
      rw [hr] at hr2
      cases hr2
      exact Below.refl _ _
    · have hr2 := run_append_grow (P := Try.prog) w 23 ty 3 i0 (.int .i64 0) Try.underlying23 hi hz0 ⟨q, 0, none⟩ 0 0 [] (by simp) (by simp) ad k ck (cellL k (intV f)) (by rw [hz1, cellL_length, Nat.mul_one]) hnews (by omega) (by omega) (growslice_fits (by omega) (by rw [hz2]; omega))
      rw [hr] at hr2
      cases hr2
      exact (Below.refl _ _).drew.alloc (by simp) _

/-- What a number appended to its row leaves as it was. -/
def KeepZ (B k : Nat) (f : Nat → Int) (z : Int) (w w' : World) : Prop :=
  (∀ q, RowAt w q 3 #[] → RowAt w' q 3 #[]) ∧ (∀ q, RowAt w q 3 #[.int .i64 z] → RowAt w' q 3 #[.int .i64 z]) ∧ (∀ u, w.ownsRow B 3 1 u k (cellL k (intV f)) → w'.ownsRow B 3 1 u k (cellL k (intV f))) ∧
  (∀ u, w.ownsRow B 3 1 u (k + 1) (cellL (k + 1) (intV (snocF f k z))) → w'.ownsRow B 3 1 u (k + 1) (cellL (k + 1) (intV (snocF f k z))))
theorem KeepZ.of {B k : Nat} {f : Nat → Int} {z : Int} {w w' : World} (hb : Below w.heap.size w w') : KeepZ B k f z w w' :=
  ⟨fun q h => h.below hb h.lt, fun q h => h.below hb h.lt, fun u h => own_onto h hb, fun u h => own_onto h hb⟩

theorem append_keeps (w : World) (B m q : Nat) (v : Value) (f : Nat → Int) (z : Int) (ty : TypeId) (hown : w.ownsRow B 3 1 v m (cellL m (intV f))) (hq : RowAt w q 3 #[.int .i64 z]) (hm : m ≤ 1000000) (hB : B ≤ w.heap.size) :
    ∃ v' w', (Builtin.append_ #[23, 23] ty #[v, .slice (some ⟨q, 0, none⟩) 1 1]).run Try.prog w = .ok v' w' ∧ w'.ownsRow B 3 1 v' (m + 1) (cellL (m + 1) (intV (snocF f m z))) ∧ w.grownBy w' v.ownBlock ∧ KeepZ B m f z w w' := by
  obtain ⟨i0, hi, hz0, hz1, hz2⟩ := info_parts Try.infoInt
  have hnews : ∀ j u, [Value.int .i64 z][j]? = some u → w.cell? ((⟨q, 0, none⟩ : Addr).add j) = some u := by
    intro j u hj
    rw [addr_add, Nat.zero_add, cell_of_row w q j #[.int .i64 z] _ (0, 0) hq]
    simpa using hj
  have h1 : ∀ u ∈ [Value.int .i64 z], u.oneCell' = true := fun u hu => by simp at hu; subst hu; rfl
  obtain ⟨v', w', hr, h2, h3, _⟩ := run_append_own (P := Try.prog) w B 23 ty 3 i0 (.int .i64 0) 1 8 Try.underlying23 hi hz0 hz1 hz2 rfl (by decide) v m (cellL m (intV f)) hown ⟨q, 0, none⟩ 1 1 [.int .i64 z] rfl hnews h1 (by unfold maxLen; omega) (by omega) hB
  rw [cellZ_snoc] at h2
  refine ⟨v', w', hr, h2, h3, ?_⟩
  rcases hown.2 with ⟨rfl, rfl⟩ | ⟨g, cap, cur, rfl, hg, hrow, hc, hcm, hcs, htake⟩
  · refine KeepZ.of ⟨h3.os, h3.tape, h3.output, h3.size, fun j hj => h3.block j hj (by simp [Value.ownBlock])⟩
  · by_cases hroom : m + 1 ≤ cap
    · have hr2 := run_append_room (P := Try.prog) w 23 ty 3 i0 Try.underlying23 hi g m cap cur hrow ⟨q, 0, none⟩ 1 1 [.int .i64 z] (by rw [hz1]; rfl) hnews h1 hroom (by rw [hz1]; simp; omega)
      rw [hr] at hr2
      cases hr2
      rw [hz1] at *
      have hset : RowAt (w.setRow g ((List.take (m * 1) cur.toList ++ [Value.int .i64 z]) ++ List.drop (m * 1 + [Value.int .i64 z].length) cur.toList).toArray) g 3 ((List.take (m * 1) cur.toList ++ [Value.int .i64 z]) ++ List.drop (m * 1 + [Value.int .i64 z].length) cur.toList).toArray := setRow_heap w g cur _ _ _ hrow
      have hsz : cur.toList.length = cap * 1 := by simpa using hcs
      have e1 : (List.take (m * 1) cur.toList).length = m := by simp; omega
      have keep : ∀ u n xs, w.ownsRow B 3 1 u n xs → (cur.toList.take (n * 1) = xs → ((List.take (m * 1) cur.toList ++ [Value.int .i64 z]) ++ List.drop (m * 1 + [Value.int .i64 z].length) cur.toList).take (n * 1) = xs) → (w.setRow g ((List.take (m * 1) cur.toList ++ [Value.int .i64 z]) ++ List.drop (m * 1 + [Value.int .i64 z].length) cur.toList).toArray).ownsRow B 3 1 u n xs := by
        intro u n xs hu he
        by_cases hne : u.ownBlock = none ∨ u.ownBlock ≠ (Value.slice (some ⟨g, 0, none⟩) m cap).ownBlock
        · exact hu.kept h3 hne
        · rcases hu.2 with ⟨rfl, _⟩ | ⟨g', cap', cur', rfl, hg', hrow', hc', hcm', hcs', htake'⟩
          · exact absurd (.inl rfl) hne
          · have eg : g' = g := by
              by_cases e : g' = g
              · exact e
              · exact absurd (.inr (by simp [Value.ownBlock, e])) hne
            subst eg
            rw [hrow] at hrow'
            cases hrow'
            refine ⟨hu.1, .inr ⟨g', cap', _, rfl, hg', hset, hc', hcm', ?_, ?_⟩⟩
            · simp at hsz hcs' ⊢; omega
            · exact he htake'
      have rows : ∀ (cs : Array Value) (p : Nat), (cs = cur → ((List.take (m * 1) cur.toList ++ [Value.int .i64 z]) ++ List.drop (m * 1 + [Value.int .i64 z].length) cur.toList).toArray = cs) → RowAt w p 3 cs → RowAt (w.setRow g ((List.take (m * 1) cur.toList ++ [Value.int .i64 z]) ++ List.drop (m * 1 + [Value.int .i64 z].length) cur.toList).toArray) p 3 cs := by
        intro cs p he hp
        by_cases e : p = g
        · subst e
          have hp' := hp
          unfold RowAt at hp'
          rw [hrow] at hp'
          cases hp'
          have := hset
          rw [he rfl] at this
          rw [he rfl]
          exact this
        · have := h3.block p hp.lt (by simp [Value.ownBlock]; exact e)
          exact this.trans hp
      refine ⟨fun p hp => rows _ p (fun e => ?_) hp, fun p hp => rows _ p (fun e => ?_) hp, fun u hu => keep u _ _ hu fun _ => ?_, fun u hu => keep u _ _ hu fun _ => ?_⟩
      · rw [← e] at hsz
        simp at hsz
        omega
      · rw [← e] at hsz ⊢
        simp at hsz
        have : m = 0 := by omega
        subst this
        simp
      · rw [List.append_assoc, List.take_append_of_le_length (by omega), List.take_of_length_le (by omega), htake]
      · rw [List.take_append_of_le_length (by simp; omega), List.take_of_length_le (by simp; omega), htake, cellZ_snoc]
    · have hr2 := run_append_grow (P := Try.prog) w 23 ty 3 i0 (.int .i64 0) Try.underlying23 hi hz0 ⟨g, 0, none⟩ m cap (cellL m (intV f)) (by rw [hz1]; exact hown.1) (hown.cells (g := g) rfl) ⟨q, 0, none⟩ 1 1 [.int .i64 z] (by rw [hz1]; rfl) hnews (by omega) (by omega) (growslice_fits (by omega) (by rw [hz2]; omega))
      rw [hr] at hr2
      cases hr2
      exact KeepZ.of ((Below.refl _ _).drew.alloc (by simp) _)

end Go.Proofs.Ytjhalbifljnfjaa
