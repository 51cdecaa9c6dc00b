/-
  A map with pages as keys, as it lies: which pages were counted, once each; a page that is new is counted.
-/
import Derived.Test.YtiioccfcdkpblaaGreatDoorAll8
namespace Go.Proofs.YtiioccfcdkpblaaGreatDoor
open Go.RowKit
set_option linter.unusedVariables false

def entA (k : Value) (v : Int) (n : Nat) : MapEntry := { key := k, val := .int .i64 v, born := n }
def keyA (a : Int × Int) : Value := .agg #[.int .i64 a.1, .int .i64 a.2]
/-- The entries of the pages of l, from number i on. -/
def hadL : List (Int × Int) → Nat → List MapEntry
  | [], _ => []
  | a :: r, i => entA (keyA a) 1 i :: hadL r (i + 1)
theorem hadL_length : ∀ (l : List (Int × Int)) i, (hadL l i).length = l.length
  | [], _ => rfl
  | a :: r, i => by
    show (hadL r (i + 1)).length + 1 = r.length + 1
    rw [hadL_length r]
theorem hadL_app : ∀ (l : List (Int × Int)) (a : Int × Int) i, hadL (l ++ [a]) i = hadL l i ++ [entA (keyA a) 1 (i + l.length)]
  | [], a, i => rfl
  | b :: r, a, i => by
    show _ :: hadL (r ++ [a]) (i + 1) = _ :: (hadL r (i + 1) ++ _)
    rw [hadL_app r a (i + 1), List.length_cons, show i + 1 + r.length = i + (r.length + 1) by omega]
theorem hadL_born : ∀ (l : List (Int × Int)) i e, e ∈ hadL l i → e.born < i + l.length
  | [], i, e, h => by cases h
  | a :: r, i, e, h => by
    rcases List.mem_cons.1 h with rfl | h
    · show i < i + (r.length + 1)
      omega
    · have := hadL_born r (i + 1) e h
      rw [List.length_cons]
      omega

theorem addrUnder : ∃ f0 f1, Tryz.prog.underlying 34 = some (.struct #[f0, f1]) ∧ f0.type = 3 ∧ f1.type = 3 ∧ f0.offset = 0 ∧ f1.offset = 1 ∧ (f0.name ≠ "_" ∧ f1.name ≠ "_") ∧ Tryz.prog.stoodInHeld 34 = false := ⟨_, _, Tryz.underlying34, by kernel_rfl, by kernel_rfl, by kernel_rfl, by kernel_rfl, ⟨by decide, by decide⟩, by kernel_rfl⟩
theorem part0 (a b : Int) (w : World) : (Go.part 3 #[.int .i64 a, .int .i64 b] 0).run Tryz.prog w = Result.ok (.int .i64 a) w := run_part_plain w (by kernel_rfl) rfl
theorem part1 (a b : Int) (w : World) : (Go.part 3 #[.int .i64 a, .int .i64 b] 1).run Tryz.prog w = Result.ok (.int .i64 b) w := run_part_plain w (by kernel_rfl) rfl
theorem run_eqA (a b : Int × Int) (w : World) : (Op.equal 34 (keyA a) (keyA b)).run Tryz.prog w = .ok (a.1 == b.1 && a.2 == b.2) w := by
  unfold keyA
  show (Op.equalIn (9998 + 1 + 1) 34 (.agg #[.int .i64 a.1, .int .i64 a.2]) (.agg #[.int .i64 b.1, .int .i64 b.2])).run Tryz.prog w = _
  have e : ∀ x y : Int, (Op.equalIn 9999 3 (.int .i64 x) (.int .i64 y)).run Tryz.prog w = .ok (x == y) w := fun x y => run_equalIn_int w 9998 3 .i64 .i64 x y Tryz.underlying3
  have s1 : Tryz.prog.stoodInHeld 34 = false := by kernel_rfl
  unfold Op.equalIn
  simp only [Sem.run_bind, run_underlying Tryz.underlying34, Result.andThen_ok]
  by_cases h2 : a.1 = b.1
  · by_cases h4 : a.2 = b.2
    · simp [s1, e, part0, part1, Result.andThen, h2, h4]
    · simp [s1, e, part0, part1, Result.andThen, h2, h4]
  · simp [s1, e, part0, Result.andThen, h2]

theorem run_checkA (a : Int × Int) (em : Bool) (w : World) : (Instr.checkKey em 10000 34 (keyA a)).run Tryz.prog w = .ok () w := by
  unfold keyA
  have e : ∀ x : Int, (Instr.checkKey em 9999 3 (.int .i64 x)).run Tryz.prog w = .ok () w := fun x => MapKept.run_checkKey (k := .int .i64 x) Tryz.underlying3 (by simp [MapKept.IsKey]) em 9998
  unfold Instr.checkKey
  simp only [Sem.run_bind, run_underlying Tryz.underlying34, Result.andThen_ok]
  simp [e, part0, part1, Result.andThen]

theorem ask_none {a : Int × Int} : ∀ (es : List MapEntry) (j : Nat) (w : World), (∀ e ∈ es, ∃ b : Int × Int, e.key = keyA b ∧ b ≠ a) → (Instr.findAsking 34 (keyA a) es j).run Tryz.prog w = .ok none w
  | [], j, w, _ => rfl
  | e :: r, j, w, h => by
    obtain ⟨b, hb, hne⟩ := h e (List.mem_cons_self ..)
    have hf : (a.1 == b.1 && a.2 == b.2) = false := by
      cases h1 : (a.1 == b.1 && a.2 == b.2)
      · rfl
      · rw [Bool.and_eq_true, beq_iff_eq, beq_iff_eq] at h1
        exact absurd (Prod.ext h1.1.symm h1.2.symm) hne
    unfold Instr.findAsking
    rw [hb]
    simp only [Sem.run_bind, run_eqA, hf, Result.andThen_ok]
    exact ask_none r (j + 1) w (fun e he => h e (List.mem_cons_of_mem _ he))
theorem ask_last {a : Int × Int} {v : Int} {n : Nat} : ∀ (es : List MapEntry) (j : Nat) (w : World), (∀ e ∈ es, ∃ b : Int × Int, e.key = keyA b ∧ b ≠ a) → (Instr.findAsking 34 (keyA a) (es ++ [entA (keyA a) v n]) j).run Tryz.prog w = .ok (some (j + es.length, .int .i64 v)) w
  | [], j, w, _ => by
    have h1 : (Op.equal 34 (keyA a) (entA (keyA a) v n).key).run Tryz.prog w = .ok true w := by
      show (Op.equal 34 (keyA a) (keyA a)).run Tryz.prog w = _
      rw [run_eqA]
      simp
    rw [List.nil_append]
    unfold Instr.findAsking
    simp only [Sem.run_bind, h1, Result.andThen_ok, if_pos, Sem.run_pure]
    rfl
  | e :: r, j, w, h => by
    obtain ⟨b, hb, hne⟩ := h e (List.mem_cons_self ..)
    have hf : (a.1 == b.1 && a.2 == b.2) = false := by
      cases h1 : (a.1 == b.1 && a.2 == b.2)
      · rfl
      · rw [Bool.and_eq_true, beq_iff_eq, beq_iff_eq] at h1
        exact absurd (Prod.ext h1.1.symm h1.2.symm) hne
    show (Instr.findAsking 34 (keyA a) (e :: (r ++ _)) j).run Tryz.prog w = _
    unfold Instr.findAsking
    rw [hb]
    simp only [Sem.run_bind, run_eqA, hf, Result.andThen_ok]
    have := ask_last (v := v) (n := n) r (j + 1) w (fun e he => h e (List.mem_cons_of_mem _ he))
    rw [List.length_cons, show j + (r.length + 1) = j + 1 + r.length by omega]
    exact this
theorem hadL_keys {a : Int × Int} : ∀ (l : List (Int × Int)) (i : Nat), a ∉ l → ∀ e ∈ hadL l i, ∃ b : Int × Int, e.key = keyA b ∧ b ≠ a
  | [], i, _, e, h => by cases h
  | c :: r, i, ha, e, h => by
    rcases List.mem_cons.1 h with rfl | h
    · exact ⟨c, rfl, fun e => ha (by rw [e]; exact List.mem_cons_self ..)⟩
    · exact hadL_keys r (i + 1) (fun hh => ha (List.mem_cons_of_mem _ hh)) e h
theorem find_asks (a : Int × Int) (es : List MapEntry) (w : World) : (Instr.findKey 34 (keyA a) es).run Tryz.prog w = (Instr.findAsking 34 (keyA a) es 0).run Tryz.prog w := by
  unfold Instr.findKey
  simp only [Sem.run_bind, run_underlying Tryz.underlying34, Result.andThen_ok]
  cases es <;> rfl

/-- The map at mb has counted the pages of l. -/
def Had (W : World) (mb : Nat) (l : List (Int × Int)) : Prop := W.heap[mb]? = some (.map (hadL l 0).toArray l.length)
/-- It is about to count a as well. -/
def HadP (W : World) (mb : Nat) (l : List (Int × Int)) (a : Int × Int) : Prop := W.heap[mb]? = some (.map (hadL l 0 ++ [entA (keyA a) 0 l.length]).toArray (l.length + 1))

section
variable {W : World} {mb : Nat} {l : List (Int × Int)} {a : Int × Int}
theorem Had.look (h : Had W mb l) (ha : a ∉ l) : (Instr.lookup 50 (.map (some mb)) (keyA a) false).run Tryz.prog W = .ok (.int .i64 0) W := by
  have f : (Instr.findKey 34 (keyA a) (hadL l 0)).run Tryz.prog W = .ok none W := by rw [find_asks]; exact ask_none _ _ _ (hadL_keys l 0 ha)
  have g : (getObj mb).run Tryz.prog W = .ok (.map (hadL l 0).toArray l.length) W := MapKept.run_getObj_map h
  simp [Instr.lookup, run_underlying Tryz.underlying50, g, run_checkA, f, Tryz.zeroValue3, Result.andThen]
theorem HadP.look (h : HadP W mb l a) (ha : a ∉ l) : (Instr.lookup 50 (.map (some mb)) (keyA a) false).run Tryz.prog W = .ok (.int .i64 0) W := by
  have f : (Instr.findKey 34 (keyA a) (hadL l 0 ++ [entA (keyA a) 0 l.length])).run Tryz.prog W = .ok (some (0 + (hadL l 0).length, .int .i64 0)) W := by rw [find_asks]; exact ask_last _ _ _ (hadL_keys l 0 ha)
  have g : (getObj mb).run Tryz.prog W = .ok (.map (hadL l 0 ++ [entA (keyA a) 0 l.length]).toArray (l.length + 1)) W := MapKept.run_getObj_map h
  simp only [Instr.lookup, Sem.run_bind, run_underlying Tryz.underlying50, g, run_checkA, Result.andThen_ok, f, Sem.run_pure, Bool.false_eq_true, if_false]
theorem Had.look1 (h : Had W mb (l ++ [a])) (ha : a ∉ l) : (Instr.lookup 50 (.map (some mb)) (keyA a) false).run Tryz.prog W = .ok (.int .i64 1) W := by
  unfold Had at h
  rw [hadL_app] at h
  have f : (Instr.findKey 34 (keyA a) (hadL l 0 ++ [entA (keyA a) 1 (0 + l.length)])).run Tryz.prog W = .ok (some (0 + (hadL l 0).length, .int .i64 1)) W := by rw [find_asks]; exact ask_last _ _ _ (hadL_keys l 0 ha)
  have g : (getObj mb).run Tryz.prog W = .ok (.map (hadL l 0 ++ [entA (keyA a) 1 (0 + l.length)]).toArray (l ++ [a]).length) W := MapKept.run_getObj_map h
  simp only [Instr.lookup, Sem.run_bind, run_underlying Tryz.underlying50, g, run_checkA, Result.andThen_ok, f, Sem.run_pure, Bool.false_eq_true, if_false]
theorem Had.entry (h : Had W mb l) (ha : a ∉ l) : (Instr.mapEntry 50 (.map (some mb)) (keyA a)).run Tryz.prog W = .ok (.tuple #[.int .i64 0, .int .i64 (l.length : Nat)]) (W.putObj mb (.map (hadL l 0 ++ [entA (keyA a) 0 l.length]).toArray (l.length + 1))) := by
  have f : (Instr.findKey 34 (keyA a) (hadL l 0)).run Tryz.prog W = .ok none W := by rw [find_asks]; exact ask_none _ _ _ (hadL_keys l 0 ha)
  have g : (getObj mb).run Tryz.prog W = .ok (.map (hadL l 0).toArray l.length) W := MapKept.run_getObj_map h
  have st : (setObj mb (.map (hadL l 0 ++ [entA (keyA a) 0 l.length]).toArray (l.length + 1))).run Tryz.prog W = .ok () (W.putObj mb (.map (hadL l 0 ++ [entA (keyA a) 0 l.length]).toArray (l.length + 1))) := MapKept.run_setObj_map _ h
  have pu : (hadL l 0).toArray.push { key := keyA a, val := .int .i64 0, born := l.length } = (hadL l 0 ++ [entA (keyA a) 0 l.length]).toArray := by simp [entA]
  simp only [Instr.mapEntry, Sem.run_bind, run_underlying Tryz.underlying50, g, run_checkA, Result.andThen_ok, f, Tryz.zeroValue3, pu, st, Sem.run_pure]
  rfl
theorem HadP.store (h : HadP W mb l a) : (Instr.entryStore 50 (.map (some mb)) (.int .i64 (l.length : Nat)) (.int .i64 1)).run Tryz.prog W = .ok () (W.putObj mb (.map (hadL (l ++ [a]) 0).toArray (l.length + 1))) := by
  have h1 : (hadL l 0 ++ [entA (keyA a) 0 l.length]).toArray.findIdx? (fun e => (e.born : Int) == ((l.length : Nat) : Int)) = some l.length := by
    rw [List.findIdx?_toArray, List.findIdx?_append, List.findIdx?_eq_none_iff.2 (fun e he => by
      have := hadL_born l 0 e he
      rw [beq_eq_false_iff_ne]
      omega)]
    simp [hadL_length, entA]
  have h2 : (hadL l 0 ++ [entA (keyA a) 0 l.length]).toArray.modify l.length (fun e => { e with val := .int .i64 1 }) = (hadL (l ++ [a]) 0).toArray := by
    rw [hadL_app]
    apply Array.ext'
    rw [Array.toList_modify]
    apply List.ext_getElem?
    intro j
    simp only [List.getElem?_modify]
    by_cases hj : j < l.length
    · rw [List.getElem?_append_left (by rw [hadL_length]; exact hj), List.getElem?_append_left (by rw [hadL_length]; exact hj), show (fun x : MapEntry => if l.length = j then _ else x) = id from by funext x; rw [if_neg (by omega)]; rfl]
      simp
    · by_cases hj2 : j = l.length
      · subst hj2
        rw [List.getElem?_append_right (by rw [hadL_length]; exact Nat.le_refl _), List.getElem?_append_right (by rw [hadL_length]; exact Nat.le_refl _)]
        simp [hadL_length, entA]
      · rw [List.getElem?_eq_none (by simp [hadL_length]; omega), List.getElem?_eq_none (by simp [hadL_length]; omega)]
        rfl
  have g : (getObj mb).run Tryz.prog W = .ok (.map (hadL l 0 ++ [entA (keyA a) 0 l.length]).toArray (l.length + 1)) W := MapKept.run_getObj_map h
  have st : (setObj mb (.map (hadL (l ++ [a]) 0).toArray (l.length + 1))).run Tryz.prog W = .ok () (W.putObj mb (.map (hadL (l ++ [a]) 0).toArray (l.length + 1))) := MapKept.run_setObj_map _ h
  simp only [Instr.entryStore, Sem.run_bind, g, Result.andThen_ok, asInt, asIntOf, Sem.run_pure, h1, h2, st]
end

end Go.Proofs.YtiioccfcdkpblaaGreatDoor
