/-
  Nodes and children held against each other; a child of four that are a value.
-/
import Derived.Test.YtapebaoajknepaaNodeMath
import Derived.Test.YtapebaoajknepaaRows1
import Derived.Laws.StructEq
namespace Go.Proofs.Ytapebaoajknepaa
open Go.RowKit
set_option linter.unusedVariables false

theorem cast_beq (a b : Nat) : (((a : Nat) : Int) == ((b : Nat) : Int)) = (a == b) := by
  rw [Bool.eq_iff_iff, beq_iff_eq, beq_iff_eq]
  omega

section
variable {P : Program} (w : World)
theorem run_part_row {e : TypeId} {L n off : Nat} {F G : Nat → Value} {d : TypeDesc} (hu : P.underlying e = some d) (hd : (match d with | .struct _ | .array _ _ => true | _ => false) = true) (hi : (P.info? e).map (·.size) = some n) (h : off + n ≤ L) (hG : ∀ j, j < n → F (off + j) = G j) :
    (Go.part e (rowOf L F) off).run P w = .ok (.agg (rowOf n G)) w := by
  have hagg : (isAgg e).run P w = .ok true w := by
    unfold isAgg
    rw [Sem.run_bind, run_underlying hu w]
    cases d <;> simp_all
  have hx : (rowOf L F).extract off (off + n) = rowOf n G := by
    apply Array.ext_getElem?
    intro j
    rw [Array.getElem?_extract, rowOf_size]
    by_cases hj : j < n
    · rw [if_pos (by omega), rowOf_get _ _ _ hj, rowOf_get _ _ _ (by omega), hG j hj]
    · rw [if_neg (by omega), Array.getElem?_eq_none (by rw [rowOf_size]; omega)]
  cases hq : P.info? e with
  | none => simp [hq] at hi
  | some i =>
    have hs : i.size = n := by simpa [hq] using hi
    simp [Go.part, Sem.run_bind, hagg, sizeOf, typeInfo, hq, hs, hx]

/-- What is told of each field. -/
def ToldF (P : Program) (w : World) (d : Nat) (xs ys : Array Value) : List (TypeId × Nat) → List Bool → Prop
  | [], [] => True
  | (t, o) :: T, r :: rs => (∃ a b, (Go.part t xs o).run P w = .ok a w ∧ (Go.part t ys o).run P w = .ok b w ∧ (Op.equalIn d t a b).run P w = .ok r w) ∧ ToldF P w d xs ys T rs
  | _, _ => False
theorem run_eqFields_told (d : Nat) (xs ys : Array Value) : ∀ (fs : List Field) (T : List (TypeId × Nat)) (rs : List Bool), fs.map (fun f => (f.type, f.offset)) = T → fs.all (fun f => f.name != "_") = true → ToldF P w d xs ys T rs → (Op.eqFields d xs ys fs).run P w = .ok (rs.all id) w
  | [], T, rs, h, _, hT => by
    subst h
    cases rs with
    | nil => rfl
    | cons r rs => exact hT.elim
  | f :: fs, T, rs, h, hn, hT => by
    subst h
    cases rs with
    | nil => exact hT.elim
    | cons r rs =>
      simp only [List.all_cons, Bool.and_eq_true] at hn
      obtain ⟨⟨a, b, h1, h2, h3⟩, h4⟩ := hT
      have ih := run_eqFields_told d xs ys fs _ rs rfl hn.2 h4
      have hne : f.name ≠ "_" := by simpa using hn.1
      simp only [Op.eqFields, hne, ne_eq, not_false_eq_true, if_true, Sem.run_bind, h1, h2, h3, Result.andThen_ok]
      cases r
      · simp
      · simp [ih]
theorem run_eqItems_told (d : Nat) {e : TypeId} (c : Nat) (xs ys : Array Value) (r : Nat → Bool) : ∀ is : List Nat, (∀ i ∈ is, ∃ a b, (Go.part e xs (i * c)).run P w = .ok a w ∧ (Go.part e ys (i * c)).run P w = .ok b w ∧ (Op.equalIn d e a b).run P w = .ok (r i) w) → (Op.eqItems d e c xs ys is).run P w = .ok (is.all r) w
  | [], _ => rfl
  | i :: is, h => by
    obtain ⟨a, b, h1, h2, h3⟩ := h i (List.mem_cons_self ..)
    have ih := run_eqItems_told d c xs ys r is (fun j hj => h j (List.mem_cons_of_mem _ hj))
    simp only [Op.eqItems, Sem.run_bind, h1, h2, h3, Result.andThen_ok, List.all_cons]
    cases r i
    · simp
    · simp [ih]
end

theorem eq_keyD (f g : Nat → Nat) (d : Nat) (w : World) : (Op.equalIn (d + 2) 23 (.agg (rowOf 16 (w8 f))) (.agg (rowOf 16 (w8 g)))).run Try.prog w = .ok (sameK f g) w := by
  obtain ⟨i, hi⟩ := elem8
  rw [run_equalIn_array w (d + 1) _ _ Try.underlying23 hi]
  have := eqItems_two w d Try.underlying5 (by kernel_rfl) (Try.prog.cellsOf 5) (rowOf 16 (w8 f)) (rowOf 16 (w8 g)) (fun j => ((f j : Nat) : Int)) (fun j => ((g j : Nat) : Int)) (List.range 16) (fun i hi => by
    have hc : Try.prog.cellsOf 5 = 1 := by kernel_rfl
    have hi2 : i < 16 := by simpa using hi
    rw [hc, Nat.mul_one, rowOf_get _ _ _ hi2, rowOf_get _ _ _ hi2]
    exact ⟨rfl, rfl⟩)
  rw [this]
  congr 1
  unfold sameK
  congr 1
  funext i
  exact cast_beq _ _
theorem eqD_bool (d : Nat) (a b : Bool) (w : World) : (Op.equalIn (d + 1) 4 (.bool a) (.bool b)).run Try.prog w = .ok (a == b) w := run_equalIn_bool w d _ a b Try.underlying4
theorem eqD_int (d : Nat) (a b : Int) (w : World) : (Op.equalIn (d + 1) 3 (.int .i64 a) (.int .i64 b)).run Try.prog w = .ok (a == b) w := run_equalIn_int w d _ .i64 .i64 a b Try.underlying3
theorem eqD_u64 (d : Nat) (a b : Nat) (w : World) : (Op.equalIn (d + 1) 24 (.int .u64 (a : Int)) (.int .u64 (b : Int))).run Try.prog w = .ok (a == b) w := by
  rw [← cast_beq]
  exact run_equalIn_int w d _ .u64 .u64 _ _ Try.underlying24
theorem pl_bool : Try.prog.plainKey 4 = true := by kernel_rfl
theorem pl_int : Try.prog.plainKey 3 = true := by kernel_rfl
theorem pl_u64 : Try.prog.plainKey 24 = true := by kernel_rfl

theorem infoChd : (Try.prog.info? 26).map (·.size) = some 21 := by kernel_rfl
theorem infoChs : (Try.prog.info? 27).map (·.size) = some 84 := by kernel_rfl
theorem infoNod : (Try.prog.info? 29).map (·.size) = some 85 := by kernel_rfl
theorem infoChd' (f : Nat → Value) : (Try.prog.info? 26).map (·.size) = some (rowOf 21 f).size := by rw [rowOf_size]; exact infoChd
theorem infoNod' (f : Nat → Value) : (Try.prog.info? 29).map (·.size) = some (rowOf 85 f).size := by rw [rowOf_size]; exact infoNod
theorem elemChd : ∃ i, Try.prog.info? 26 = some i := info_of_underlying Try.underlying26
theorem fldsChd : (Try.prog.fieldsOf 26).toList.map (fun f => (f.type, f.offset)) = [(4, 0), (3, 1), (3, 2), (23, 3), (24, 19), (24, 20)] := by kernel_rfl
theorem namesChd : (Try.prog.fieldsOf 26).toList.all (fun f => f.name != "_") = true := by kernel_rfl
theorem fldsNod : (Try.prog.fieldsOf 29).toList.map (fun f => (f.type, f.offset)) = [(4, 0), (27, 1)] := by kernel_rfl
theorem namesNod : (Try.prog.fieldsOf 29).toList.all (fun f => f.name != "_") = true := by kernel_rfl
theorem heldChd : Try.prog.stoodInHeld 26 = false := by kernel_rfl
theorem heldNod : Try.prog.stoodInHeld 29 = false := by kernel_rfl
theorem guardChd : Try.prog.eqGuardType Try.prog.depth 26 = false := by kernel_rfl
theorem guardNod : Try.prog.eqGuardType Try.prog.depth 29 = false := by kernel_rfl
theorem cellsChd : Try.prog.cellsOf 26 = 21 := by kernel_rfl
theorem underChd : Try.prog.underlying 26 = some (.struct (Try.prog.fieldsOf 26)) := by kernel_rfl
theorem underNod : Try.prog.underlying 29 = some (.struct (Try.prog.fieldsOf 29)) := by kernel_rfl

theorem eq_chd (a b : Chd) (d : Nat) (w : World) : (Op.equalIn (d + 3) 26 (.agg (rowOf 21 (chF a))) (.agg (rowOf 21 (chF b)))).run Try.prog w = .ok (sameC a b) w := by
  rw [run_equalIn_struct w (d + 2) _ _ _ underChd heldChd]
  have key : ∀ c : Chd, (Go.part 23 (rowOf 21 (chF c)) 3).run Try.prog w = .ok (.agg (rowOf 16 (w8 c.k))) w := fun c =>
    run_part_row w Try.underlying23 rfl (by kernel_rfl) (by decide) (fun j hj => by
      unfold chF
      rw [if_neg (by omega), if_neg (by omega), if_neg (by omega), if_pos (by omega), show 3 + j - 3 = j by omega]
      rfl)
  rw [run_eqFields_told w (d + 2) _ _ _ _ [a.h == b.h, a.s == b.s, a.p == b.p, sameK a.k b.k, a.x == b.x, a.v == b.v] fldsChd namesChd ⟨
    ⟨_, _, run_part_plain w pl_bool (rowOf_get _ _ 0 (by decide)), run_part_plain w pl_bool (rowOf_get _ _ 0 (by decide)), eqD_bool (d + 1) a.h b.h w⟩,
    ⟨_, _, run_part_plain w pl_int (rowOf_get _ _ 1 (by decide)), run_part_plain w pl_int (rowOf_get _ _ 1 (by decide)), eqD_int (d + 1) a.s b.s w⟩,
    ⟨_, _, run_part_plain w pl_int (rowOf_get _ _ 2 (by decide)), run_part_plain w pl_int (rowOf_get _ _ 2 (by decide)), eqD_int (d + 1) a.p b.p w⟩,
    ⟨_, _, key a, key b, eq_keyD a.k b.k d w⟩,
    ⟨_, _, run_part_plain w pl_u64 (rowOf_get _ _ 19 (by decide)), run_part_plain w pl_u64 (rowOf_get _ _ 19 (by decide)), eqD_u64 (d + 1) a.x b.x w⟩,
    ⟨_, _, run_part_plain w pl_u64 (rowOf_get _ _ 20 (by decide)), run_part_plain w pl_u64 (rowOf_get _ _ 20 (by decide)), eqD_u64 (d + 1) a.v b.v w⟩, trivial⟩]
  congr 1
  unfold sameC
  simp only [List.all_cons, List.all_nil, id_eq, Bool.and_true]
def chsF (N : Nod) : Nat → Value := fun j => chF (N.c (j / 21)) (j % 21)
theorem chsF_at (N : Nod) (i j : Nat) (hj : j < 21) : chsF N (i * 21 + j) = chF (N.c i) j := by
  unfold chsF
  rw [show (i * 21 + j) / 21 = i by omega, show (i * 21 + j) % 21 = j by omega]
theorem part_chd (N : Nod) (i : Nat) (hi : i < 4) (w : World) : (Go.part 26 (rowOf 84 (chsF N)) (i * 21)).run Try.prog w = .ok (.agg (rowOf 21 (chF (N.c i)))) w :=
  run_part_row w Try.underlying26 rfl infoChd (by omega) (fun j hj => chsF_at N i j hj)
theorem eq_nod (a b : Nod) (w : World) : (Op.equalIn 10000 29 (.agg (rowOf 85 (nF a))) (.agg (rowOf 85 (nF b)))).run Try.prog w = .ok (sameN a b) w := by
  refine (run_equalIn_struct w 9999 _ _ _ underNod heldNod).trans ?_
  have arr : ∀ c : Nod, (Go.part 27 (rowOf 85 (nF c)) 1).run Try.prog w = .ok (.agg (rowOf 84 (chsF c))) w := fun c =>
    run_part_row w Try.underlying27 rfl infoChs (by decide) (fun j hj => by
      unfold nF chsF
      rw [if_neg (by omega), show 1 + j - 1 = j by omega])
  obtain ⟨i0, hi0⟩ := elemChd
  have four : (Op.equalIn 9999 27 (.agg (rowOf 84 (chsF a))) (.agg (rowOf 84 (chsF b)))).run Try.prog w = .ok ((List.range 4).all fun i => sameC (a.c i) (b.c i)) w := by
    refine (run_equalIn_array w 9998 _ _ Try.underlying27 hi0).trans ?_
    refine run_eqItems_told w 9998 _ _ _ _ _ (fun i hi => ?_)
    have hi4 : i < 4 := by simpa using hi
    rw [cellsChd]
    exact ⟨_, _, part_chd a i hi4 w, part_chd b i hi4 w, eq_chd (a.c i) (b.c i) 9995 w⟩
  rw [run_eqFields_told w 9999 _ _ _ _ [a.l == b.l, (List.range 4).all fun i => sameC (a.c i) (b.c i)] fldsNod namesNod ⟨
    ⟨_, _, run_part_plain w pl_bool (rowOf_get _ _ 0 (by decide)), run_part_plain w pl_bool (rowOf_get _ _ 0 (by decide)), eqD_bool 9998 a.l b.l w⟩,
    ⟨_, _, arr a, arr b, four⟩, trivial⟩]
  congr 1
  unfold sameN
  simp only [List.all_cons, List.all_nil, id_eq, Bool.and_true, List.range, List.range.loop]
theorem run_eql_chd {a b : Chd} {r : Bool} (hr : sameC a b = r) {o : Oper} {c : Act} {x y : Operand} {t : TypeId} (ho : o.op = .binOp .eql 26 x y t) (hx : c.eval x = .agg (rowOf 21 (chF a))) (hy : c.eval y = .agg (rowOf 21 (chF b))) (w : World) :
    (execOp c.eval o).run Try.prog w = .ok (.value (.bool r)) w := by
  subst hr
  have e2 := run_eql_struct (P := Try.prog) w 26 (rowOf 21 (chF a)) (rowOf 21 (chF b))
  rw [show (10000 : Nat) = 9997 + 3 from rfl, eq_chd a b 9997 w] at e2
  have e3 := run_eqGuard_agg (P := Try.prog) w .eql 26 x y (rowOf 21 (chF a)) (rowOf 21 (chF b)) guardChd
  unfold execOp
  simp only [ho, hx, hy, Sem.run_bind, e2, e3, Result.andThen_ok, Sem.run_pure]
theorem run_neq_chd {a b : Chd} {r : Bool} (hr : (!sameC a b) = r) {o : Oper} {c : Act} {x y : Operand} {t : TypeId} (ho : o.op = .binOp .neq 26 x y t) (hx : c.eval x = .agg (rowOf 21 (chF a))) (hy : c.eval y = .agg (rowOf 21 (chF b))) (w : World) :
    (execOp c.eval o).run Try.prog w = .ok (.value (.bool r)) w := by
  subst hr
  have e2 := run_neq_struct (P := Try.prog) w 26 (rowOf 21 (chF a)) (rowOf 21 (chF b))
  rw [show (10000 : Nat) = 9997 + 3 from rfl, eq_chd a b 9997 w] at e2
  have e3 := run_eqGuard_agg (P := Try.prog) w .neq 26 x y (rowOf 21 (chF a)) (rowOf 21 (chF b)) guardChd
  unfold execOp
  simp only [ho, hx, hy, Sem.run_bind, e2, e3, Result.andThen_ok, Sem.run_pure]
theorem run_eql_nod {a b : Nod} {r : Bool} (hr : sameN a b = r) {o : Oper} {c : Act} {x y : Operand} {t : TypeId} (ho : o.op = .binOp .eql 29 x y t) (hx : c.eval x = .agg (rowOf 85 (nF a))) (hy : c.eval y = .agg (rowOf 85 (nF b))) (w : World) :
    (execOp c.eval o).run Try.prog w = .ok (.value (.bool r)) w := by
  subst hr
  have e2 := run_eql_struct (P := Try.prog) w 29 (rowOf 85 (nF a)) (rowOf 85 (nF b))
  rw [eq_nod a b w] at e2
  have e3 := run_eqGuard_agg (P := Try.prog) w .eql 29 x y (rowOf 85 (nF a)) (rowOf 85 (nF b)) guardNod
  unfold execOp
  simp only [ho, hx, hy, Sem.run_bind, e2, e3, Result.andThen_ok, Sem.run_pure]
theorem run_neq_nod {a b : Nod} {r : Bool} (hr : (!sameN a b) = r) {o : Oper} {c : Act} {x y : Operand} {t : TypeId} (ho : o.op = .binOp .neq 29 x y t) (hx : c.eval x = .agg (rowOf 85 (nF a))) (hy : c.eval y = .agg (rowOf 85 (nF b))) (w : World) :
    (execOp c.eval o).run Try.prog w = .ok (.value (.bool r)) w := by
  subst hr
  have e2 := run_neq_struct (P := Try.prog) w 29 (rowOf 85 (nF a)) (rowOf 85 (nF b))
  rw [eq_nod a b w] at e2
  have e3 := run_eqGuard_agg (P := Try.prog) w .neq 29 x y (rowOf 85 (nF a)) (rowOf 85 (nF b)) guardNod
  unfold execOp
  simp only [ho, hx, hy, Sem.run_bind, e2, e3, Result.andThen_ok, Sem.run_pure]
/-- x[i] of four children that are a value. -/
theorem run_index_chs {N : Nod} {i : Nat} (hi : i < 4) {o : Oper} {c : Act} {x y : Operand} (ho : o.op = .index 27 x y) (hx : c.eval x = .agg (rowOf 84 (chsF N))) {z : Int} (hy : c.eval y = .int .i64 z) (hz : z = (i : Int)) (w : World) :
    (execOp c.eval o).run Try.prog w = .ok (.value (.agg (rowOf 21 (chF (N.c i))))) w := by
  subst hz
  have hp := part_chd N i hi w
  obtain ⟨i0, hi0⟩ := elemChd
  have hs : (sizeOf 26).run Try.prog w = .ok 21 w := by
    have := infoChd
    rw [hi0] at this
    have h21 : i0.size = 21 := by simpa using this
    simp [sizeOf, typeInfo, hi0, h21]
  have e : (Instr.index 27 (.agg (rowOf 84 (chsF N))) (.int .i64 (i : Int))).run Try.prog w = .ok (.agg (rowOf 21 (chF (N.c i)))) w := by
    simp [Instr.index, asIntOf, run_underlying Try.underlying27, hs, hp, hi]
  unfold execOp
  simp only [ho, hx, hy, Sem.run_bind, e, Result.andThen_ok, Sem.run_pure]

theorem infoChdRef : (Try.prog.info? 34).map (·.size) = some 21 := by kernel_rfl
theorem infoChsRef : (Try.prog.info? 35).map (·.size) = some 84 := by kernel_rfl
theorem infoNodRef : (Try.prog.info? 37).map (·.size) = some 85 := by kernel_rfl
theorem infoChdRef' (f : Nat → Value) : (Try.prog.info? 34).map (·.size) = some (rowOf 21 f).size := by rw [rowOf_size]; exact infoChdRef
theorem infoNodRef' (f : Nat → Value) : (Try.prog.info? 37).map (·.size) = some (rowOf 85 f).size := by rw [rowOf_size]; exact infoNodRef
theorem elemChdRef : ∃ i, Try.prog.info? 34 = some i := info_of_underlying Try.underlying34
theorem fldsChdRef : (Try.prog.fieldsOf 34).toList.map (fun f => (f.type, f.offset)) = [(4, 0), (3, 1), (3, 2), (23, 3), (24, 19), (24, 20)] := by kernel_rfl
theorem namesChdRef : (Try.prog.fieldsOf 34).toList.all (fun f => f.name != "_") = true := by kernel_rfl
theorem fldsNodRef : (Try.prog.fieldsOf 37).toList.map (fun f => (f.type, f.offset)) = [(4, 0), (35, 1)] := by kernel_rfl
theorem namesNodRef : (Try.prog.fieldsOf 37).toList.all (fun f => f.name != "_") = true := by kernel_rfl
theorem heldChdRef : Try.prog.stoodInHeld 34 = false := by kernel_rfl
theorem heldNodRef : Try.prog.stoodInHeld 37 = false := by kernel_rfl
theorem guardChdRef : Try.prog.eqGuardType Try.prog.depth 34 = false := by kernel_rfl
theorem guardNodRef : Try.prog.eqGuardType Try.prog.depth 37 = false := by kernel_rfl
theorem cellsChdRef : Try.prog.cellsOf 34 = 21 := by kernel_rfl
theorem underChdRef : Try.prog.underlying 34 = some (.struct (Try.prog.fieldsOf 34)) := by kernel_rfl
theorem underNodRef : Try.prog.underlying 37 = some (.struct (Try.prog.fieldsOf 37)) := by kernel_rfl

theorem eq_chdRef (a b : Chd) (d : Nat) (w : World) : (Op.equalIn (d + 3) 34 (.agg (rowOf 21 (chF a))) (.agg (rowOf 21 (chF b)))).run Try.prog w = .ok (sameC a b) w := by
  rw [run_equalIn_struct w (d + 2) _ _ _ underChdRef heldChdRef]
  have key : ∀ c : Chd, (Go.part 23 (rowOf 21 (chF c)) 3).run Try.prog w = .ok (.agg (rowOf 16 (w8 c.k))) w := fun c =>
    run_part_row w Try.underlying23 rfl (by kernel_rfl) (by decide) (fun j hj => by
      unfold chF
      rw [if_neg (by omega), if_neg (by omega), if_neg (by omega), if_pos (by omega), show 3 + j - 3 = j by omega]
      rfl)
  rw [run_eqFields_told w (d + 2) _ _ _ _ [a.h == b.h, a.s == b.s, a.p == b.p, sameK a.k b.k, a.x == b.x, a.v == b.v] fldsChdRef namesChdRef ⟨
    ⟨_, _, run_part_plain w pl_bool (rowOf_get _ _ 0 (by decide)), run_part_plain w pl_bool (rowOf_get _ _ 0 (by decide)), eqD_bool (d + 1) a.h b.h w⟩,
    ⟨_, _, run_part_plain w pl_int (rowOf_get _ _ 1 (by decide)), run_part_plain w pl_int (rowOf_get _ _ 1 (by decide)), eqD_int (d + 1) a.s b.s w⟩,
    ⟨_, _, run_part_plain w pl_int (rowOf_get _ _ 2 (by decide)), run_part_plain w pl_int (rowOf_get _ _ 2 (by decide)), eqD_int (d + 1) a.p b.p w⟩,
    ⟨_, _, key a, key b, eq_keyD a.k b.k d w⟩,
    ⟨_, _, run_part_plain w pl_u64 (rowOf_get _ _ 19 (by decide)), run_part_plain w pl_u64 (rowOf_get _ _ 19 (by decide)), eqD_u64 (d + 1) a.x b.x w⟩,
    ⟨_, _, run_part_plain w pl_u64 (rowOf_get _ _ 20 (by decide)), run_part_plain w pl_u64 (rowOf_get _ _ 20 (by decide)), eqD_u64 (d + 1) a.v b.v w⟩, trivial⟩]
  congr 1
  unfold sameC
  simp only [List.all_cons, List.all_nil, id_eq, Bool.and_true]
theorem part_chdRef (N : Nod) (i : Nat) (hi : i < 4) (w : World) : (Go.part 34 (rowOf 84 (chsF N)) (i * 21)).run Try.prog w = .ok (.agg (rowOf 21 (chF (N.c i)))) w :=
  run_part_row w Try.underlying34 rfl infoChdRef (by omega) (fun j hj => chsF_at N i j hj)
theorem eq_nodRef (a b : Nod) (w : World) : (Op.equalIn 10000 37 (.agg (rowOf 85 (nF a))) (.agg (rowOf 85 (nF b)))).run Try.prog w = .ok (sameN a b) w := by
  refine (run_equalIn_struct w 9999 _ _ _ underNodRef heldNodRef).trans ?_
  have arr : ∀ c : Nod, (Go.part 35 (rowOf 85 (nF c)) 1).run Try.prog w = .ok (.agg (rowOf 84 (chsF c))) w := fun c =>
    run_part_row w Try.underlying35 rfl infoChsRef (by decide) (fun j hj => by
      unfold nF chsF
      rw [if_neg (by omega), show 1 + j - 1 = j by omega])
  obtain ⟨i0, hi0⟩ := elemChdRef
  have four : (Op.equalIn 9999 35 (.agg (rowOf 84 (chsF a))) (.agg (rowOf 84 (chsF b)))).run Try.prog w = .ok ((List.range 4).all fun i => sameC (a.c i) (b.c i)) w := by
    refine (run_equalIn_array w 9998 _ _ Try.underlying35 hi0).trans ?_
    refine run_eqItems_told w 9998 _ _ _ _ _ (fun i hi => ?_)
    have hi4 : i < 4 := by simpa using hi
    rw [cellsChdRef]
    exact ⟨_, _, part_chdRef a i hi4 w, part_chdRef b i hi4 w, eq_chdRef (a.c i) (b.c i) 9995 w⟩
  rw [run_eqFields_told w 9999 _ _ _ _ [a.l == b.l, (List.range 4).all fun i => sameC (a.c i) (b.c i)] fldsNodRef namesNodRef ⟨
    ⟨_, _, run_part_plain w pl_bool (rowOf_get _ _ 0 (by decide)), run_part_plain w pl_bool (rowOf_get _ _ 0 (by decide)), eqD_bool 9998 a.l b.l w⟩,
    ⟨_, _, arr a, arr b, four⟩, trivial⟩]
  congr 1
  unfold sameN
  simp only [List.all_cons, List.all_nil, id_eq, Bool.and_true, List.range, List.range.loop]
theorem run_eql_chdRef {a b : Chd} {r : Bool} (hr : sameC a b = r) {o : Oper} {c : Act} {x y : Operand} {t : TypeId} (ho : o.op = .binOp .eql 34 x y t) (hx : c.eval x = .agg (rowOf 21 (chF a))) (hy : c.eval y = .agg (rowOf 21 (chF b))) (w : World) :
    (execOp c.eval o).run Try.prog w = .ok (.value (.bool r)) w := by
  subst hr
  have e2 := run_eql_struct (P := Try.prog) w 34 (rowOf 21 (chF a)) (rowOf 21 (chF b))
  rw [show (10000 : Nat) = 9997 + 3 from rfl, eq_chdRef a b 9997 w] at e2
  have e3 := run_eqGuard_agg (P := Try.prog) w .eql 34 x y (rowOf 21 (chF a)) (rowOf 21 (chF b)) guardChdRef
  unfold execOp
  simp only [ho, hx, hy, Sem.run_bind, e2, e3, Result.andThen_ok, Sem.run_pure]
theorem run_neq_chdRef {a b : Chd} {r : Bool} (hr : (!sameC a b) = r) {o : Oper} {c : Act} {x y : Operand} {t : TypeId} (ho : o.op = .binOp .neq 34 x y t) (hx : c.eval x = .agg (rowOf 21 (chF a))) (hy : c.eval y = .agg (rowOf 21 (chF b))) (w : World) :
    (execOp c.eval o).run Try.prog w = .ok (.value (.bool r)) w := by
  subst hr
  have e2 := run_neq_struct (P := Try.prog) w 34 (rowOf 21 (chF a)) (rowOf 21 (chF b))
  rw [show (10000 : Nat) = 9997 + 3 from rfl, eq_chdRef a b 9997 w] at e2
  have e3 := run_eqGuard_agg (P := Try.prog) w .neq 34 x y (rowOf 21 (chF a)) (rowOf 21 (chF b)) guardChdRef
  unfold execOp
  simp only [ho, hx, hy, Sem.run_bind, e2, e3, Result.andThen_ok, Sem.run_pure]
theorem run_eql_nodRef {a b : Nod} {r : Bool} (hr : sameN a b = r) {o : Oper} {c : Act} {x y : Operand} {t : TypeId} (ho : o.op = .binOp .eql 37 x y t) (hx : c.eval x = .agg (rowOf 85 (nF a))) (hy : c.eval y = .agg (rowOf 85 (nF b))) (w : World) :
    (execOp c.eval o).run Try.prog w = .ok (.value (.bool r)) w := by
  subst hr
  have e2 := run_eql_struct (P := Try.prog) w 37 (rowOf 85 (nF a)) (rowOf 85 (nF b))
  rw [eq_nodRef a b w] at e2
  have e3 := run_eqGuard_agg (P := Try.prog) w .eql 37 x y (rowOf 85 (nF a)) (rowOf 85 (nF b)) guardNodRef
  unfold execOp
  simp only [ho, hx, hy, Sem.run_bind, e2, e3, Result.andThen_ok, Sem.run_pure]
theorem run_neq_nodRef {a b : Nod} {r : Bool} (hr : (!sameN a b) = r) {o : Oper} {c : Act} {x y : Operand} {t : TypeId} (ho : o.op = .binOp .neq 37 x y t) (hx : c.eval x = .agg (rowOf 85 (nF a))) (hy : c.eval y = .agg (rowOf 85 (nF b))) (w : World) :
    (execOp c.eval o).run Try.prog w = .ok (.value (.bool r)) w := by
  subst hr
  have e2 := run_neq_struct (P := Try.prog) w 37 (rowOf 85 (nF a)) (rowOf 85 (nF b))
  rw [eq_nodRef a b w] at e2
  have e3 := run_eqGuard_agg (P := Try.prog) w .neq 37 x y (rowOf 85 (nF a)) (rowOf 85 (nF b)) guardNodRef
  unfold execOp
  simp only [ho, hx, hy, Sem.run_bind, e2, e3, Result.andThen_ok, Sem.run_pure]
/-- x[i] of four children that are a value. -/
theorem run_index_chsRef {N : Nod} {i : Nat} (hi : i < 4) {o : Oper} {c : Act} {x y : Operand} (ho : o.op = .index 35 x y) (hx : c.eval x = .agg (rowOf 84 (chsF N))) {z : Int} (hy : c.eval y = .int .i64 z) (hz : z = (i : Int)) (w : World) :
    (execOp c.eval o).run Try.prog w = .ok (.value (.agg (rowOf 21 (chF (N.c i))))) w := by
  subst hz
  have hp := part_chdRef N i hi w
  obtain ⟨i0, hi0⟩ := elemChdRef
  have hs : (sizeOf 34).run Try.prog w = .ok 21 w := by
    have := infoChdRef
    rw [hi0] at this
    have h21 : i0.size = 21 := by simpa using this
    simp [sizeOf, typeInfo, hi0, h21]
  have e : (Instr.index 35 (.agg (rowOf 84 (chsF N))) (.int .i64 (i : Int))).run Try.prog w = .ok (.agg (rowOf 21 (chF (N.c i)))) w := by
    simp [Instr.index, asIntOf, run_underlying Try.underlying35, hs, hp, hi]
  unfold execOp
  simp only [ho, hx, hy, Sem.run_bind, e, Result.andThen_ok, Sem.run_pure]

end Go.Proofs.Ytapebaoajknepaa
