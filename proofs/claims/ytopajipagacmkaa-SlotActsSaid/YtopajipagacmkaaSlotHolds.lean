/-
  Contract: Holds.
-/
import Derived.Test.YtopajipagacmkaaSlotNewest
import Derived.Test.YtopajipagacmkaaSlotRead
import Derived.Test.YtopajipagacmkaaKeyRow
namespace Go.Proofs.Ytopajipagacmkaa
open Go.RowKit
set_option linter.unusedVariables false

/-- The keys of the first n cells that have one. -/
def heldL (c : Nat → Cel) : Nat → List (Nat → Nat)
  | 0 => []
  | i + 1 => if (c i).h = true then heldL c i ++ [(c i).k] else heldL c i
def listK (l : List (Nat → Nat)) : Nat → Nat → Nat := fun i => l.getD i zeroN
theorem heldL_yes {c : Nat → Cel} {i : Nat} (h : (c i).h = true) : heldL c (i + 1) = heldL c i ++ [(c i).k] := if_pos h
theorem heldL_no {c : Nat → Cel} {i : Nat} (h : (c i).h = false) : heldL c (i + 1) = heldL c i := if_neg (by rw [h]; decide)
theorem heldL_le (c : Nat → Cel) : ∀ n, (heldL c n).length ≤ n
  | 0 => Nat.le_refl _
  | n + 1 => by
    have := heldL_le c n
    unfold heldL
    split
    · rw [List.length_append]
      simpa using this
    · omega
/-- The cells of keys in a list. -/
def keysL (l : List (Nat → Nat)) : List Value := keyL l.length (listK l)
theorem keysL_snoc (l : List (Nat → Nat)) (k : Nat → Nat) : keysL l ++ (rowOf 16 (w8 k)).toList = keysL (l ++ [k]) := by
  unfold keysL
  rw [List.length_append]
  have e : listK (l ++ [k]) l.length = k := by unfold listK; simp
  have e2 : keyL l.length (listK l) = keyL l.length (listK (l ++ [k])) := keyL_congr fun i hi j _ => by
    unfold listK
    rw [List.getD_eq_getElem?_getD, List.getD_eq_getElem?_getD, List.getElem?_append_left hi]
  rw [e2]
  have := keyL_succ l.length (listK (l ++ [k]))
  rw [e] at this
  exact this

/-- Both cells, as an array. -/
def arrF (c : Nat → Cel) : Nat → Value := fun j => celF (c (j / 18)) (j % 18)
theorem arr_get {p : Nat} {c : Nat → Cel} : ∀ j, j < 36 → (rowOf 37 (slF p c))[1 + j]? = some (arrF c j) := fun j hj => by
  rw [rowOf_get _ _ _ (by omega)]
  unfold slF arrF
  rw [if_neg (by omega), show 1 + j - 1 = j by omega]
theorem infoCells : (Try.prog.info? 72).map (·.size) = some 36 := by kernel_rfl
theorem index_cell0 (c : Nat → Cel) (w : World) : (Instr.index 72 (.agg (rowOf 36 (arrF c))) (.int .i64 0)).run Try.prog w = .ok (.agg (rowOf 18 (celF (c 0)))) w := by kernel_rfl
theorem index_cell1 (c : Nat → Cel) (w : World) : (Instr.index 72 (.agg (rowOf 36 (arrF c))) (.int .i64 1)).run Try.prog w = .ok (.agg (rowOf 18 (celF (c 1)))) w := by kernel_rfl
theorem index_cell (c : Nat → Cel) (i : Nat) (hi : i < 2) (w : World) : (Instr.index 72 (.agg (rowOf 36 (arrF c))) (.int .i64 (i : Nat))).run Try.prog w = .ok (.agg (rowOf 18 (celF (c i)))) w :=
  match i, hi with
  | 0, _ => index_cell0 c w
  | 1, _ => index_cell1 c w
theorem run_index_cell (c : Nat → Cel) (i : Nat) (hi : i < 2) {o : Oper} {a : Act} {x y : Operand} (ho : o.op = .index 72 x y) (hx : a.eval x = .agg (rowOf 36 (arrF c))) (hy : a.eval y = .int .i64 (i : Nat)) (w : World) :
    (execOp a.eval o).run Try.prog w = .ok (.value (.agg (rowOf 18 (celF (c i))))) w := by
  unfold execOp
  simp only [ho, hx, hy, Sem.run_bind, index_cell c i hi w, Result.andThen_ok, Sem.run_pure]
theorem cel_key (c : Cel) : ∀ j, j < 16 → (rowOf 18 (celF c))[1 + j]? = some (w8 c.k j) := fun j hj => by
  rw [rowOf_get _ _ _ (by omega), celF_key _ _ hj]

set_option maxHeartbeats 2000000 in
set_option maxRecDepth 8000 in
theorem slotHolds_any (B pp sp : Nat) (S : SS) (w : World) (h : Hid (Sl B w pp sp S)) :
    Calls Try.prog 23 #[.pointer (some ⟨sp, 0, none⟩)] w fun e w' => ∃ v, e = .returned v ∧ Hid (w'.ownsRow w.heap.size 31 16 v (heldL S.c 2).length (keysL (heldL S.c 2))) ∧ Below w.heap.size w w' := by
  obtain ⟨i0, hi0, hz0, hz1, hz2⟩ := info_parts Try.infoKey
  have o0 : Hid (w.ownsRow w.heap.size 31 16 (.slice none 0 0) (heldL S.c 0).length (keysL (heldL S.c 0))) := World.ownsRow_nil _ _ _ _
  have G := Lib.hid (fun j (hj : j < 36) => arr_get (p := pp) (c := S.c) j hj)
  have hok := Lib.hid h.out.ok
  go_enter Try.func23, Try.ntmps23
  go_wp2_with (refine wpList_load_at rfl 72 _ rfl sp 1 rfl 74 _ _ 36 (arrF S.c) h.out.row G.out Try.underlying72 rfl infoCells ?_)
  go_loopw [3, 10] (fun v c wr => ∃ i : Nat, i ≤ 2 ∧ c = .int .i64 i ∧ Hid (wr.ownsRow w.heap.size 31 16 v (heldL S.c i).length (keysL (heldL S.c i))) ∧ Below w.heap.size w wr) (fun _ c _ => 2 - (intOf c).toNat)
  case atStart => exact ⟨0, Nat.zero_le _, rfl, o0, Below.refl _ _⟩
  case round =>
    clear o0 h G
    obtain ⟨i, hi, rfl, own, b1⟩ := hrel
    by_cases hlt : i < 2
    · have li : (i : Int) < 2 := by omega
      have Bl := Lib.hid (fun w' => isBlank_any (S.c i) (hok.out i) w')
      have ck := Lib.hid (cel_key (S.c i))
      have q1 := Lib.hid (RowAt.new wr 71 (rowOf 18 (celF blankC)))
      have q2 := Lib.hid (q1.out.setRow (rowOf 18 (celF (S.c i))))
      have b2 := below_setRow' (b1.alloc b1.size (.cells (rowOf 18 (celF blankC)) 71)) b1.size (rowOf 18 (celF (S.c i)))
      have o2 := Lib.hid ((own_after own.out ((Below.refl _ wr).alloc (Nat.le_refl _) (.cells (rowOf 18 (celF blankC)) 71))))
      have far1 : Beside (fun k => k = wr.heap.size) (wr.alloc (.cells (rowOf 18 (celF blankC)) 71)) ((wr.alloc (.cells (rowOf 18 (celF blankC)) 71)).setRow wr.heap.size (rowOf 18 (celF (S.c i)))) := (Beside.refl (fun k => k = wr.heap.size) _).setRow (.inl rfl) _
      have o3 := Lib.hid (own_beside o2.out far1 (fun k e1 e2 => by
        have := (own.out.lt k e1).2
        omega))
      clear far1 o2
      cases hc : (S.c i).h with
      | false =>
        rw [hc] at Bl
        have eL := Lib.hid (heldL_no hc)
        clear hc
        go_wp2_with (first | (refine wpList_known rfl (run_index_cell S.c i hlt rfl rfl rfl _) ?_) | (refine wpList_new rfl (run_allocCell rfl _) ?_) | (refine wpList_store_row rfl 71 _ _ rfl wr.heap.size (rowOf 18 (celF (S.c i))) rfl rfl 71 _ q1.out (infoCell' _) (by rw [rowOf_size, rowOf_size]) (celF_all _) ?_) | (refine wpList_load_row rfl 71 _ rfl wr.heap.size rfl 71 (rowOf 18 (celF (S.c i))) (0, 0) _ q2.out Try.underlying71 rfl (infoCell' _) ?_))
        refine (Bl.out _).mono ?_
        rintro e w3 ⟨rfl, bb⟩
        replace b2 := b2.trans (bb.mono b2.size)
        replace o3 := Lib.hid (own_after o3.out bb)
        go_wp2
        go_roundw
        case rel => exact ⟨i + 1, by omega, by go_num, by rw [eL.out]; exact o3.out, b2⟩
        case measure => simp [intOf]; omega
      | true =>
        rw [hc] at Bl
        have eL := Lib.hid (heldL_yes hc)
        have ln := heldL_le S.c i
        clear hc
        go_wp2_with (first | (refine wpList_known rfl (run_index_cell S.c i hlt rfl rfl rfl _) ?_) | (refine wpList_new rfl (run_allocCell rfl _) ?_) | (refine wpList_store_row rfl 71 _ _ rfl wr.heap.size (rowOf 18 (celF (S.c i))) rfl rfl 71 _ q1.out (infoCell' _) (by rw [rowOf_size, rowOf_size]) (celF_all _) ?_) | (refine wpList_load_row rfl 71 _ rfl wr.heap.size rfl 71 (rowOf 18 (celF (S.c i))) (0, 0) _ q2.out Try.underlying71 rfl (infoCell' _) ?_))
        refine (Bl.out _).mono ?_
        rintro e w3 ⟨rfl, bb⟩
        replace b2 := b2.trans (bb.mono b2.size)
        replace o3 := Lib.hid (own_after o3.out bb)
        replace q2 := Lib.hid (q2.out.below bb q2.out.lt)
        clear bb q1 own
        generalize wr.heap.size = gq at *
        have q4 := Lib.hid (RowAt.new w3 31 (rowOf 16 (w8 (S.c i).k)))
        have o4 := Lib.hid (o3.out.alloc (.cells (rowOf 16 (w8 (S.c i).k)) 31))
        have b4 := b2.alloc b2.size (.cells (rowOf 16 (w8 (S.c i).k)) 31)
        have n4 := Lib.hid (news_row q4.out)
        have ks := Lib.hid (keysL_snoc (heldL S.c i) (S.c i).k)
        have lk := Lib.hid (show (rowOf 16 (w8 (S.c i).k)).toList.length = 1 * 16 from rfl)
        generalize (S.c i).k = F at *
        generalize hLi : (heldL S.c i).length = m at *
        replace hLi := Lib.hid hLi
        go_wp2_with (first | (refine wpList_load_at rfl 31 _ rfl gq 1 rfl 71 _ _ 16 (w8 F) q2.out ck.out Try.underlying31 rfl info_key18 ?_) | (refine wpList_build_one rfl _ rfl F rfl ?_) | (refine wpList_append_own_at _ rfl _ _ 52 rfl w.heap.size 31 i0 (.agg (rowOf 16 (w8 zeroN))) 16 16 Try.underlying52 hi0 hz0 hz1 hz2 rfl (by decide) _ m (keysL (heldL S.c i)) rfl o4.out ⟨w3.heap.size, 0, none⟩ 1 1 (rowOf 16 (w8 F)).toList rfl lk.out n4.out (row_one 16 F) (by unfold maxLen; omega) (by omega) b4.size ?_; intro v' w5 hown' hgrow hnil hloc; replace hown' := Lib.hid hown'; replace hgrow := Lib.hid hgrow; clear hnil hloc))
        go_roundw
        case rel => exact ⟨i + 1, by omega, by go_num, by rw [eL.out, List.length_append, hLi.out, ← ks.out]; exact hown'.out, b4.grown hgrow.out b4.size (fun k hk => (o3.out.lt k hk).1)⟩
        case measure => simp [intOf]; omega
    · have li : ¬ (i : Int) < 2 := by omega
      have ei : i = 2 := by omega
      subst ei
      go_wp2
      go_ret
      exact ⟨_, rfl, own, b1⟩

end Go.Proofs.Ytopajipagacmkaa
