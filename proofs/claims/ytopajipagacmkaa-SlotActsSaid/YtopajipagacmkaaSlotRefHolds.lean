/-
  Contracts: the document's Newest, Holds.
-/
import Derived.Test.YtopajipagacmkaaSlotRefAsk
import Derived.Test.YtopajipagacmkaaSlotHolds
namespace Go.Proofs.Ytopajipagacmkaa
open Go.RowKit
set_option linter.unusedVariables false

set_option maxHeartbeats 4000000 in
set_option maxRecDepth 8000 in
theorem refSNewest_any (S : SS) (hok : ∀ i, OkC (S.c i)) (w : World) :
    Calls Try.prog 20 #[.agg (rowOf 40 (rsF S))] w fun e w' => e = .returned (.tuple #[.int .i64 (newestI S : Nat), .int .i64 (newestE S : Nat)]) ∧ Below w.heap.size w w' := by
  have b0 : Below w.heap.size w (w.alloc (.cells (rowOf 40 (rsF S)) 37)) := (Below.refl _ _).alloc (Nat.le_refl _) _
  have r0 := Lib.hid (RowAt.new w 37 (rowOf 40 (rsF S)))
  obtain ⟨x0, hx0⟩ : ∃ x : Int, Hid (((S.c 0).e : Int) = x) := ⟨_, rfl⟩
  obtain ⟨x1, hx1⟩ : ∃ x : Int, Hid (((S.c 1).e : Int) = x) := ⟨_, rfl⟩
  have c0 := rsOff r0.out
  have k0 := rsIs r0.out (i := 0) (by decide)
  have k1 := rsIs r0.out (i := 1) (by decide)
  have y0 := rsEp r0.out (i := 0) (by decide)
  have y1 := rsEp r0.out (i := 1) (by decide)
  rw [hx0.out] at y0
  rw [hx1.out] at y1
  simp only [Nat.zero_mul, Nat.one_mul, Nat.add_zero, Nat.reduceAdd] at k0 k1 y0 y1
  by_cases hu : S.p.up = false
  · have e1 : Hid (newestI S = 0) := if_pos hu
    have e2 : Hid (newestE S = 4) := if_pos hu
    rw [hu, Bool.not_false] at c0
    clear hu k0 k1 y0 y1
    go_enter Try.func20, Try.ntmps20
    go_wp2
    go_ret2
    exact ⟨by rw [e1.out, e2.out]; rfl, b0⟩
  have hu' : S.p.up = true := by simpa using hu
  rw [hu', Bool.not_true] at c0
  cases h0 : (S.c 0).h with
  | false =>
    rw [h0] at k0
    cases h1 : (S.c 1).h with
    | false =>
      rw [h1] at k1
      have e1 : Hid (newestI S = 0) := by unfold Hid newestI; rw [if_neg hu, if_pos ⟨h0, h1⟩]
      have e2 : Hid (newestE S = 110) := by unfold Hid newestE; rw [if_neg hu, if_pos ⟨h0, h1⟩]
      clear hu hu' h0 h1 y0 y1
      go_enter Try.func20, Try.ntmps20
      go_wp2
      go_ret2
      exact ⟨by rw [e1.out, e2.out]; rfl, b0⟩
    | true =>
      rw [h1] at k1
      have e1 : Hid (newestI S = 1) := by unfold Hid newestI; rw [if_neg hu, if_neg (by rw [h1]; simp), if_pos (.inl h0)]
      have e2 : Hid (newestE S = 0) := by unfold Hid newestE; rw [if_neg hu, if_neg (by rw [h1]; simp)]
      clear hu hu' h0 h1 y0 y1
      go_enter Try.func20, Try.ntmps20
      go_wp2
      go_ret2
      exact ⟨by rw [e1.out, e2.out]; rfl, b0⟩
  | true =>
    rw [h0] at k0
    have e2 : Hid (newestE S = 0) := by unfold Hid newestE; rw [if_neg hu, if_neg (by rw [h0]; simp)]
    cases h1 : (S.c 1).h with
    | false =>
      rw [h1] at k1
      have e1 : Hid (newestI S = 0) := by
        unfold Hid newestI
        rw [if_neg hu, if_neg (by rw [h0]; simp), if_neg (by rw [h0, (hok 1).no h1]; simp [blankC])]
      clear hu hu' h0 h1 y0 y1
      go_enter Try.func20, Try.ntmps20
      go_wp2
      go_ret2
      exact ⟨by rw [e1.out, e2.out]; rfl, b0⟩
    | true =>
      rw [h1] at k1
      by_cases hl : (S.c 0).e < (S.c 1).e
      · have e1 : Hid (newestI S = 1) := by unfold Hid newestI; rw [if_neg hu, if_neg (by rw [h0]; simp), if_pos (.inr hl)]
        have d1 : decide (x1 > x0) = true := decide_eq_true (by have := hx0.out; have := hx1.out; omega)
        clear hu hu' h0 h1 hl
        go_enter Try.func20, Try.ntmps20
        go_wp2
        go_ret2
        exact ⟨by rw [e1.out, e2.out]; rfl, b0⟩
      · have e1 : Hid (newestI S = 0) := by unfold Hid newestI; rw [if_neg hu, if_neg (by rw [h0]; simp), if_neg (by rw [h0]; simpa using hl)]
        have d1 : decide (x1 > x0) = false := decide_eq_false (by have := hx0.out; have := hx1.out; omega)
        clear hu hu' h0 h1 hl
        go_enter Try.func20, Try.ntmps20
        go_wp2
        go_ret2
        exact ⟨by rw [e1.out, e2.out]; rfl, b0⟩

/-- A row of another type, behind an append. -/
theorem RowAt.grown {w w' : World} {p : Nat} {t e : TypeId} {cs : Array Value} {base size n : Nat} {v : Value} {xs : List Value} (h : RowAt w p t cs) (g : w.grownBy w' v.ownBlock) (k : w.ownsRow base e size v n xs) (hne : t ≠ e) : RowAt w' p t cs :=
  h.beside (F := fun k => v.ownBlock = some k) ((Beside.refl _ _).grown g fun k e => .inl e) (h.not_own k hne)

set_option maxHeartbeats 2000000 in
set_option maxRecDepth 8000 in
theorem refSHolds_any (S : SS) (w : World) :
    Calls Try.prog 24 #[.agg (rowOf 40 (rsF S))] w fun e w' => ∃ v, e = .returned v ∧ Hid (w'.ownsRow w.heap.size 31 16 v (heldL S.c 2).length (keysL (heldL S.c 2))) ∧ Below w.heap.size w w' := by
  obtain ⟨i0, hi0, hz0, hz1, hz2⟩ := info_parts Try.infoKey
  have bb : Below w.heap.size w (w.alloc (.cells (rowOf 40 (rsF S)) 37)) := (Below.refl _ _).alloc (Nat.le_refl _) _
  have r0 := Lib.hid ((RowAt.new w 37 (rowOf 40 (rsF S))).alloc (.cells #[] 31))
  have o0 : Hid (((w.alloc (.cells (rowOf 40 (rsF S)) 37)).alloc (.cells #[] 31)).ownsRow w.heap.size 31 16 (.slice (some ⟨w.heap.size + 1, 0, none⟩) 0 0) (heldL S.c 0).length (keysL (heldL S.c 0))) := by
    have := World.ownsRow_made (e := 31) (size := 16) (base := w.heap.size) (w.alloc (.cells (rowOf 40 (rsF S)) 37)) #[] 0 (by rw [World.size_alloc]; omega) (by decide) rfl
    rw [World.size_alloc] at this
    exact this
  have b0 := bb.alloc (show w.heap.size ≤ _ from bb.size) (.cells #[] 31)
  clear bb
  go_enter Try.func24, Try.ntmps24
  go_wp2
  generalize (w.alloc (.cells (rowOf 40 (rsF S)) 37)).alloc (.cells #[] 31) = w0 at *
  go_loopw [3, 4] (fun v c wr => ∃ i : Nat, i ≤ 2 ∧ c = .int .i64 i ∧ Hid (RowAt wr w.heap.size 37 (rowOf 40 (rsF S))) ∧ Hid (wr.ownsRow w.heap.size 31 16 v (heldL S.c i).length (keysL (heldL S.c i))) ∧ Below w.heap.size w wr) (fun _ c _ => 2 - (intOf c).toNat)
  case atStart => exact ⟨0, Nat.zero_le _, rfl, r0, o0, b0⟩
  case round =>
    clear o0 r0 b0
    obtain ⟨i, hi, rfl, r1, own, b1⟩ := hrel
    by_cases hlt : i < 2
    · have li : (i : Int) < 2 := by omega
      have ci := rsIs r1.out hlt
      cases hc : (S.c i).h with
      | false =>
        rw [hc] at ci
        have eL := Lib.hid (heldL_no hc)
        clear hc
        go_wp2
        go_roundw
        case rel => exact ⟨i + 1, by omega, by go_num, r1, by rw [eL.out]; exact own, b1⟩
        case measure => simp [intOf]; omega
      | true =>
        rw [hc] at ci
        have eL := Lib.hid (heldL_yes hc)
        have ln := heldL_le S.c i
        clear hc
        have G := Lib.hid (rs_key S hlt)
        have q4 := Lib.hid (RowAt.new wr 31 (rowOf 16 (w8 (S.c i).k)))
        have o4 := Lib.hid (own.out.alloc (.cells (rowOf 16 (w8 (S.c i).k)) 31))
        have r4 := Lib.hid (r1.out.alloc (.cells (rowOf 16 (w8 (S.c i).k)) 31))
        have b4 := b1.alloc b1.size (.cells (rowOf 16 (w8 (S.c i).k)) 31)
        have n4 := Lib.hid (news_row q4.out)
        have ks := Lib.hid (keysL_snoc (heldL S.c i) (S.c i).k)
        have lk := Lib.hid (show (rowOf 16 (w8 (S.c i).k)).toList.length = 1 * 16 from rfl)
        generalize (S.c i).k = F at *
        generalize hLi : (heldL S.c i).length = m at *
        replace hLi := Lib.hid hLi
        go_wp2_with (first | (refine wpList_load_at rfl 31 _ rfl w.heap.size (4 + i * 18 + 1) rfl 37 _ _ 16 (w8 F) r1.out G.out Try.underlying31 rfl info_key18 ?_) | (refine wpList_build_one rfl _ rfl F rfl ?_) | (refine wpList_append_own_at _ rfl _ _ 52 rfl w.heap.size 31 i0 (.agg (rowOf 16 (w8 zeroN))) 16 16 Try.underlying52 hi0 hz0 hz1 hz2 rfl (by decide) _ m (keysL (heldL S.c i)) rfl o4.out ⟨wr.heap.size, 0, none⟩ 1 1 (rowOf 16 (w8 F)).toList rfl lk.out n4.out (row_one 16 F) (by unfold maxLen; omega) (by omega) b4.size ?_; intro v' w5 hown' hgrow hnil hloc; replace hown' := Lib.hid hown'; replace hgrow := Lib.hid hgrow; clear hnil hloc))
        go_roundw
        case rel => exact ⟨i + 1, by omega, by go_num, Lib.hid (r4.out.grown hgrow.out o4.out (by decide)), by rw [eL.out, List.length_append, hLi.out, ← ks.out]; exact hown'.out, b4.grown hgrow.out b4.size (fun k hk => (own.out.lt k hk).1)⟩
        case measure => simp [intOf]; omega
    · have li : ¬ (i : Int) < 2 := by omega
      have ei : i = 2 := by omega
      subst ei
      go_wp2
      go_ret
      exact ⟨_, rfl, own, b1⟩

end Go.Proofs.Ytopajipagacmkaa
