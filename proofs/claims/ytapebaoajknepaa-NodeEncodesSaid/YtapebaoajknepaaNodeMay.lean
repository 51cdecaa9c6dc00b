/-
  Contracts: isBelow, mayChild, May, Empty.
-/
import Derived.Test.YtapebaoajknepaaNodeEq
import Derived.Test.YtapebaoajknepaaWant
import Derived.Test.YtapebaoajknepaaGetCell
import Derived.Test.YtapebaoajknepaaApart
import Derived.Great.BuildSlice
namespace Go.Proofs.Ytapebaoajknepaa
open Go.RowKit
set_option linter.unusedVariables false

theorem results_row_solo {P : Program} {fn : Func} {p : Tmp} {ty : TypeId} (h : fn.results = #[.cell p ty]) (tmps : Array Value) (w : World) (g : Nat) (t : TypeId) (cs : Array Value) (fr : Nat × Nat) (d : TypeDesc)
    (hp : tmps.getD p undef = .pointer (some ⟨g, 0, none⟩)) (hg : w.heap[g]? = some (.cells cs t fr))
    (hu : P.underlying ty = some d) (hd : (match d with | .struct _ | .array _ _ => true | _ => false) = true) (hi : (P.info? ty).map (·.size) = some cs.size) :
    (results fn tmps).run P w = .ok (.agg cs) w := by
  have hp' : tmps[p]?.getD undef = .pointer (some ⟨g, 0, none⟩) := by simpa using hp
  simp [results, h, hp', asAddr, run_loadVar_row w g t ty cs fr d hg hu hd hi]

set_option maxRecDepth 8000 in
theorem isBelow_any (n b : Int) (w : World) :
    Calls Try.prog 32 #[.int .i64 n, .int .i64 b] w fun e w' => e = .returned (.bool (decide (0 ≤ n) && decide (n < b))) ∧ w' = w := by
  cases h1 : decide (0 ≤ n) with
  | false =>
    have h1' : decide (n ≥ 0) = false := h1
    go_enter Try.func32, Try.ntmps32
    go_wp2
    go_ret
    exact ⟨rfl, rfl⟩
  | true =>
    have h1' : decide (n ≥ 0) = true := h1
    cases h2 : decide (n < b) with
    | false =>
      go_enter Try.func32, Try.ntmps32
      go_wp2
      go_ret
      exact ⟨rfl, rfl⟩
    | true =>
      go_enter Try.func32, Try.ntmps32
      go_wp2
      go_ret
      exact ⟨rfl, rfl⟩

set_option maxHeartbeats 4000000 in
set_option maxRecDepth 8000 in
theorem mayChild_any (c : Chd) (l : Bool) (w : World) :
    Calls Try.prog 28 #[.agg (rowOf 21 (chF c)), .bool l] w fun e w' => e = .returned (.bool (mayC c l)) ∧ Below w.heap.size w w' := by
  have b0 : Below w.heap.size w (w.alloc (.cells (rowOf 21 (chF c)) 26)) := (Below.refl _ _).alloc (Nat.le_refl _) _
  have r0 := RowAt.new w 26 (rowOf 21 (chF c))
  have c0 : (w.alloc (.cells (rowOf 21 (chF c)) 26)).cell? ⟨w.heap.size, 0, none⟩ = some (.bool c.h) := r0.cell 0 (by decide)
  have c1 : (w.alloc (.cells (rowOf 21 (chF c)) 26)).cell? ⟨w.heap.size, 1, none⟩ = some (.int .i64 c.s) := r0.cell 1 (by decide)
  have c2 : (w.alloc (.cells (rowOf 21 (chF c)) 26)).cell? ⟨w.heap.size, 2, none⟩ = some (.int .i64 c.p) := r0.cell 2 (by decide)
  have c4 : (w.alloc (.cells (rowOf 21 (chF c)) 26)).cell? ⟨w.heap.size, 19, none⟩ = some (.int .u64 (c.x : Nat)) := r0.cell 19 (by decide)
  have c5 : (w.alloc (.cells (rowOf 21 (chF c)) 26)).cell? ⟨w.heap.size, 20, none⟩ = some (.int .u64 (c.v : Nat)) := r0.cell 20 (by decide)
  replace r0 := Lib.hid r0
  cases hh : c.h with
  | false =>
    have em : Hid (mayC c l = sameC c noChd) := if_pos hh
    rw [hh] at c0
    go_enter Try.func28, Try.ntmps28
    go_wp2_with (first | (refine wpList_load_row rfl 26 _ rfl w.heap.size rfl 26 (rowOf 21 (chF c)) (0, 0) _ r0.out Try.underlying26 rfl (infoChd' _) ?_) | (refine wpList_buildTo rfl 26 _ rfl _ rfl (rowOf 21 (chF noChd)) (by kernel_rfl) ?_) | (refine wpList_known rfl (run_eql_chd rfl rfl rfl rfl _) ?_))
    go_ret
    exact ⟨by rw [em.out]; rfl, b0⟩
  | true =>
    have em : Hid (mayC c l = ((l || (decide (c.x = 0) && decide (c.v = 0))) && ((decide (0 ≤ c.s) && decide (c.s < 64)) && (decide (0 ≤ c.p) && decide (c.p < 16))))) := if_neg (by rw [hh]; decide)
    rw [hh] at c0
    have K := Lib.hid (fun z b => isBelow_any z b (w.alloc (.cells (rowOf 21 (chF c)) 26)))
    clear hh
    generalize c.s = s at *
    generalize c.p = p at *
    generalize c.x = x at *
    generalize c.v = v at *
    have fin : ∀ u : Bool, Hid ((l || (decide (x = 0) && decide (v = 0))) = u) → Hid (mayC c l = (u && ((decide (0 ≤ s) && decide (s < 64)) && (decide (0 ≤ p) && decide (p < 16))))) := fun u hu => by rw [← hu.out]; exact em
    clear em
    cases l with
    | true =>
      have em := fin true rfl
      clear fin
      rw [Bool.true_and] at em
      have K1 := Lib.hid (K.out s 64)
      have K2 := Lib.hid (K.out p 16)
      clear K
      cases hb : (decide (0 ≤ s) && decide (s < 64)) with
      | false =>
        rw [hb, Bool.false_and] at em
        replace K1 : Hid (Calls Try.prog 32 #[.int .i64 s, .int .i64 64] (w.alloc (.cells (rowOf 21 (chF c)) 26)) fun e w' => e = .returned (.bool false) ∧ w' = (w.alloc (.cells (rowOf 21 (chF c)) 26))) := by have := K1.out; rw [hb] at this; exact this
        clear hb
        go_enter Try.func28, Try.ntmps28
        go_wp2_with fail
        refine K1.out.mono ?_
        rintro e w1 ⟨rfl, rfl⟩
        go_wp2
        go_ret
        exact ⟨by rw [em.out]; rfl, b0⟩
      | true =>
        rw [hb, Bool.true_and] at em
        replace K1 : Hid (Calls Try.prog 32 #[.int .i64 s, .int .i64 64] (w.alloc (.cells (rowOf 21 (chF c)) 26)) fun e w' => e = .returned (.bool true) ∧ w' = (w.alloc (.cells (rowOf 21 (chF c)) 26))) := by have := K1.out; rw [hb] at this; exact this
        clear hb
        generalize (decide (0 ≤ p) && decide (p < 16)) = bp at *
        go_enter Try.func28, Try.ntmps28
        go_wp2_with fail
        refine K1.out.mono ?_
        rintro e w1 ⟨rfl, rfl⟩
        go_wp2_with fail
        refine K2.out.mono ?_
        rintro e w1 ⟨rfl, rfl⟩
        go_wp2
        go_ret
        exact ⟨by rw [em.out]; rfl, b0⟩
    | false =>
      cases hx : ((x : Int) != 0) with
      | true =>
        have em := fin false (by have : x ≠ 0 := by simpa using hx
                                 unfold Hid; simp [this])
        clear fin
        go_enter Try.func28, Try.ntmps28
        go_wp2
        go_ret
        exact ⟨by rw [em.out]; rfl, b0⟩
      | false =>
        cases hv : ((v : Int) != 0) with
        | true =>
          have em := fin false (by have : v ≠ 0 := by simpa using hv
                                   unfold Hid; simp [this])
          clear fin
          go_enter Try.func28, Try.ntmps28
          go_wp2
          go_ret
          exact ⟨by rw [em.out]; rfl, b0⟩
        | false =>
          have em := fin true (by have h1 : x = 0 := by simpa using hx
                                  have h2 : v = 0 := by simpa using hv
                                  unfold Hid; simp [h1, h2])
          clear fin
          rw [Bool.true_and] at em
          have K1 := Lib.hid (K.out s 64)
          have K2 := Lib.hid (K.out p 16)
          clear K
          cases hb : (decide (0 ≤ s) && decide (s < 64)) with
          | false =>
            rw [hb, Bool.false_and] at em
            replace K1 : Hid (Calls Try.prog 32 #[.int .i64 s, .int .i64 64] (w.alloc (.cells (rowOf 21 (chF c)) 26)) fun e w' => e = .returned (.bool false) ∧ w' = (w.alloc (.cells (rowOf 21 (chF c)) 26))) := by have := K1.out; rw [hb] at this; exact this
            clear hb
            go_enter Try.func28, Try.ntmps28
            go_wp2_with fail
            refine K1.out.mono ?_
            rintro e w1 ⟨rfl, rfl⟩
            go_wp2
            go_ret
            exact ⟨by rw [em.out]; rfl, b0⟩
          | true =>
            rw [hb, Bool.true_and] at em
            replace K1 : Hid (Calls Try.prog 32 #[.int .i64 s, .int .i64 64] (w.alloc (.cells (rowOf 21 (chF c)) 26)) fun e w' => e = .returned (.bool true) ∧ w' = (w.alloc (.cells (rowOf 21 (chF c)) 26))) := by have := K1.out; rw [hb] at this; exact this
            clear hb
            generalize (decide (0 ≤ p) && decide (p < 16)) = bp at *
            go_enter Try.func28, Try.ntmps28
            go_wp2_with fail
            refine K1.out.mono ?_
            rintro e w1 ⟨rfl, rfl⟩
            go_wp2_with fail
            refine K2.out.mono ?_
            rintro e w1 ⟨rfl, rfl⟩
            go_wp2
            go_ret
            exact ⟨by rw [em.out]; rfl, b0⟩

theorem nF_chs (N : Nod) (j : Nat) : nF N (1 + j) = chsF N j := by
  unfold nF chsF
  rw [if_neg (by omega), show 1 + j - 1 = j by omega]
theorem rowOf_oneC {n : Nat} {F : Nat → Value} (h : ∀ j, (F j).oneCell' = true) : (rowOf n F).all (·.oneCell') = true := by
  rw [Array.all_eq_true]
  intro i hi
  rw [rowOf_size] at hi
  have : (rowOf n F)[i]? = some (F i) := rowOf_get n F i hi
  rw [Array.getElem?_eq_getElem (by rw [rowOf_size]; exact hi)] at this
  rw [Option.some.inj this]
  exact h i

set_option maxHeartbeats 4000000 in
set_option maxRecDepth 8000 in
theorem may_any (N : Nod) (w : World) :
    Calls Try.prog 13 #[.agg (rowOf 85 (nF N))] w fun e w' => e = .returned (.bool (mayN N)) ∧ Below w.heap.size w w' := by
  have b0 := Lib.hid ((Below.refl _ w).alloc (Nat.le_refl _) (.cells (rowOf 85 (nF N)) 29))
  have r0 := Lib.hid (RowAt.new w 29 (rowOf 85 (nF N)))
  go_enter Try.func13, Try.ntmps13
  go_wp2_with (refine wpList_load_at rfl 27 _ rfl w.heap.size 1 rfl 29 _ _ 84 (chsF N) r0.out (fun j hj => by rw [rowOf_get _ _ _ (by omega), nF_chs]) Try.underlying27 rfl infoChs ?_)
  generalize w.alloc (.cells (rowOf 85 (nF N)) 29) = w0 at *
  go_loopw [7] (fun v wr => ∃ i : Nat, i ≤ 4 ∧ v = .int .i64 (i : Int) ∧ Hid (∀ j, j < i → mayC (N.c j) N.l = true) ∧ Hid (RowAt wr w.heap.size 29 (rowOf 85 (nF N))) ∧ Hid (Below w.heap.size w wr)) (fun v _ => 4 - (intOf v).toNat)
  case atStart => exact ⟨0, by decide, rfl, fun j hj => by omega, r0, b0⟩
  case round =>
    clear r0 b0
    obtain ⟨i, hi, rfl, ok, rr, bb⟩ := hrel
    by_cases hi4 : i < 4
    · have l0 : (i : Int) < 4 := by omega
      have n0 : wr.cell? ⟨w.heap.size, 0, none⟩ = some (.bool N.l) := rr.out.cell 0 (by decide)
      have rc := Lib.hid (RowAt.new wr 26 (rowOf 21 (chF (N.c i))))
      have bc := Lib.hid ((Below.refl _ wr).alloc (Nat.le_refl _) (.cells (rowOf 21 (chF (N.c i))) 26))
      have K := Lib.hid (fun W => mayChild_any (N.c i) N.l W)
      go_wp2_with (first | (refine wpList_known rfl (run_index_chs hi4 rfl rfl rfl rfl _) ?_) | (refine wpList_store_row rfl 26 _ _ rfl wr.heap.size (rowOf 21 (chF (N.c i))) rfl rfl 26 _ (RowAt.new _ _ _) (infoChd' _) (by rw [rowOf_size]; rfl) (rowOf_oneC (chF_one _)) ?_; rw [World.setRow_alloc_new]; refine Hid.out ?_))
      unfold Hid
      have rn := Lib.hid (rr.out.below bc.out rr.out.lt)
      have bn := Lib.hid (bb.out.trans (bc.out.mono bb.out.size))
      have n1 : (wr.alloc (.cells (rowOf 21 (chF (N.c i))) 26)).cell? ⟨w.heap.size, 0, none⟩ = some (.bool N.l) := rn.out.cell 0 (by decide)
      have x0 : (wr.alloc (.cells (rowOf 21 (chF (N.c i))) 26)).cell? ⟨wr.heap.size, 0, none⟩ = some (.bool (N.c i).h) := rc.out.cell 0 (by decide)
      clear n0 rr bb bc
      generalize wr.alloc (.cells (rowOf 21 (chF (N.c i))) 26) = w1 at *
      replace K := Lib.hid (K.out w1)
      cases hh : mayC (N.c i) N.l with
      | false =>
        have em : Hid (mayN N = false) := mayN_no hi4 hh
        rw [hh] at K
        clear hh
        go_wp2_with (refine wpList_load_row rfl 26 _ rfl wr.heap.size rfl 26 (rowOf 21 (chF (N.c i))) (0, 0) _ rc.out Try.underlying26 rfl (infoChd' _) ?_)
        refine K.out.mono ?_
        rintro e w2 ⟨rfl, b2⟩
        go_wp2
        go_ret
        exact ⟨by rw [em.out]; rfl, bn.out.trans (b2.mono bn.out.size)⟩
      | true =>
        have ok2 : Hid (∀ j, j < i + 1 → mayC (N.c j) N.l = true) := fun j hj => by
          by_cases e : j = i
          · rw [e]; exact hh
          · exact ok.out j (by omega)
        rw [hh] at K
        clear hh ok
        go_wp2_with (refine wpList_load_row rfl 26 _ rfl wr.heap.size rfl 26 (rowOf 21 (chF (N.c i))) (0, 0) _ rc.out Try.underlying26 rfl (infoChd' _) ?_)
        refine K.out.mono ?_
        rintro e w2 ⟨rfl, b2⟩
        have rn2 := Lib.hid (rn.out.below b2 rn.out.lt)
        have bn2 := Lib.hid (bn.out.trans (b2.mono bn.out.size))
        clear n1 x0 K b2 rc
        go_wp2
        go_roundw
        case rel => exact ⟨i + 1, by omega, by go_num, ok2, rn2, bn2⟩
        case measure => simp [intOf]; omega
    · have ei : i = 4 := by omega
      subst ei
      have l0 : ¬ ((4 : Nat) : Int) < 4 := by omega
      have em : Hid (mayN N = true) := (mayN_iff N).2 ok.out
      go_wp2
      go_ret
      exact ⟨by rw [em.out]; rfl, bb.out⟩

set_option maxHeartbeats 4000000 in
set_option maxRecDepth 8000 in
theorem empty_any (N : Nod) (w : World) :
    Calls Try.prog 15 #[.agg (rowOf 85 (nF N))] w fun e w' => e = .returned (.bool (emptyN N)) ∧ Below w.heap.size w w' := by
  have b0 := Lib.hid ((Below.refl _ w).alloc (Nat.le_refl _) (.cells (rowOf 85 (nF N)) 29))
  have r0 := Lib.hid (RowAt.new w 29 (rowOf 85 (nF N)))
  go_enter Try.func15, Try.ntmps15
  go_wp2_with (refine wpList_load_at rfl 27 _ rfl w.heap.size 1 rfl 29 _ _ 84 (chsF N) r0.out (fun j hj => by rw [rowOf_get _ _ _ (by omega), nF_chs]) Try.underlying27 rfl infoChs ?_)
  generalize w.alloc (.cells (rowOf 85 (nF N)) 29) = w0 at *
  go_loopw [7] (fun v wr => ∃ i : Nat, i ≤ 4 ∧ v = .int .i64 (i : Int) ∧ Hid (∀ j, j < i → (N.c j).h = false) ∧ Hid (RowAt wr w.heap.size 29 (rowOf 85 (nF N))) ∧ Hid (Below w.heap.size w wr)) (fun v _ => 4 - (intOf v).toNat)
  case atStart => exact ⟨0, by decide, rfl, fun j hj => by omega, r0, b0⟩
  case round =>
    clear r0 b0
    obtain ⟨i, hi, rfl, ok, rr, bb⟩ := hrel
    by_cases hi4 : i < 4
    · have l0 : (i : Int) < 4 := by omega
      have n0 : wr.cell? ⟨w.heap.size, 0, none⟩ = some (.bool N.l) := rr.out.cell 0 (by decide)
      have rc := Lib.hid (RowAt.new wr 26 (rowOf 21 (chF (N.c i))))
      have bc := Lib.hid ((Below.refl _ wr).alloc (Nat.le_refl _) (.cells (rowOf 21 (chF (N.c i))) 26))
      have K := Lib.hid (fun W => Eq.refl (W : World))
      go_wp2_with (first | (refine wpList_known rfl (run_index_chs hi4 rfl rfl rfl rfl _) ?_) | (refine wpList_store_row rfl 26 _ _ rfl wr.heap.size (rowOf 21 (chF (N.c i))) rfl rfl 26 _ (RowAt.new _ _ _) (infoChd' _) (by rw [rowOf_size]; rfl) (rowOf_oneC (chF_one _)) ?_; rw [World.setRow_alloc_new]; refine Hid.out ?_))
      unfold Hid
      have rn := Lib.hid (rr.out.below bc.out rr.out.lt)
      have bn := Lib.hid (bb.out.trans (bc.out.mono bb.out.size))
      have n1 : (wr.alloc (.cells (rowOf 21 (chF (N.c i))) 26)).cell? ⟨w.heap.size, 0, none⟩ = some (.bool N.l) := rn.out.cell 0 (by decide)
      have x0 : (wr.alloc (.cells (rowOf 21 (chF (N.c i))) 26)).cell? ⟨wr.heap.size, 0, none⟩ = some (.bool (N.c i).h) := rc.out.cell 0 (by decide)
      clear n0 rr bb bc
      generalize wr.alloc (.cells (rowOf 21 (chF (N.c i))) 26) = w1 at *
      cases hh : (N.c i).h with
      | true =>
        have em : Hid (emptyN N = false) := emptyN_no hi4 hh
        rw [hh] at x0
        go_wp2
        go_ret
        exact ⟨by rw [em.out]; rfl, bn.out⟩
      | false =>
        have ok2 : Hid (∀ j, j < i + 1 → (N.c j).h = false) := fun j hj => by
          by_cases e : j = i
          · rw [e]; exact hh
          · exact ok.out j (by omega)
        rw [hh] at x0
        clear hh ok
        go_wp2
        go_roundw
        case rel => exact ⟨i + 1, by omega, by go_num, ok2, rn, bn⟩
        case measure => simp [intOf]; omega
    · have ei : i = 4 := by omega
      subst ei
      have l0 : ¬ ((4 : Nat) : Int) < 4 := by omega
      have em : Hid (emptyN N = true) := (emptyN_iff N).2 ok.out
      go_wp2
      go_ret
      exact ⟨by rw [em.out]; rfl, bb.out⟩

end Go.Proofs.Ytapebaoajknepaa
