/-
  Contract: the reader's child.
-/
import Derived.Test.YtapebaoajknepaaNodeRead
namespace Go.Proofs.Ytapebaoajknepaa
open Go.RowKit
set_option linter.unusedVariables false

theorem chF_h (c : Chd) (b : Bool) : (rowOf 21 (chF c)).setIfInBounds 0 (.bool b) = rowOf 21 (chF { c with h := b }) := by
  rw [rowOf_set]
  refine rowOf_congr fun k hk => ?_
  unfold chF
  by_cases e : k = 0 <;> simp [e]
theorem chF_s (c : Chd) (z : Int) : (rowOf 21 (chF c)).setIfInBounds 1 (.int .i64 z) = rowOf 21 (chF { c with s := z }) := by
  rw [rowOf_set]
  refine rowOf_congr fun k hk => ?_
  unfold chF
  by_cases e : k = 1 <;> simp [e]
theorem chF_p (c : Chd) (z : Int) : (rowOf 21 (chF c)).setIfInBounds 2 (.int .i64 z) = rowOf 21 (chF { c with p := z }) := by
  rw [rowOf_set]
  refine rowOf_congr fun k hk => ?_
  unfold chF
  by_cases e : k = 2 <;> simp [e]
theorem chF_x (c : Chd) (z : Nat) : (rowOf 21 (chF c)).setIfInBounds 19 (.int .u64 (z : Int)) = rowOf 21 (chF { c with x := z }) := by
  rw [rowOf_set]
  refine rowOf_congr fun k hk => ?_
  unfold chF
  by_cases e : k = 19 <;> simp [e]
theorem chF_v (c : Chd) (z : Nat) : (rowOf 21 (chF c)).setIfInBounds 20 (.int .u64 (z : Int)) = rowOf 21 (chF { c with v := z }) := by
  rw [rowOf_set]
  refine rowOf_congr fun k hk => ?_
  unfold chF
  by_cases e : k = 20
  · simp [e]
  · rw [if_neg e]
    by_cases h0 : k = 0
    · simp [h0]
    · by_cases h1 : k = 1
      · simp [h1]
      · by_cases h2 : k = 2
        · simp [h2]
        · by_cases h3 : k < 19
          · simp [h0, h1, h2, h3]
          · have h4 : k = 19 := by omega
            simp [h4]
theorem chF_k (c : Chd) (f : Nat → Nat) : rowOf 21 (laidV (chF c) (w8 f) 3 16) = rowOf 21 (chF { c with k := f }) := rowOf_congr fun j hj => by
  unfold laidV
  by_cases h : 3 ≤ j ∧ j < 3 + 16
  · rw [if_pos h]
    unfold chF
    rw [if_neg (by omega), if_neg (by omega), if_neg (by omega), if_pos (by omega)]
    rfl
  · rw [if_neg h]
    unfold chF
    by_cases h0 : j = 0
    · simp [h0]
    · by_cases h1 : j = 1
      · simp [h1]
      · by_cases h2 : j = 2
        · simp [h2]
        · have h3 : ¬ j < 19 := by omega
          simp [h0, h1, h2, h3]
section
variable {l : Bool} {L L1 : List UInt8} {n b s p : Nat} {c : Chd}
theorem rdC_err (h : rdB 2 L = .error n) : rdC l L = .error n := by unfold rdC; rw [h]
theorem rdC_no (h : rdB 2 L = .ok (b, L1)) (hb : b ≠ 1) : rdC l L = .ok (noChd, L1) := by unfold rdC; rw [h]; exact if_neg hb
theorem rdC_yes (h : rdB 2 L = .ok (1, L1)) : rdC l L = rdS l L1 := by unfold rdC; rw [h]; exact if_pos rfl
theorem rdS_err (h : rdB 64 L = .error n) : rdS l L = .error n := by unfold rdS; rw [h]
theorem rdS_yes (h : rdB 64 L = .ok (s, L1)) : rdS l L = rdP l s L1 := by unfold rdS; rw [h]
theorem rdP_err (h : rdB 16 L = .error n) : rdP l s L = .error n := by unfold rdP; rw [h]
theorem rdP_yes (h : rdB 16 L = .ok (p, L1)) : rdP l s L = rdK l s p L1 := by unfold rdP; rw [h]
theorem rdK_err (h : L.length < 16) : rdK l s p L = .error 10 := if_pos h
theorem rdK_yes (h : ¬ L.length < 16) : rdK l s p L = rdT l ⟨true, s, p, keyL L, 0, 0⟩ (L.drop 16) := if_neg h
theorem rdT_no : rdT false c L = .ok (c, L) := rfl
theorem rdT_err (h : rdN 8 L = .error n) : rdT true c L = .error n := by unfold rdT; rw [if_pos rfl, h]
theorem rdT_err2 {x : Nat} (h : rdN 8 L = .ok (x, L1)) (h2 : rdN 8 L1 = .error n) : rdT true c L = .error n := by unfold rdT; rw [if_pos rfl, h]; simp only [h2]
theorem rdT_yes {x v : Nat} {L2 : List UInt8} (h : rdN 8 L = .ok (x, L1)) (h2 : rdN 8 L1 = .ok (v, L2)) : rdT true c L = .ok ({ c with x := x, v := v }, L2) := by unfold rdT; rw [if_pos rfl, h]; simp only [h2]
theorem rdU_err {M : Nod} : ∀ {i : Nat} (d : Nat), rdU M L i = .error n → rdU M L (i + d) = .error n
  | _, 0, h => h
  | i, d + 1, h => by
    show (match rdU M L (i + d) with | .error e => _ | .ok (M, L1) => _) = _
    rw [rdU_err d h]
theorem rdU_fall {N0 M : Nod} {i : Nat} (hi : i < 4) (h : rdU N0 L i = .ok (M, L1)) (hc : rdC M.l L1 = .error n) : rdU N0 L 4 = .error n := by
  have : rdU N0 L (i + 1) = .error n := by
    show (match rdU N0 L i with | .error e => _ | .ok (M, L1) => _) = _
    rw [h]
    simp only [hc]
  have h2 := rdU_err (3 - i) this
  rwa [show i + 1 + (3 - i) = 4 by omega] at h2
end

set_option maxHeartbeats 4000000 in
set_option maxRecDepth 8000 in
theorem rdChild_any (rp : Nat) (l : Bool) (L : List UInt8) (w : World) (h : Hid (RdAt w rp L)) :
    Calls Try.prog 43 #[.pointer (some ⟨rp, 0, none⟩), .bool l] w (RdEnd (fun c : Chd => .agg (rowOf 21 (chF c))) rp w (rdC l L)) := by
  have T := Lib.hid (TwoW.new h.out 26 (rowOf 21 (chF noChd)) (rowOf 21 (chF noChd)))
  clear h
  have K := Lib.hid (rdFlag_any rp L _ T.out.rd)
  cases hh : rdB 2 L with
  | error n =>
    rw [hh] at K
    go_enter Try.func43, Try.ntmps43
    go_wp2_with (refine wpList_new rfl (run_allocChd rfl _) ?_)
    refine K.out.mono ?_
    rintro e w2 ⟨rfl, a2⟩
    unfold Pan
    go_wp2
    exact ⟨rfl, RdEnd.err (rdC_err hh) rfl (T.out.ap.trans a2)⟩
  | ok a =>
    obtain ⟨b, L1⟩ := a
    rw [hh] at K
    by_cases hb : b = 1
    · subst hb
      have E := Lib.hid (rdC_yes (l := l) hh)
      clear hh
      go_enter Try.func43, Try.ntmps43
      go_wp2_with (refine wpList_new rfl (run_allocChd rfl _) ?_)
      refine K.out.mono ?_
      rintro e w1 ⟨rfl, h1, a1⟩
      replace T := Lib.hid (T.out.call h1 a1)
      clear K h1 a1
      have cc : w1.cell? ⟨w.heap.size + 1, 0, none⟩ = some (.bool false) := T.out.r5.cell 0 (by decide)
      have ff := T.out.r5.free 0
      replace T := Lib.hid ((T.out.set 0 (.bool true)).congr (chF_h _ _))
      have K := Lib.hid (below_any rp 64 L1 _ T.out.rd)
      cases hh : rdB 64 L1 with
      | error n =>
        rw [hh] at K
        go_wp2_with fail
        refine K.out.mono ?_
        rintro e w2 ⟨rfl, a2⟩
        unfold Pan
        clear cc ff
        go_wp2
        exact ⟨rfl, RdEnd.err (E.out.trans (rdS_err hh)) rfl (T.out.ap.trans a2)⟩
      | ok a =>
        obtain ⟨s, L2⟩ := a
        rw [hh] at K
        replace E := Lib.hid (E.out.trans (rdS_yes hh))
        clear hh
        go_wp2_with fail
        refine K.out.mono ?_
        rintro e w2 ⟨rfl, h2, a2⟩
        replace T := Lib.hid (T.out.call h2 a2)
        clear K h2 a2 cc ff
        have cc : w2.cell? ⟨w.heap.size + 1, 1, none⟩ = some (.int .i64 0) := T.out.r5.cell 1 (by decide)
        have ff := T.out.r5.free 1
        replace T := Lib.hid ((T.out.set 1 (.int .i64 (s : Int))).congr (chF_s _ _))
        have K := Lib.hid (below_any rp 16 L2 _ T.out.rd)
        cases hh : rdB 16 L2 with
        | error n =>
          rw [hh] at K
          go_wp2_with fail
          refine K.out.mono ?_
          rintro e w3 ⟨rfl, a2⟩
          unfold Pan
          clear cc ff
          go_wp2
          exact ⟨rfl, RdEnd.err (E.out.trans (rdP_err hh)) rfl (T.out.ap.trans a2)⟩
        | ok a =>
          obtain ⟨p, L3⟩ := a
          rw [hh] at K
          replace E := Lib.hid (E.out.trans (rdP_yes hh))
          clear hh
          go_wp2_with fail
          refine K.out.mono ?_
          rintro e w3 ⟨rfl, h2, a2⟩
          replace T := Lib.hid (T.out.call h2 a2)
          clear K h2 a2 cc ff
          have cc : w3.cell? ⟨w.heap.size + 1, 2, none⟩ = some (.int .i64 0) := T.out.r5.cell 2 (by decide)
          have ff := T.out.r5.free 2
          replace T := Lib.hid ((T.out.set 2 (.int .i64 (p : Int))).congr (chF_p _ _))
          have K := Lib.hid (rdKey_any rp L3 _ T.out.rd)
          by_cases hk : L3.length < 16
          · rw [if_pos hk] at K
            go_wp2_with fail
            refine K.out.mono ?_
            rintro e w4 ⟨rfl, a2⟩
            unfold Pan
            clear cc ff
            go_wp2
            exact ⟨rfl, RdEnd.err (E.out.trans (rdK_err hk)) rfl (T.out.ap.trans a2)⟩
          · rw [if_neg hk] at K
            replace E := Lib.hid (E.out.trans (rdK_yes hk))
            clear hk
            generalize L3.drop 16 = L4 at *
            go_wp2_with fail
            refine K.out.mono ?_
            rintro e w4 ⟨rfl, h2, a2⟩
            replace T := Lib.hid (T.out.call h2 a2)
            clear K h2 a2 cc ff
            have T5 := T.out.r5
            replace T := Lib.hid ((T.out.row _).congr (chF_k ⟨true, (s : Int), (p : Int), zeroN, 0, 0⟩ (keyL L3)))
            cases l with
            | false =>
              replace E := Lib.hid (E.out.trans rdT_no)
              go_wp2_with (first | (refine wpList_store_at rfl 23 _ _ rfl (w.heap.size + 1) 3 21 16 _ (w8 (keyL L3)) rfl rfl 26 T5 (info_key (w8 (keyL L3))) (rowOf_cells8 _ _) (by decide) ?_) | (refine wpList_load_row rfl 26 _ rfl (w.heap.size + 1) rfl 26 _ (0, 0) _ T.out.r5 Try.underlying26 rfl (infoChd' _) ?_) | (refine wpList_store_row rfl 26 _ _ rfl w.heap.size (rowOf 21 (chF (⟨true, (s : Int), (p : Int), (keyL L3), 0, 0⟩ : Chd))) rfl rfl 26 _ T.out.r4 (infoChd' _) (by simp only [rowOf_size]) (rowOf_oneC (chF_one _)) ?_))
              refine bodyPost_ret (v := .agg (rowOf 21 (chF ⟨true, (s : Int), (p : Int), (keyL L3), 0, 0⟩))) ?_ rfl (RdEnd.yes (val := fun c : Chd => Value.agg (rowOf 21 (chF c))) E.out rfl (TwoW.out T.out _).1 (TwoW.out T.out _).2.2)
              exact results_row_solo Try.results43 _ _ w.heap.size 26 _ (0, 0) _ rfl (TwoW.out T.out _).2.1 Try.underlying26 rfl (infoChd' _)
            | true =>
              have K := Lib.hid (rdNumber_any rp 8 (by decide) (by decide) L4 _ T.out.rd)
              cases hh : rdN 8 L4 with
              | error n =>
                rw [hh] at K
                go_wp2_with (refine wpList_store_at rfl 23 _ _ rfl (w.heap.size + 1) 3 21 16 _ (w8 (keyL L3)) rfl rfl 26 T5 (info_key (w8 (keyL L3))) (rowOf_cells8 _ _) (by decide) ?_)
                refine K.out.mono ?_
                rintro e w5 ⟨rfl, a2⟩
                unfold Pan
                go_wp2
                exact ⟨rfl, RdEnd.err (E.out.trans (rdT_err hh)) rfl (T.out.ap.trans a2)⟩
              | ok a =>
                obtain ⟨x, L5⟩ := a
                rw [hh] at K
                have hx := Lib.hid hh
                clear hh
                go_wp2_with (refine wpList_store_at rfl 23 _ _ rfl (w.heap.size + 1) 3 21 16 _ (w8 (keyL L3)) rfl rfl 26 T5 (info_key (w8 (keyL L3))) (rowOf_cells8 _ _) (by decide) ?_)
                refine K.out.mono ?_
                rintro e w5 ⟨rfl, h2, a2⟩
                replace T := Lib.hid (T.out.call h2 a2)
                clear K h2 a2 T5
                have cc : w5.cell? ⟨w.heap.size + 1, 19, none⟩ = some (.int .u64 0) := T.out.r5.cell 19 (by decide)
                have ff := T.out.r5.free 19
                replace T := Lib.hid ((T.out.set 19 (.int .u64 (x : Int))).congr (chF_x _ _))
                have K := Lib.hid (rdNumber_any rp 8 (by decide) (by decide) L5 _ T.out.rd)
                cases hh : rdN 8 L5 with
                | error n =>
                  rw [hh] at K
                  go_wp2_with fail
                  refine K.out.mono ?_
                  rintro e w6 ⟨rfl, a2⟩
                  unfold Pan
                  clear cc ff
                  go_wp2
                  exact ⟨rfl, RdEnd.err (E.out.trans (rdT_err2 hx.out hh)) rfl (T.out.ap.trans a2)⟩
                | ok a =>
                  obtain ⟨v, L6⟩ := a
                  rw [hh] at K
                  replace E := Lib.hid (E.out.trans (rdT_yes hx.out hh))
                  clear hh hx
                  go_wp2_with fail
                  refine K.out.mono ?_
                  rintro e w6 ⟨rfl, h2, a2⟩
                  replace T := Lib.hid (T.out.call h2 a2)
                  clear K h2 a2 cc ff
                  have cc : w6.cell? ⟨w.heap.size + 1, 20, none⟩ = some (.int .u64 0) := T.out.r5.cell 20 (by decide)
                  have ff := T.out.r5.free 20
                  replace T := Lib.hid ((T.out.set 20 (.int .u64 (v : Int))).congr (chF_v _ _))
                  go_wp2_with (first | (refine wpList_load_row rfl 26 _ rfl (w.heap.size + 1) rfl 26 _ (0, 0) _ T.out.r5 Try.underlying26 rfl (infoChd' _) ?_) | (refine wpList_store_row rfl 26 _ _ rfl w.heap.size (rowOf 21 (chF (⟨true, (s : Int), (p : Int), (keyL L3), x, v⟩ : Chd))) rfl rfl 26 _ T.out.r4 (infoChd' _) (by simp only [rowOf_size]) (rowOf_oneC (chF_one _)) ?_))
                  refine bodyPost_ret (v := .agg (rowOf 21 (chF ⟨true, (s : Int), (p : Int), (keyL L3), x, v⟩))) ?_ rfl (RdEnd.yes (val := fun c : Chd => Value.agg (rowOf 21 (chF c))) E.out rfl (TwoW.out T.out _).1 (TwoW.out T.out _).2.2)
                  exact results_row_solo Try.results43 _ _ w.heap.size 26 _ (0, 0) _ rfl (TwoW.out T.out _).2.1 Try.underlying26 rfl (infoChd' _)
    · have E := Lib.hid (rdC_no (l := l) hh hb)
      have b1 : ((b : Int) == 1) = false := by simpa using (by omega : ¬ (b : Int) = 1)
      clear hh
      go_enter Try.func43, Try.ntmps43
      go_wp2_with (refine wpList_new rfl (run_allocChd rfl _) ?_)
      refine K.out.mono ?_
      rintro e w1 ⟨rfl, h1, a1⟩
      replace T := Lib.hid (T.out.call h1 a1)
      clear K h1 a1
      have cc : w1.cell? ⟨w.heap.size + 1, 0, none⟩ = some (.bool false) := T.out.r5.cell 0 (by decide)
      have ff := T.out.r5.free 0
      replace T := Lib.hid ((T.out.set 0 (.bool false)).congr (chF_h _ _))
      go_wp2_with (first | (refine wpList_load_row rfl 26 _ rfl (w.heap.size + 1) rfl 26 _ (0, 0) _ T.out.r5 Try.underlying26 rfl (infoChd' _) ?_) | (refine wpList_store_row rfl 26 _ _ rfl w.heap.size (rowOf 21 (chF noChd)) rfl rfl 26 _ T.out.r4 (infoChd' _) (by simp only [rowOf_size]) (rowOf_oneC (chF_one _)) ?_))
      refine bodyPost_ret (v := .agg (rowOf 21 (chF noChd))) ?_ rfl (RdEnd.yes (val := fun c : Chd => Value.agg (rowOf 21 (chF c))) E.out rfl (TwoW.out T.out _).1 (TwoW.out T.out _).2.2)
      exact results_row_solo Try.results43 _ _ w.heap.size 26 _ (0, 0) _ rfl (TwoW.out T.out _).2.1 Try.underlying26 rfl (infoChd' _)

end Go.Proofs.Ytapebaoajknepaa
