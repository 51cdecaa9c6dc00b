/-
  Contract: the document's child.
-/
import Derived.Test.YtapebaoajknepaaNodeRefByte
import Derived.Test.YtapebaoajknepaaNodeChild
import Derived.Test.YtapebaoajknepaaNodeRefMay
namespace Go.Proofs.Ytapebaoajknepaa
open Go.RowKit
set_option linter.unusedVariables false

/-- What the document's child answers. -/
def childV (d : Except Nat (Chd × List UInt8)) : Value :=
  match d with
  | .error n => .tuple #[.agg (rowOf 21 (chF noChd)), .string (bs []), .int .i64 (n : Int)]
  | .ok (c, R) => .tuple #[.agg (rowOf 21 (chF c)), .string (bs R), .int .i64 0]
/-- Two blocks: the answer's, the child's. -/
structure RefW (w0 w : World) (q : Nat) (c : Chd) : Prop where
  r4 : RowAt w w0.heap.size 34 (rowOf 21 (chF noChd))
  r9 : RowAt w q 34 (rowOf 21 (chF c))
  bl : Below w0.heap.size w0 w
  up : w0.heap.size < q
section
variable {w0 w w' : World} {q : Nat} {c c' : Chd}
theorem RefW.at (h : RefW w0 w q c) {p : World → Prop} (f : ∀ w, p w) : p w := f w
theorem RefW.after (h : RefW w0 w q c) (hb : Below w.heap.size w w') : RefW w0 w' q c := ⟨h.r4.below hb h.r4.lt, h.r9.below hb h.r9.lt, h.bl.trans (hb.mono h.bl.size), h.up⟩
theorem RefW.set (h : RefW w0 w q c) (i : Nat) (v : Value) (e : (rowOf 21 (chF c)).setIfInBounds i v = rowOf 21 (chF c')) : RefW w0 (w.setCell ⟨q, i, none⟩ v) q c' :=
  ⟨h.r4.setOther _ _ (by have := h.up; show _ ≠ q; omega), (h.r9.set _ _).congr e, h.bl.setCell (by have := h.up; show _ ≤ q; omega) _, h.up⟩
theorem RefW.key (h : RefW w0 w q c) (f : Nat → Nat) : RefW w0 (w.setRow q (rowOf 21 (laidV (chF c) (w8 f) 3 16))) q { c with k := f } :=
  ⟨h.r4.setRowOther _ _ (by have := h.up; omega), (h.r9.setRow _).congr (chF_k c f), below_setRow' h.bl (by have := h.up; omega) _, h.up⟩
theorem RefW.done (h : RefW w0 w q c) (ds : Array Value) : RowAt (w.setRow w0.heap.size ds) w0.heap.size 34 ds ∧ Below w0.heap.size w0 (w.setRow w0.heap.size ds) := ⟨h.r4.setRow _, below_setRow' h.bl (Nat.le_refl _) _⟩
end

set_option maxHeartbeats 8000000 in
set_option maxRecDepth 8000 in
theorem refChild_any (l : Bool) (L : List UInt8) (hL : L.length ≤ 100000) (w : World) :
    Calls Try.prog 31 #[.bool l, .string (bs L)] w fun e w' => e = .returned (childV (rdC l L)) ∧ Below w.heap.size w w' := by
  have r4 := Lib.hid (RowAt.new w 34 (rowOf 21 (chF noChd)))
  have b0 := Lib.hid ((Below.refl _ w).alloc (Nat.le_refl _) (.cells (rowOf 21 (chF noChd)) 34))
  have K := Lib.hid (refByte_any 2 L hL (w.alloc (.cells (rowOf 21 (chF noChd)) 34)))
  cases hh : rdB 2 L with
  | error n =>
    have nz : ((n : Int) != 0) = true := by have := rdB_bad hh; simpa using this
    have E : Hid (rdC l L = .error n) := rdC_err hh
    rw [hh] at K
    clear hh
    go_enter Try.func31, Try.ntmps31
    go_wp2_with (refine wpList_new rfl (run_allocChdRef rfl _) ?_)
    refine K.out.mono ?_
    rintro e w1 ⟨rfl, b1⟩
    dsimp only [stepV]
    have p1 := Lib.hid (r4.out.below b1 r4.out.lt)
    have b2 := Lib.hid (b0.out.trans (b1.mono b0.out.size))
    clear K r4 b0 b1
    go_wp2_with (first | (refine wpList_buildTo rfl 34 _ rfl _ rfl (rowOf 21 (chF noChd)) (by kernel_rfl) ?_) | (refine wpList_store_row rfl 34 _ _ rfl w.heap.size (rowOf 21 (chF noChd)) rfl rfl 34 (rowOf 21 (chF noChd)) p1.out (infoChdRef' _) (by simp only [rowOf_size]) (rowOf_oneC (chF_one _)) ?_))
    refine bodyPost_ret (v := .tuple #[.agg (rowOf 21 (chF noChd)), .string ⟨#[]⟩, .int .i64 (n : Int)]) ?_ rfl ⟨by rw [E.out]; rfl, below_setRow' b2.out (Nat.le_refl _) _⟩
    exact results_row_two Try.results31 _ _ w.heap.size 34 (rowOf 21 (chF noChd)) (0, 0) _ rfl (p1.out.setRow _) Try.underlying34 rfl (infoChdRef' _)
  | ok a =>
    obtain ⟨h, L1⟩ := a
    have h2 := (rdB_ok hh).2
    have hL1 : L1.length ≤ 100000 := Nat.le_trans (rdB_left hh) hL
    rw [hh] at K
    have hcase : h = 0 ∨ h = 1 := by omega
    rcases hcase with rfl | rfl
    · have E : Hid (rdC l L = .ok (noChd, L1)) := rdC_no hh (by decide)
      clear hh
      go_enter Try.func31, Try.ntmps31
      go_wp2_with (refine wpList_new rfl (run_allocChdRef rfl _) ?_)
      refine K.out.mono ?_
      rintro e w1 ⟨rfl, b1⟩
      dsimp only [stepV]
      have p1 := Lib.hid (r4.out.below b1 r4.out.lt)
      have b2 := Lib.hid (b0.out.trans (b1.mono b0.out.size))
      clear K r4 b0 b1
      go_wp2_with (first | (refine wpList_buildTo rfl 34 _ rfl _ rfl (rowOf 21 (chF noChd)) (by kernel_rfl) ?_) | (refine wpList_store_row rfl 34 _ _ rfl w.heap.size (rowOf 21 (chF noChd)) rfl rfl 34 (rowOf 21 (chF noChd)) p1.out (infoChdRef' _) (by simp only [rowOf_size]) (rowOf_oneC (chF_one _)) ?_))
      refine bodyPost_ret (v := .tuple #[.agg (rowOf 21 (chF noChd)), .string (bs L1), .int .i64 0]) ?_ rfl ⟨by rw [E.out]; rfl, below_setRow' b2.out (Nat.le_refl _) _⟩
      exact results_row_two Try.results31 _ _ w.heap.size 34 (rowOf 21 (chF noChd)) (0, 0) _ rfl (p1.out.setRow _) Try.underlying34 rfl (infoChdRef' _)
    · have E : Hid (rdC l L = rdS l L1) := rdC_yes hh
      clear hh
      go_enter Try.func31, Try.ntmps31
      go_wp2_with (refine wpList_new rfl (run_allocChdRef rfl _) ?_)
      refine K.out.mono ?_
      rintro e w1 ⟨rfl, b1⟩
      dsimp only [stepV]
      have T : Hid (RefW w (w1.alloc (.cells (rowOf 21 (chF ⟨true, 0, 0, zeroN, 0, 0⟩)) 34)) w1.heap.size ⟨true, 0, 0, zeroN, 0, 0⟩) :=
        ⟨(r4.out.below b1 r4.out.lt).alloc _, RowAt.new _ _ _, (b0.out.trans (b1.mono b0.out.size)).alloc (b0.out.trans (b1.mono b0.out.size)).size _, by have := r4.out.lt; have := b1.size; omega⟩
      clear K r4 b0 b1
      go_wp2_with (first | (refine wpList_buildTo rfl 34 _ rfl _ rfl (rowOf 21 (chF ⟨true, 0, 0, zeroN, 0, 0⟩)) (by kernel_rfl) ?_) | (refine wpList_new rfl (run_allocChdRef rfl _) ?_) | (refine wpList_store_row rfl 34 _ _ rfl w1.heap.size (rowOf 21 (chF ⟨true, 0, 0, zeroN, 0, 0⟩)) rfl rfl 34 _ (RowAt.new _ _ _) (infoChdRef' _) (by simp only [rowOf_size]) (rowOf_oneC (chF_one _)) ?_; rw [World.setRow_alloc_new]; refine Hid.out ?_))
      unfold Hid
      generalize w1.heap.size = q at *
      generalize w1.alloc (.cells (rowOf 21 (chF ⟨true, 0, 0, zeroN, 0, 0⟩)) 34) = w2 at *
      clear w1
      have K := Lib.hid (RefW.at T.out (refByte_any 64 L1 hL1))
      cases hh : rdB 64 L1 with
      | error n =>
        have nz : ((n : Int) != 0) = true := by have := rdB_bad hh; simpa using this
        have nz2 : ((n : Int) == 0) = false := by have := rdB_bad hh; simpa using this
        replace E := Lib.hid (E.out.trans (rdS_err hh))
        rw [hh] at K
        clear hh
        go_wp2_with fail
        refine K.out.mono ?_
        rintro e w3 ⟨rfl, b2⟩
        dsimp only [stepV]
        replace T := Lib.hid (T.out.after b2)
        clear K b2
        have cc : w3.cell? ⟨q, 1, none⟩ = some (.int .i64 0) := T.out.r9.cell 1 (by decide)
        have ff := T.out.r9.free 1
        replace T := Lib.hid (T.out.set 1 (.int .i64 0) (chF_s _ 0))
        go_wp2_with (first | (refine wpList_buildTo rfl 34 _ rfl _ rfl (rowOf 21 (chF noChd)) (by kernel_rfl) ?_) | (refine wpList_store_row rfl 34 _ _ rfl w.heap.size (rowOf 21 (chF noChd)) rfl rfl 34 (rowOf 21 (chF noChd)) T.out.r4 (infoChdRef' _) (by simp only [rowOf_size]) (rowOf_oneC (chF_one _)) ?_))
        refine bodyPost_ret (v := .tuple #[.agg (rowOf 21 (chF noChd)), .string ⟨#[]⟩, .int .i64 (n : Int)]) ?_ rfl ⟨by rw [E.out]; rfl, (RefW.done T.out _).2⟩
        exact results_row_two Try.results31 _ _ w.heap.size 34 (rowOf 21 (chF noChd)) (0, 0) _ rfl (RefW.done T.out _).1 Try.underlying34 rfl (infoChdRef' _)
      | ok a =>
        obtain ⟨s, L2⟩ := a
        have hL2 : L2.length ≤ 100000 := Nat.le_trans (rdB_left hh) (by assumption)
        replace E := Lib.hid (E.out.trans (rdS_yes hh))
        rw [hh] at K
        clear hh
        go_wp2_with fail
        refine K.out.mono ?_
        rintro e w3 ⟨rfl, b2⟩
        dsimp only [stepV]
        replace T := Lib.hid (T.out.after b2)
        clear K b2
        have cc : w3.cell? ⟨q, 1, none⟩ = some (.int .i64 0) := T.out.r9.cell 1 (by decide)
        have ff := T.out.r9.free 1
        replace T := Lib.hid (T.out.set 1 (.int .i64 (s : Int)) (chF_s _ _))
        have K := Lib.hid (RefW.at T.out (refByte_any 16 L2 hL2))
        cases hh : rdB 16 L2 with
        | error n =>
          have nz : ((n : Int) != 0) = true := by have := rdB_bad hh; simpa using this
          have nz2 : ((n : Int) == 0) = false := by have := rdB_bad hh; simpa using this
          replace E := Lib.hid (E.out.trans (rdP_err hh))
          rw [hh] at K
          clear hh
          go_wp2_with fail
          refine K.out.mono ?_
          rintro e w4 ⟨rfl, b2⟩
          dsimp only [stepV]
          replace T := Lib.hid (T.out.after b2)
          clear K b2
          have cc : w4.cell? ⟨q, 2, none⟩ = some (.int .i64 0) := T.out.r9.cell 2 (by decide)
          have ff := T.out.r9.free 2
          replace T := Lib.hid (T.out.set 2 (.int .i64 0) (chF_p _ 0))
          go_wp2_with (first | (refine wpList_buildTo rfl 34 _ rfl _ rfl (rowOf 21 (chF noChd)) (by kernel_rfl) ?_) | (refine wpList_store_row rfl 34 _ _ rfl w.heap.size (rowOf 21 (chF noChd)) rfl rfl 34 (rowOf 21 (chF noChd)) T.out.r4 (infoChdRef' _) (by simp only [rowOf_size]) (rowOf_oneC (chF_one _)) ?_))
          refine bodyPost_ret (v := .tuple #[.agg (rowOf 21 (chF noChd)), .string ⟨#[]⟩, .int .i64 (n : Int)]) ?_ rfl ⟨by rw [E.out]; rfl, (RefW.done T.out _).2⟩
          exact results_row_two Try.results31 _ _ w.heap.size 34 (rowOf 21 (chF noChd)) (0, 0) _ rfl (RefW.done T.out _).1 Try.underlying34 rfl (infoChdRef' _)
        | ok a =>
          obtain ⟨p, L3⟩ := a
          have hL3 : L3.length ≤ 100000 := Nat.le_trans (rdB_left hh) (by assumption)
          replace E := Lib.hid (E.out.trans (rdP_yes hh))
          rw [hh] at K
          clear hh
          go_wp2_with fail
          refine K.out.mono ?_
          rintro e w4 ⟨rfl, b2⟩
          dsimp only [stepV]
          replace T := Lib.hid (T.out.after b2)
          clear K b2
          have cc : w4.cell? ⟨q, 2, none⟩ = some (.int .i64 0) := T.out.r9.cell 2 (by decide)
          have ff := T.out.r9.free 2
          replace T := Lib.hid (T.out.set 2 (.int .i64 (p : Int)) (chF_p _ _))
          have K := Lib.hid (RefW.at T.out (refKey_any L3 hL3))
          unfold keyR at K
          by_cases hk : L3.length < 16
          · rw [if_pos hk] at K
            replace E := Lib.hid (E.out.trans (rdK_err hk))
            go_wp2_with fail
            refine K.out.mono ?_
            rintro e w5 ⟨rfl, b2⟩
            replace T := Lib.hid (T.out.after b2)
            clear K b2 cc ff
            have T5 := T.out.r9
            replace T := Lib.hid (T.out.key zeroN)
            obtain ⟨n, hn⟩ : ∃ n : Nat, n = 10 := ⟨_, rfl⟩
            go_wp2_with (first | (refine wpList_store_at rfl 23 _ _ rfl q 3 21 16 _ (w8 zeroN) rfl rfl 34 T5 (info_key (w8 zeroN)) (rowOf_cells8 _ _) (by decide) ?_) | (refine wpList_buildTo rfl 34 _ rfl _ rfl (rowOf 21 (chF noChd)) (by kernel_rfl) ?_) | (refine wpList_store_row rfl 34 _ _ rfl w.heap.size (rowOf 21 (chF noChd)) rfl rfl 34 (rowOf 21 (chF noChd)) T.out.r4 (infoChdRef' _) (by simp only [rowOf_size]) (rowOf_oneC (chF_one _)) ?_))
            refine bodyPost_ret (v := .tuple #[.agg (rowOf 21 (chF noChd)), .string ⟨#[]⟩, .int .i64 10]) ?_ rfl ⟨by rw [E.out]; rfl, (RefW.done T.out _).2⟩
            exact results_row_two Try.results31 _ _ w.heap.size 34 (rowOf 21 (chF noChd)) (0, 0) _ rfl (RefW.done T.out _).1 Try.underlying34 rfl (infoChdRef' _)
          · rw [if_neg hk] at K
            replace E := Lib.hid (E.out.trans (rdK_yes hk))
            have hL4 : (L3.drop 16).length ≤ 100000 := by rw [List.length_drop]; omega
            clear hk
            go_wp2_with fail
            refine K.out.mono ?_
            rintro e w5 ⟨rfl, b2⟩
            replace T := Lib.hid (T.out.after b2)
            clear K b2 cc ff
            have T5 := T.out.r9
            replace T := Lib.hid (T.out.key (keyL L3))
            generalize L3.drop 16 = L4 at *
            cases l with
            | false =>
              replace E := Lib.hid (E.out.trans rdT_no)
              go_wp2_with (first | (refine wpList_store_at rfl 23 _ _ rfl q 3 21 16 _ (w8 (keyL L3)) rfl rfl 34 T5 (info_key (w8 (keyL L3))) (rowOf_cells8 _ _) (by decide) ?_) | (refine wpList_load_row rfl 34 _ rfl q rfl 34 _ (0, 0) _ T.out.r9 Try.underlying34 rfl (infoChdRef' _) ?_) | (refine wpList_store_row rfl 34 _ _ rfl w.heap.size (rowOf 21 (chF (⟨true, (s : Int), (p : Int), keyL L3, 0, 0⟩ : Chd))) rfl rfl 34 (rowOf 21 (chF noChd)) T.out.r4 (infoChdRef' _) (by simp only [rowOf_size]) (rowOf_oneC (chF_one _)) ?_))
              refine bodyPost_ret (v := .tuple #[.agg (rowOf 21 (chF (⟨true, (s : Int), (p : Int), keyL L3, 0, 0⟩ : Chd))), .string (bs L4), .int .i64 0]) ?_ rfl ⟨by rw [E.out]; rfl, (RefW.done T.out _).2⟩
              exact results_row_two Try.results31 _ _ w.heap.size 34 (rowOf 21 (chF (⟨true, (s : Int), (p : Int), keyL L3, 0, 0⟩ : Chd))) (0, 0) _ rfl (RefW.done T.out _).1 Try.underlying34 rfl (infoChdRef' _)
            | true =>
              have K := Lib.hid (RefW.at T.out (refNum_any L4 hL4))
              cases hh : rdN 8 L4 with
              | error n =>
                have nz : ((n : Int) != 0) = true := by have := rdN_bad hh; simpa using this
                have nz2 : ((n : Int) == 0) = false := by have := rdN_bad hh; simpa using this
                replace E := Lib.hid (E.out.trans (rdT_err hh))
                rw [hh] at K
                clear hh
                go_wp2_with (refine wpList_store_at rfl 23 _ _ rfl q 3 21 16 _ (w8 (keyL L3)) rfl rfl 34 T5 (info_key (w8 (keyL L3))) (rowOf_cells8 _ _) (by decide) ?_)
                refine K.out.mono ?_
                rintro e w6 ⟨rfl, b2⟩
                dsimp only [stepV]
                replace T := Lib.hid (T.out.after b2)
                clear K b2
                have cc : w6.cell? ⟨q, 19, none⟩ = some (.int .u64 0) := T.out.r9.cell 19 (by decide)
                have ff := T.out.r9.free 19
                replace T := Lib.hid (T.out.set 19 (.int .u64 0) (chF_x _ 0))
                go_wp2_with (first | (refine wpList_buildTo rfl 34 _ rfl _ rfl (rowOf 21 (chF noChd)) (by kernel_rfl) ?_) | (refine wpList_store_row rfl 34 _ _ rfl w.heap.size (rowOf 21 (chF noChd)) rfl rfl 34 (rowOf 21 (chF noChd)) T.out.r4 (infoChdRef' _) (by simp only [rowOf_size]) (rowOf_oneC (chF_one _)) ?_))
                refine bodyPost_ret (v := .tuple #[.agg (rowOf 21 (chF noChd)), .string ⟨#[]⟩, .int .i64 (n : Int)]) ?_ rfl ⟨by rw [E.out]; rfl, (RefW.done T.out _).2⟩
                exact results_row_two Try.results31 _ _ w.heap.size 34 (rowOf 21 (chF noChd)) (0, 0) _ rfl (RefW.done T.out _).1 Try.underlying34 rfl (infoChdRef' _)
              | ok a =>
                obtain ⟨x, L5⟩ := a
                have hL5 : L5.length ≤ 100000 := Nat.le_trans (rdN_left hh) (by assumption)
                have hx := Lib.hid hh
                rw [hh] at K
                clear hh
                go_wp2_with (refine wpList_store_at rfl 23 _ _ rfl q 3 21 16 _ (w8 (keyL L3)) rfl rfl 34 T5 (info_key (w8 (keyL L3))) (rowOf_cells8 _ _) (by decide) ?_)
                refine K.out.mono ?_
                rintro e w6 ⟨rfl, b2⟩
                dsimp only [stepV]
                replace T := Lib.hid (T.out.after b2)
                clear K b2
                have cc : w6.cell? ⟨q, 19, none⟩ = some (.int .u64 0) := T.out.r9.cell 19 (by decide)
                have ff := T.out.r9.free 19
                replace T := Lib.hid (T.out.set 19 (.int .u64 (x : Int)) (chF_x _ _))
                have K := Lib.hid (RefW.at T.out (refNum_any L5 hL5))
                cases hh : rdN 8 L5 with
                | error n =>
                  have nz : ((n : Int) != 0) = true := by have := rdN_bad hh; simpa using this
                  have nz2 : ((n : Int) == 0) = false := by have := rdN_bad hh; simpa using this
                  replace E := Lib.hid (E.out.trans (rdT_err2 hx.out hh))
                  rw [hh] at K
                  clear hh
                  go_wp2_with fail
                  refine K.out.mono ?_
                  rintro e w7 ⟨rfl, b2⟩
                  dsimp only [stepV]
                  replace T := Lib.hid (T.out.after b2)
                  clear K b2
                  have cc : w7.cell? ⟨q, 20, none⟩ = some (.int .u64 0) := T.out.r9.cell 20 (by decide)
                  have ff := T.out.r9.free 20
                  replace T := Lib.hid (T.out.set 20 (.int .u64 0) (chF_v _ 0))
                  go_wp2_with (first | (refine wpList_buildTo rfl 34 _ rfl _ rfl (rowOf 21 (chF noChd)) (by kernel_rfl) ?_) | (refine wpList_store_row rfl 34 _ _ rfl w.heap.size (rowOf 21 (chF noChd)) rfl rfl 34 (rowOf 21 (chF noChd)) T.out.r4 (infoChdRef' _) (by simp only [rowOf_size]) (rowOf_oneC (chF_one _)) ?_))
                  refine bodyPost_ret (v := .tuple #[.agg (rowOf 21 (chF noChd)), .string ⟨#[]⟩, .int .i64 (n : Int)]) ?_ rfl ⟨by rw [E.out]; rfl, (RefW.done T.out _).2⟩
                  exact results_row_two Try.results31 _ _ w.heap.size 34 (rowOf 21 (chF noChd)) (0, 0) _ rfl (RefW.done T.out _).1 Try.underlying34 rfl (infoChdRef' _)
                | ok a =>
                  obtain ⟨v, L6⟩ := a
                  have hL6 : L6.length ≤ 100000 := Nat.le_trans (rdN_left hh) (by assumption)
                  replace E := Lib.hid (E.out.trans (rdT_yes hx.out hh))
                  rw [hh] at K
                  clear hh
                  go_wp2_with fail
                  refine K.out.mono ?_
                  rintro e w7 ⟨rfl, b2⟩
                  dsimp only [stepV]
                  replace T := Lib.hid (T.out.after b2)
                  clear K b2
                  have cc : w7.cell? ⟨q, 20, none⟩ = some (.int .u64 0) := T.out.r9.cell 20 (by decide)
                  have ff := T.out.r9.free 20
                  replace T := Lib.hid (T.out.set 20 (.int .u64 (v : Int)) (chF_v _ _))
                  go_wp2_with (first | (refine wpList_load_row rfl 34 _ rfl q rfl 34 _ (0, 0) _ T.out.r9 Try.underlying34 rfl (infoChdRef' _) ?_) | (refine wpList_store_row rfl 34 _ _ rfl w.heap.size (rowOf 21 (chF (⟨true, (s : Int), (p : Int), keyL L3, x, v⟩ : Chd))) rfl rfl 34 (rowOf 21 (chF noChd)) T.out.r4 (infoChdRef' _) (by simp only [rowOf_size]) (rowOf_oneC (chF_one _)) ?_))
                  refine bodyPost_ret (v := .tuple #[.agg (rowOf 21 (chF (⟨true, (s : Int), (p : Int), keyL L3, x, v⟩ : Chd))), .string (bs L6), .int .i64 0]) ?_ rfl ⟨by rw [E.out]; rfl, (RefW.done T.out _).2⟩
                  exact results_row_two Try.results31 _ _ w.heap.size 34 (rowOf 21 (chF (⟨true, (s : Int), (p : Int), keyL L3, x, v⟩ : Chd))) (0, 0) _ rfl (RefW.done T.out _).1 Try.underlying34 rfl (infoChdRef' _)

end Go.Proofs.Ytapebaoajknepaa
