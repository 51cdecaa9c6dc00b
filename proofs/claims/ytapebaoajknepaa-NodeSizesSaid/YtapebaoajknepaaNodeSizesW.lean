/-
  The walk of NodeSizes.
-/
import Derived.Test.YtapebaoajknepaaNodeShown
import Derived.Test.YtapebaoajknepaaNodeIts
import Derived.Test.YtapebaoajknepaaNodeRefDec
import Derived.Test.YtapebaoajknepaaNodeRefEnc
import Derived.Test.YtapebaoajknepaaNodeOpen
import Derived.Test.YtapebaoajknepaaAdvStep
namespace Go.Proofs.Ytapebaoajknepaa
open Go.RowKit
set_option linter.unusedVariables false

theorem sizeU_le (N : Nod) : ∀ i, sizeU N i ≤ 5 + 34 * i
  | 0 => Nat.le_refl 5
  | i + 1 => by
    show sizeU N i + (if (N.c i).h = true then (if N.l = true then 34 else 18) else 0) ≤ _
    have := sizeU_le N i
    split
    · split <;> omega
    · omega
set_option maxHeartbeats 4000000 in
set_option maxRecDepth 8000 in
theorem sizes_walk (N : Nod) (hb : ∀ i, i < 4 → BndC (N.c i)) (w : World) :
    Calls Try.prog 8 #[.agg (rowOf 85 (nF N))] w fun e w' => e = .returned (.bool true) ∧ Below w.heap.size w w' := by
  have r0 := Lib.hid (RowAt.new w 29 (rowOf 85 (nF N)))
  have b0 := Lib.hid ((Below.refl _ w).alloc (Nat.le_refl _) (.cells (rowOf 85 (nF N)) 29))
  have EN := Lib.hid (encode_any N hb)
  have SH := Lib.hid (fun W => shown14_any W)
  cases hm : mayN N with
  | false =>
    have es : encS N = bs [] := if_neg (by rw [hm]; decide)
    have ee : encE N = 1 := if_neg (by rw [hm]; decide)
    rw [es, ee] at EN
    have MA := Lib.hid (fun W => may_any N W)
    rw [hm] at MA
    clear es ee hm
    go_enter Try.func8, Try.ntmps8
    go_wp2_with (refine wpList_load_row rfl 29 _ rfl w.heap.size rfl 29 _ (0, 0) _ r0.out Try.underlying29 rfl (infoNod' _) ?_)
    generalize w.alloc (.cells (rowOf 85 (nF N)) 29) = w0 at *
    refine (EN.out w0).mono ?_
    rintro e w1 ⟨rfl, b1⟩
    replace r0 := Lib.hid (r0.out.below b1 r0.out.lt)
    replace b0 := Lib.hid (b0.out.trans (b1.mono b0.out.size))
    clear EN b1
    go_wp2_with (refine wpList_load_row rfl 29 _ rfl w.heap.size rfl 29 _ (0, 0) _ r0.out Try.underlying29 rfl (infoNod' _) ?_)
    refine (MA.out w1).mono ?_
    rintro e w2 ⟨rfl, b2⟩
    replace b0 := Lib.hid (b0.out.trans (b2.mono b0.out.size))
    clear MA b2 r0
    go_wp2_with fail
    refine (SH.out w2).mono ?_
    rintro e w3 ⟨rfl, b3⟩
    go_wp2
    go_ret
    exact ⟨rfl, b0.out.trans (b3.mono b0.out.size)⟩
  | true =>
    have es : encS N = bs (encN N) := if_pos hm
    have ee : encE N = 0 := if_pos hm
    rw [es, ee] at EN
    have SZ : Hid ((bs (encN N)).size = sizeU N 4) := by unfold Hid; rw [bs_size]; exact encN_size N
    have zb : Hid (∀ i, i ≤ 4 → sizeU N i ≤ 150) := fun i hi => by have := sizeU_le N i; omega
    clear es ee hm
    generalize bs (encN N) = s at *
    go_enter Try.func8, Try.ntmps8
    go_wp2_with (refine wpList_load_row rfl 29 _ rfl w.heap.size rfl 29 _ (0, 0) _ r0.out Try.underlying29 rfl (infoNod' _) ?_)
    generalize w.alloc (.cells (rowOf 85 (nF N)) 29) = w0 at *
    refine (EN.out w0).mono ?_
    rintro e w1 ⟨rfl, b1⟩
    replace r0 := Lib.hid (r0.out.below b1 r0.out.lt)
    replace b0 := Lib.hid (b0.out.trans (b1.mono b0.out.size))
    clear EN b1
    go_wp2
    go_loopw [5, 6] (fun v u wr => ∃ i : Nat, i ≤ 4 ∧ u = .int .i64 (i : Int) ∧ v = .int .i64 (sizeU N i : Nat) ∧ Hid (RowAt wr w.heap.size 29 (rowOf 85 (nF N))) ∧ Hid (Below w.heap.size w wr)) (fun _ u _ => 4 - (intOf u).toNat)
    case atStart => exact ⟨0, by decide, rfl, rfl, r0, b0⟩
    case round =>
      clear r0 b0
      obtain ⟨i, hi, rfl, rfl, rr, bb⟩ := hrel
      by_cases hi4 : i < 4
      · have l0 : (i : Int) < 4 := by omega
        have n0 : wr.cell? ⟨w.heap.size, 0, none⟩ = some (.bool N.l) := rr.out.cell 0 (by decide)
        have x0 : wr.cell? ⟨w.heap.size, 1 + i * 21, none⟩ = some (.bool (N.c i).h) := by
          rw [rr.out.cell (1 + i * 21) (by omega), show 1 + i * 21 = 1 + i * 21 + 0 from rfl, nF_at _ _ _ (by decide)]
          rfl
        repeat (first | (with_reducible refine wp_stop (id := 8) ?_) | go_values | go_skip | go_guarded | go_step | go_upon | go_back)
        unfold Hid
        refine wp_region_lit ?_
        have hh2 : (N.c i).h = false ∨ (N.c i).h = true := by cases (N.c i).h <;> simp
        rcases hh2 with hh | hh
        · have hl2 := hh
          have hz : Hid (sizeU N (i + 1) = sizeU N i + 0) := by
            unfold Hid
            show sizeU N i + (if (N.c i).h = true then (if N.l = true then 34 else 18) else 0) = _
            rw [hh]
            rfl
          rw [hh] at x0
          skip
          have sz : sizeU N i ≤ 150 := zb.out i (by omega)
          clear hh hl2
          refine wpList_val (.int .i64 (i : Int)) (by kernel_rfl) (by go_simp) ?_
          simp only [Act.put, List.setIfInBounds_toArray, List.set_cons_succ, List.set_cons_zero]
          refine wpList_val (.pointer (some ⟨w.heap.size, 1, none⟩)) (by kernel_rfl) (by go_simp) ?_
          simp only [Act.put, List.setIfInBounds_toArray, List.set_cons_succ, List.set_cons_zero]
          refine wpList_val (.pointer (some ⟨w.heap.size, 1 + i * 21, none⟩)) (by kernel_rfl) (by go_simp) ?_
          simp only [Act.put, List.setIfInBounds_toArray, List.set_cons_succ, List.set_cons_zero]
          refine wpList_val (.pointer (some ⟨w.heap.size, 1 + i * 21, none⟩)) (by kernel_rfl) (by go_simp) ?_
          simp only [Act.put, List.setIfInBounds_toArray, List.set_cons_succ, List.set_cons_zero]
          refine wpList_val (.bool false) (by kernel_rfl) (by go_simp) ?_
          simp only [Act.put, List.setIfInBounds_toArray, List.set_cons_succ, List.set_cons_zero]
          refine wpList_val (.bool false) (by kernel_rfl) (by go_simp) ?_
          simp only [Act.put, List.setIfInBounds_toArray, List.set_cons_succ, List.set_cons_zero]
          with_reducible refine wpList_skip (by kernel_rfl) ?_
          simp only [Act.put, List.setIfInBounds_toArray, List.set_cons_succ, List.set_cons_zero]
          with_reducible refine wpList_skip (by kernel_rfl) ?_
          simp only [Act.put, List.setIfInBounds_toArray, List.set_cons_succ, List.set_cons_zero]
          refine wpList_val (.bool false) (by kernel_rfl) (by go_simp) ?_
          simp only [Act.put, List.setIfInBounds_toArray, List.set_cons_succ, List.set_cons_zero]
          repeat (first | (with_reducible refine wp_stop (id := 10) ?_) | go_values | go_skip | go_guarded | go_step | go_upon | go_back)
          unfold Hid
          refine wp_region_lit ?_
          refine wpList_val (.int .i64 (i : Int)) (by kernel_rfl) (by go_simp) ?_
          simp only [Act.put, List.setIfInBounds_toArray, List.set_cons_succ, List.set_cons_zero]
          refine wpList_val (.pointer (some ⟨w.heap.size, 1, none⟩)) (by kernel_rfl) (by go_simp) ?_
          simp only [Act.put, List.setIfInBounds_toArray, List.set_cons_succ, List.set_cons_zero]
          refine wpList_val (.pointer (some ⟨w.heap.size, 1 + i * 21, none⟩)) (by kernel_rfl) (by go_simp) ?_
          simp only [Act.put, List.setIfInBounds_toArray, List.set_cons_succ, List.set_cons_zero]
          refine wpList_val (.pointer (some ⟨w.heap.size, 1 + i * 21, none⟩)) (by kernel_rfl) (by go_simp) ?_
          simp only [Act.put, List.setIfInBounds_toArray, List.set_cons_succ, List.set_cons_zero]
          refine wpList_val (.bool false) (by kernel_rfl) (by go_simp) ?_
          simp only [Act.put, List.setIfInBounds_toArray, List.set_cons_succ, List.set_cons_zero]
          refine wpList_val (.bool false) (by kernel_rfl) (by go_simp) ?_
          simp only [Act.put, List.setIfInBounds_toArray, List.set_cons_succ, List.set_cons_zero]
          with_reducible refine wpList_skip (by kernel_rfl) ?_
          simp only [Act.put, List.setIfInBounds_toArray, List.set_cons_succ, List.set_cons_zero]
          with_reducible refine wpList_skip (by kernel_rfl) ?_
          simp only [Act.put, List.setIfInBounds_toArray, List.set_cons_succ, List.set_cons_zero]
          with_reducible refine wpList_skip (by kernel_rfl) ?_
          simp only [Act.put, List.setIfInBounds_toArray, List.set_cons_succ, List.set_cons_zero]
          refine wpList_val (.bool false) (by kernel_rfl) (by go_simp) ?_
          simp only [Act.put, List.setIfInBounds_toArray, List.set_cons_succ, List.set_cons_zero]
          go_wp2
          go_roundw
          case rel => exact ⟨i + 1, by omega, by go_num, by rw [hz.out]; go_num, rr, bb⟩
          case measure => simp [intOf]; omega
        · have hl3 : N.l = false ∨ N.l = true := by cases N.l <;> simp
          rcases hl3 with hl2 | hl2
          · have hz : Hid (sizeU N (i + 1) = sizeU N i + 18) := by
              unfold Hid
              show sizeU N i + (if (N.c i).h = true then (if N.l = true then 34 else 18) else 0) = _
              rw [hh, hl2]
              rfl
            rw [hh] at x0
            rw [hl2] at n0
            have sz : sizeU N i ≤ 150 := zb.out i (by omega)
            clear hh hl2
            refine wpList_val (.int .i64 (i : Int)) (by kernel_rfl) (by go_simp) ?_
            simp only [Act.put, List.setIfInBounds_toArray, List.set_cons_succ, List.set_cons_zero]
            refine wpList_val (.pointer (some ⟨w.heap.size, 1, none⟩)) (by kernel_rfl) (by go_simp) ?_
            simp only [Act.put, List.setIfInBounds_toArray, List.set_cons_succ, List.set_cons_zero]
            refine wpList_val (.pointer (some ⟨w.heap.size, 1 + i * 21, none⟩)) (by kernel_rfl) (by go_simp) ?_
            simp only [Act.put, List.setIfInBounds_toArray, List.set_cons_succ, List.set_cons_zero]
            refine wpList_val (.pointer (some ⟨w.heap.size, 1 + i * 21, none⟩)) (by kernel_rfl) (by go_simp) ?_
            simp only [Act.put, List.setIfInBounds_toArray, List.set_cons_succ, List.set_cons_zero]
            refine wpList_val (.bool true) (by kernel_rfl) (by go_simp) ?_
            simp only [Act.put, List.setIfInBounds_toArray, List.set_cons_succ, List.set_cons_zero]
            refine wpList_val (.bool true) (by kernel_rfl) (by go_simp) ?_
            simp only [Act.put, List.setIfInBounds_toArray, List.set_cons_succ, List.set_cons_zero]
            refine wpList_val (.pointer (some ⟨w.heap.size, 0, none⟩)) (by kernel_rfl) (by go_simp) ?_
            simp only [Act.put, List.setIfInBounds_toArray, List.set_cons_succ, List.set_cons_zero]
            refine wpList_val (.bool false) (by kernel_rfl) (by go_simp) ?_
            simp only [Act.put, List.setIfInBounds_toArray, List.set_cons_succ, List.set_cons_zero]
            refine wpList_val (.bool false) (by kernel_rfl) (by go_simp) ?_
            simp only [Act.put, List.setIfInBounds_toArray, List.set_cons_succ, List.set_cons_zero]
            repeat (first | (with_reducible refine wp_stop (id := 10) ?_) | go_values | go_skip | go_guarded | go_step | go_upon | go_back)
            unfold Hid
            refine wp_region_lit ?_
            refine wpList_val (.int .i64 (i : Int)) (by kernel_rfl) (by go_simp) ?_
            simp only [Act.put, List.setIfInBounds_toArray, List.set_cons_succ, List.set_cons_zero]
            refine wpList_val (.pointer (some ⟨w.heap.size, 1, none⟩)) (by kernel_rfl) (by go_simp) ?_
            simp only [Act.put, List.setIfInBounds_toArray, List.set_cons_succ, List.set_cons_zero]
            refine wpList_val (.pointer (some ⟨w.heap.size, 1 + i * 21, none⟩)) (by kernel_rfl) (by go_simp) ?_
            simp only [Act.put, List.setIfInBounds_toArray, List.set_cons_succ, List.set_cons_zero]
            refine wpList_val (.pointer (some ⟨w.heap.size, 1 + i * 21, none⟩)) (by kernel_rfl) (by go_simp) ?_
            simp only [Act.put, List.setIfInBounds_toArray, List.set_cons_succ, List.set_cons_zero]
            refine wpList_val (.bool true) (by kernel_rfl) (by go_simp) ?_
            simp only [Act.put, List.setIfInBounds_toArray, List.set_cons_succ, List.set_cons_zero]
            refine wpList_val (.bool true) (by kernel_rfl) (by go_simp) ?_
            simp only [Act.put, List.setIfInBounds_toArray, List.set_cons_succ, List.set_cons_zero]
            refine wpList_val (.pointer (some ⟨w.heap.size, 0, none⟩)) (by kernel_rfl) (by go_simp) ?_
            simp only [Act.put, List.setIfInBounds_toArray, List.set_cons_succ, List.set_cons_zero]
            refine wpList_val (.bool false) (by kernel_rfl) (by go_simp) ?_
            simp only [Act.put, List.setIfInBounds_toArray, List.set_cons_succ, List.set_cons_zero]
            refine wpList_val (.bool true) (by kernel_rfl) (by go_simp) ?_
            simp only [Act.put, List.setIfInBounds_toArray, List.set_cons_succ, List.set_cons_zero]
            refine wpList_val (.bool true) (by kernel_rfl) (by go_simp) ?_
            simp only [Act.put, List.setIfInBounds_toArray, List.set_cons_succ, List.set_cons_zero]
            go_wp2
            go_roundw
            case rel => exact ⟨i + 1, by omega, by go_num, by rw [hz.out]; go_num, rr, bb⟩
            case measure => simp [intOf]; omega
          · have hz : Hid (sizeU N (i + 1) = sizeU N i + 34) := by
              unfold Hid
              show sizeU N i + (if (N.c i).h = true then (if N.l = true then 34 else 18) else 0) = _
              rw [hh, hl2]
              rfl
            rw [hh] at x0
            rw [hl2] at n0
            have sz : sizeU N i ≤ 150 := zb.out i (by omega)
            clear hh hl2
            refine wpList_val (.int .i64 (i : Int)) (by kernel_rfl) (by go_simp) ?_
            simp only [Act.put, List.setIfInBounds_toArray, List.set_cons_succ, List.set_cons_zero]
            refine wpList_val (.pointer (some ⟨w.heap.size, 1, none⟩)) (by kernel_rfl) (by go_simp) ?_
            simp only [Act.put, List.setIfInBounds_toArray, List.set_cons_succ, List.set_cons_zero]
            refine wpList_val (.pointer (some ⟨w.heap.size, 1 + i * 21, none⟩)) (by kernel_rfl) (by go_simp) ?_
            simp only [Act.put, List.setIfInBounds_toArray, List.set_cons_succ, List.set_cons_zero]
            refine wpList_val (.pointer (some ⟨w.heap.size, 1 + i * 21, none⟩)) (by kernel_rfl) (by go_simp) ?_
            simp only [Act.put, List.setIfInBounds_toArray, List.set_cons_succ, List.set_cons_zero]
            refine wpList_val (.bool true) (by kernel_rfl) (by go_simp) ?_
            simp only [Act.put, List.setIfInBounds_toArray, List.set_cons_succ, List.set_cons_zero]
            refine wpList_val (.bool true) (by kernel_rfl) (by go_simp) ?_
            simp only [Act.put, List.setIfInBounds_toArray, List.set_cons_succ, List.set_cons_zero]
            refine wpList_val (.pointer (some ⟨w.heap.size, 0, none⟩)) (by kernel_rfl) (by go_simp) ?_
            simp only [Act.put, List.setIfInBounds_toArray, List.set_cons_succ, List.set_cons_zero]
            refine wpList_val (.bool true) (by kernel_rfl) (by go_simp) ?_
            simp only [Act.put, List.setIfInBounds_toArray, List.set_cons_succ, List.set_cons_zero]
            refine wpList_val (.bool true) (by kernel_rfl) (by go_simp) ?_
            simp only [Act.put, List.setIfInBounds_toArray, List.set_cons_succ, List.set_cons_zero]
            repeat (first | (with_reducible refine wp_stop (id := 10) ?_) | go_values | go_skip | go_guarded | go_step | go_upon | go_back)
            unfold Hid
            refine wp_region_lit ?_
            refine wpList_val (.int .i64 (i : Int)) (by kernel_rfl) (by go_simp) ?_
            simp only [Act.put, List.setIfInBounds_toArray, List.set_cons_succ, List.set_cons_zero]
            refine wpList_val (.pointer (some ⟨w.heap.size, 1, none⟩)) (by kernel_rfl) (by go_simp) ?_
            simp only [Act.put, List.setIfInBounds_toArray, List.set_cons_succ, List.set_cons_zero]
            refine wpList_val (.pointer (some ⟨w.heap.size, 1 + i * 21, none⟩)) (by kernel_rfl) (by go_simp) ?_
            simp only [Act.put, List.setIfInBounds_toArray, List.set_cons_succ, List.set_cons_zero]
            refine wpList_val (.pointer (some ⟨w.heap.size, 1 + i * 21, none⟩)) (by kernel_rfl) (by go_simp) ?_
            simp only [Act.put, List.setIfInBounds_toArray, List.set_cons_succ, List.set_cons_zero]
            refine wpList_val (.bool true) (by kernel_rfl) (by go_simp) ?_
            simp only [Act.put, List.setIfInBounds_toArray, List.set_cons_succ, List.set_cons_zero]
            refine wpList_val (.bool true) (by kernel_rfl) (by go_simp) ?_
            simp only [Act.put, List.setIfInBounds_toArray, List.set_cons_succ, List.set_cons_zero]
            refine wpList_val (.pointer (some ⟨w.heap.size, 0, none⟩)) (by kernel_rfl) (by go_simp) ?_
            simp only [Act.put, List.setIfInBounds_toArray, List.set_cons_succ, List.set_cons_zero]
            refine wpList_val (.bool true) (by kernel_rfl) (by go_simp) ?_
            simp only [Act.put, List.setIfInBounds_toArray, List.set_cons_succ, List.set_cons_zero]
            refine wpList_val (.bool false) (by kernel_rfl) (by go_simp) ?_
            simp only [Act.put, List.setIfInBounds_toArray, List.set_cons_succ, List.set_cons_zero]
            refine wpList_val (.bool false) (by kernel_rfl) (by go_simp) ?_
            simp only [Act.put, List.setIfInBounds_toArray, List.set_cons_succ, List.set_cons_zero]
            go_wp2
            go_roundw
            case rel => exact ⟨i + 1, by omega, by go_num, by rw [hz.out]; go_num, rr, bb⟩
            case measure => simp [intOf]; omega
      · have ei : i = 4 := by omega
        subst ei
        have l0 : ¬ ((4 : Nat) : Int) < 4 := by omega
        have z2 := SZ.out
        have z3 := zb.out 4 (by decide)
        generalize sizeU N 4 = z at *
        clear zb
        go_wp2_with fail
        refine (SH.out wr).mono ?_
        rintro e w3 ⟨rfl, b3⟩
        go_wp2
        go_ret
        exact ⟨rfl, bb.out.trans (b3.mono bb.out.size)⟩

end Go.Proofs.Ytapebaoajknepaa
