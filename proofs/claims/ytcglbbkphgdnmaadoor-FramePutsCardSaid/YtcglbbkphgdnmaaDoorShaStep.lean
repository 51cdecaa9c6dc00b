/-
  Contract: step, where the numbers K lie in their variable.
-/
import Derived.Test.YtcglbbkphgdnmaaDoorShaSpread
namespace Go.Proofs.YtcglbbkphgdnmaaDoor
open Go.RowKit

/-- The numbers K lie in their variable. -/
def KRow (w : World) : Prop := 0 < w.heap.size ∧ ∀ i, i < 64 → w.cell? ⟨0, i, none⟩ = some (.int .u32 (kN i : Nat))

theorem KRow.below {B : Nat} {w w' : World} (h : KRow w) (hb : Below B w w') (hB : 0 < B) (hs : w.heap.size ≤ w'.heap.size) : KRow w' :=
  ⟨Nat.lt_of_lt_of_le h.1 hs, fun i hi => (hb.cell hB).trans (h.2 i hi)⟩

theorem not32 (x : Nat) (hx : x < 4294967296) : 4294967295 ^^^ x = 4294967295 - x := by
  have h1 : (BitVec.allOnes 32 ^^^ BitVec.ofNat 32 x).toNat = (~~~ (BitVec.ofNat 32 x)).toNat := by rw [BitVec.allOnes_xor]
  rw [BitVec.toNat_xor, BitVec.toNat_allOnes, BitVec.toNat_not, BitVec.toNat_ofNat, Nat.mod_eq_of_lt (show x < 2 ^ 32 from hx)] at h1
  exact h1

theorem max_u32 : (if IntKind.u32.signed = true then -1 else IntKind.u32.max) = ((4294967295 : Nat) : Int) := rfl

theorem t_value (s : Nat → Nat) (hs : Words s) (k v : Nat) :
    ((((s 7 : Nat) : Int) + ((turnsN (s 4) [6, 11, 25] : Nat) : Int) + bits .xor .u32 (bits .and .u32 ((s 4 : Nat) : Int) ((s 5 : Nat) : Int)) (bits .and .u32 (bits .xor .u32 (if IntKind.u32.signed = true then -1 else IntKind.u32.max) ((s 4 : Nat) : Int)) ((s 6 : Nat) : Int)) + (k : Int)) % 4294967296 + (v : Int)) % 4294967296 = ((tN s k v : Nat) : Int) := by
  have l4 := hs 4
  rw [turns_three, max_u32, bits_xor_u32_nat _ _ (by decide) l4, not32 _ l4, bits_and_u32_nat _ _ l4 (hs 5), bits_and_u32_nat _ _ (by omega) (hs 6), bits_xor_u32_nat _ _ (and_lt _ _ (hs 5)) (and_lt _ _ (hs 6))]
  unfold tN
  omega

theorem u_value (s : Nat → Nat) (hs : Words s) :
    (((turnsN (s 0) [2, 13, 22] : Nat) : Int) + bits .xor .u32 (bits .xor .u32 (bits .and .u32 ((s 0 : Nat) : Int) ((s 1 : Nat) : Int)) (bits .and .u32 ((s 0 : Nat) : Int) ((s 2 : Nat) : Int))) (bits .and .u32 ((s 1 : Nat) : Int) ((s 2 : Nat) : Int))) % 4294967296 = ((uN s : Nat) : Int) := by
  rw [turns_three, bits_and_u32_nat _ _ (hs 0) (hs 1), bits_and_u32_nat _ _ (hs 0) (hs 2), bits_and_u32_nat _ _ (hs 1) (hs 2), bits_xor_u32_nat _ _ (and_lt _ _ (hs 1)) (and_lt _ _ (hs 2)),
    bits_xor_u32_nat _ _ (xor_lt _ _ (and_lt _ _ (hs 1)) (and_lt _ _ (hs 2))) (and_lt _ _ (hs 2))]
  unfold uN
  omega

theorem mix_raw (s : Nat → Nat) (t u : Nat) {U : Int} (hU : U % 4294967296 = (u : Int)) : (#[.int .u32 (((t : Int) + U) % 4294967296), .int .u32 ((s 0 : Nat) : Int), .int .u32 ((s 1 : Nat) : Int), .int .u32 ((s 2 : Nat) : Int), .int .u32 ((((s 3 : Nat) : Int) + (t : Int)) % 4294967296), .int .u32 ((s 4 : Nat) : Int), .int .u32 ((s 5 : Nat) : Int), .int .u32 ((s 6 : Nat) : Int)] : Array Value) = rowOf 8 (w32 (mixN s t u)) := by
  have e1 : ((t : Int) + U) % 4294967296 = (((t + u) % 4294967296 : Nat) : Int) := by omega
  have e2 : (((s 3 : Nat) : Int) + (t : Int)) % 4294967296 = (((s 3 + t) % 4294967296 : Nat) : Int) := by omega
  rw [e1, e2]
  rfl

/-- The words behind all rounds, added to those ahead of them. -/
def finN (W h : Nat → Nat) : Nat → Nat := fun j => (roundsN W h 64 j + h j) % 4294967296

set_option maxHeartbeats 1000000 in
set_option maxRecDepth 8000 in
theorem step_any (H B : Nat → Nat) (hh : Hid (Words H)) (hB : Hid (Bytes B)) (w : World) (hk : Hid (KRow w)) :
    Calls Tryd.prog 51 #[.agg (rowOf 8 (w32 H)), .agg (rowOf 64 (w8 B))] w fun e w' => e = .returned (.agg (rowOf 8 (w32 (stepN H B)))) ∧ Below w.heap.size w w' := by
  have hW := Lib.hid (spreadN_words hB.out 48)
  have hS := Lib.hid (spread_any B hB)
  have E : stepN H B = finN (spreadN B 48) H := rfl
  rw [E]
  clear E hB
  generalize spreadN B 48 = W at *
  have a1 : Hid (RowAt (((w.alloc (.cells (rowOf 8 (w32 H)) 87)).alloc (.cells (rowOf 64 (w8 B)) 89)).alloc (.cells (rowOf 8 (w32 zeroN)) 87)) (w.heap.size + 1) 89 (rowOf 64 (w8 B))) := row_new1 w _ _ _ _
  rw [z32_8] at a1
  go_enter Tryd.func51, Tryd.ntmps51
  go_wp2_with (refine wpList_load_row rfl 89 _ rfl (w.heap.size + 1) rfl 89 _ (0, 0) _ a1.out Tryd.underlying89 rfl (info_b64 _) ?_)
  rw [← z32_8] at a1
  rw [← z32_8]
  obtain ⟨w1, hw1⟩ : ∃ w1, ((w.alloc (.cells (rowOf 8 (w32 H)) 87)).alloc (.cells (rowOf 64 (w8 B)) 89)).alloc (.cells (rowOf 8 (w32 zeroN)) 87) = w1 := ⟨_, rfl⟩
  have r0 : Hid (RowAt w1 w.heap.size 87 (rowOf 8 (w32 H))) := by rw [← hw1]; exact ((RowAt.new _ _ _).alloc _).alloc _
  have r2 : Hid (RowAt w1 (w.heap.size + 1 + 1) 87 (rowOf 8 (w32 zeroN))) := by rw [← hw1]; exact row_new2 w _ _ _ _
  have b0 : Below w.heap.size w w1 := by rw [← hw1]; exact (((Below.refl _ _).alloc (Nat.le_refl _) _).alloc (by simp) _).alloc (by simp; omega) _
  have s1 : w1.heap.size = w.heap.size + 3 := by rw [← hw1, World.size_alloc, World.size_alloc, World.size_alloc]
  rw [hw1]
  clear hw1 a1
  refine (hS.out w1).mono ?_
  rintro e w2 ⟨rfl, hb1⟩
  have s2 : w.heap.size + 3 ≤ w2.heap.size := by have := hb1.size; omega
  replace r0 : Hid (RowAt w2 w.heap.size 87 (rowOf 8 (w32 H))) := r0.out.below hb1 (by omega)
  replace r2 : Hid (RowAt w2 (w.heap.size + 1 + 1) 87 (rowOf 8 (w32 zeroN))) := r2.out.below hb1 (by omega)
  replace b0 : Below w.heap.size w w2 := b0.trans (hb1.mono (by omega))
  clear hb1 s1 hS
  go_wp2_with (first | (refine wpList_store_row rfl 108 _ _ rfl w2.heap.size (rowOf 64 (w32 W)) rfl rfl 108 _ (RowAt.new _ _ _) (info_w64 _) (by rw [rowOf_size]; rfl) (rowOf_cells32 _ _) ?_; rw [World.setRow_alloc_new]))
  refine (turns_any _ _ _ _).mono ?_
  rintro e w3 ⟨rfl, rfl⟩
  go_wp2_with fail
  refine (turns_any _ _ _ _).mono ?_
  rintro e w3 ⟨rfl, rfl⟩
  obtain ⟨os, hos⟩ : ∃ os : List Obj, os = [.cells (rowOf 64 (w32 W)) 108, .cells #[.int .i64 2, .int .i64 13, .int .i64 22] 3, .cells #[.slice (some ⟨w2.heap.size + 1, 0, none⟩) 3 3] 118,
    .cells #[.int .i64 6, .int .i64 11, .int .i64 25] 3, .cells #[.slice (some ⟨w2.heap.size + 1 + 1 + 1, 0, none⟩) 3 3] 118] := ⟨_, rfl⟩
  obtain ⟨w3, hw3⟩ : ∃ w3, os.foldl World.alloc w2 = w3 := ⟨_, rfl⟩
  have rW : Hid (RowAt w3 w2.heap.size 108 (rowOf 64 (w32 W))) := by rw [← hw3]; exact allocs_row os w2 0 _ _ (by rw [hos]; rfl)
  have t1 : Hid (Turner (w2.heap.size + 5) w3 (.func (.func 75) #[] #[.pointer (some ⟨w2.heap.size + 1 + 1, 0, none⟩)]) [2, 13, 22]) := by
    rw [← hw3]
    exact ⟨w2.heap.size + 1, w2.heap.size + 2, 3, rfl, by omega, by omega, allocs_row os w2 2 _ _ (by rw [hos]; rfl), allocs_row os w2 1 _ _ (by rw [hos]; rfl)⟩
  have t2 : Hid (Turner (w2.heap.size + 5) w3 (.func (.func 75) #[] #[.pointer (some ⟨w2.heap.size + 1 + 1 + 1 + 1, 0, none⟩)]) [6, 11, 25]) := by
    rw [← hw3]
    exact ⟨w2.heap.size + 3, w2.heap.size + 4, 3, rfl, by omega, by omega, allocs_row os w2 4 _ _ (by rw [hos]; rfl), allocs_row os w2 3 _ _ (by rw [hos]; rfl)⟩
  have b3 : Below w2.heap.size w2 w3 := by rw [← hw3]; exact allocs_below os w2
  have s3 : Hid (w3.heap.size = w2.heap.size + 5) := by rw [← hw3]; unfold Hid; rw [allocs_size, hos]; rfl
  replace r0 : Hid (RowAt w3 w.heap.size 87 (rowOf 8 (w32 H))) := r0.out.below b3 (by omega)
  replace r2 : Hid (RowAt w3 (w.heap.size + 1 + 1) 87 (rowOf 8 (w32 zeroN))) := r2.out.below b3 (by omega)
  replace b0 : Below w.heap.size w w3 := b0.trans (b3.mono (by omega))
  rw [hos] at hw3
  simp only [List.foldl_cons, List.foldl_nil] at hw3
  rw [hw3]
  clear hw3 hos os b3
  go_wp2_with (first | (refine wpList_load_row rfl 87 _ rfl w.heap.size rfl 87 _ (0, 0) _ r0.out Tryd.underlying87 rfl (info_w8 _) ?_) | (refine wpList_store_row rfl 87 _ _ rfl w3.heap.size (rowOf 8 (w32 H)) rfl rfl 87 _ (RowAt.new _ _ _) (info_w8 _) (by rw [rowOf_size]; rfl) (rowOf_cells32 _ _) ?_; rw [World.setRow_alloc_new]))
  have kr := Lib.hid (hk.out.below b0 hk.out.1 b0.size)
  have rx : Hid (RowAt (w3.alloc (.cells (rowOf 8 (w32 H)) 87)) w3.heap.size 87 (rowOf 8 (w32 H))) := RowAt.new _ _ _
  have b4 : Below w3.heap.size w3 (w3.alloc (.cells (rowOf 8 (w32 H)) 87)) := (Below.refl _ _).alloc (Nat.le_refl _) _
  have s5 : w2.heap.size + 5 ≤ w3.heap.size := by rw [s3.out]; exact Nat.le_refl _
  have k0 : 0 < w3.heap.size := kr.out.1
  clear s3 hk
  obtain ⟨p, hp⟩ : ∃ p, w3.heap.size = p := ⟨_, rfl⟩
  rw [hp] at rx b4 s5 k0
  rw [hp]
  clear hp
  generalize w3.alloc (.cells (rowOf 8 (w32 H)) 87) = w4 at *
  go_loopw [26] (fun i wr => ∃ j : Nat, j ≤ 64 ∧ i = .int .i64 j ∧ Hid (RowAt wr p 87 (rowOf 8 (w32 (roundsN W H j)))) ∧ Below p w3 wr)
    (fun i _ => 64 - (intOf i).toNat)
  case atStart => exact ⟨0, by omega, rfl, rx, b4⟩
  case round =>
    clear rx b4 w4
    obtain ⟨j, hj, rfl, hr, hbl⟩ := hrel
    by_cases hlt : j < 64
    · have hs := Lib.hid (roundsN_words (W := W) hh.out j)
      have E1 : Hid (roundsN W H (j + 1) = roundN (roundsN W H j) (kN j) (W j)) := rfl
      generalize roundsN W H j = s at *
      have h0 := hs.out 0
      have h1 := hs.out 1
      have h2 := hs.out 2
      have h3 := hs.out 3
      have h4 := hs.out 4
      have h5 := hs.out 5
      have h6 := hs.out 6
      have h7 := hs.out 7
      have hkl := kN_lt j
      have hwl := hW.out j
      go_wp2
      refine wp_region_one (by kernel_rfl) (by kernel_rfl) ?_
      replace hr : Hid (RowAt wr.drew p 87 (rowOf 8 (w32 s))) := hr
      replace hbl : Below p w3 wr.drew := hbl.drew
      generalize wr.drew = w5 at *
      have c0 := hr.out.cell 0 (by decide)
      have c1 := hr.out.cell 1 (by decide)
      have c2 := hr.out.cell 2 (by decide)
      have c4 := hr.out.cell 4 (by decide)
      have c5 := hr.out.cell 5 (by decide)
      have c6 := hr.out.cell 6 (by decide)
      unfold w32 at c0 c1 c2 c4 c5 c6
      repeat (first | go_big_quiet_skip | (go_big_quiet_want; go_big_quiet_op; go_big_quiet_on))
      refine wpQuiet_nil ?_
      clear c0 c1 c2 c4 c5 c6
      go_wp2
      refine wp_region_one (by kernel_rfl) (by kernel_rfl) ?_
      replace hr : Hid (RowAt w5.drew p 87 (rowOf 8 (w32 s))) := hr
      replace hbl : Below p w3 w5.drew := hbl.drew
      generalize w5.drew = w6 at *
      have c7 := hr.out.cell 7 (by decide)
      have ck := (kr.out.below hbl k0 hbl.size).2 j hlt
      have cw := (rW.out.below hbl (by omega)).cell j hlt
      unfold w32 at c7 cw
      have K1 := Lib.hid (turner_call (t2.out.below hbl s5) (by decide) (by decide) _ h4)
      have K2 := Lib.hid (turner_call (t1.out.below hbl s5) (by decide) (by decide) _ h0)
      generalize kN j = k at *
      generalize W j = wj at *
      repeat (first | go_big_quiet_skip | (go_big_quiet_want; go_big_quiet_op; go_big_quiet_on))
      (go_big_quiet_want; go_big_quiet_op; apply Exists.intro; refine ⟨K1.out, ?_⟩; go_big_quiet_on)
      repeat (first | go_big_quiet_skip | (go_big_quiet_want; go_big_quiet_op; go_big_quiet_on))
      refine wpQuiet_nil ?_
      clear c7 ck cw
      rw [t_value s hs.out k wj]
      have ht := tN_lt s k wj
      have E2 : Hid (roundsN W H (j + 1) = mixN s (tN s k wj) (uN s)) := E1
      have UV := Lib.hid (u_value s hs.out)
      have hu := uN_lt s
      generalize tN s k wj = t at *
      generalize uN s = u at *
      clear E1 K1
      go_wp2_with fail
      refine K2.out.mono ?_
      rintro e w7 ⟨rfl, rfl⟩
      have c3 := hr.out.cell 3 (by decide)
      unfold w32 at c3
      clear K2
      go_wp2_with (refine wpList_store_row rfl 87 _ _ rfl p _ rfl rfl 87 _ hr.out ?hi ?hold ?h1 ?_; (case hi => kernel_rfl); (case hold => rw [rowOf_size]; rfl); (case h1 => kernel_rfl); rw [mix_raw s t u UV.out, ← E2.out]; have hr9 := Lib.hid (hr.out.setRow (rowOf 8 (w32 (roundsN W H (j + 1))))); have hb9 := below_setRow' hbl (Nat.le_refl p) (rowOf 8 (w32 (roundsN W H (j + 1)))); clear hr hbl c3; generalize World.setRow _ _ _ = w9 at *)
      go_roundw
      case rel => exact ⟨j + 1, by omega, by go_num, hr9, hb9⟩
      case measure => simp [intOf]; omega
    · have : j = 64 := by omega
      subst this
      clear hW rW t1 t2 kr
      have X := Lib.hid (roundsN_words (W := W) hh.out 64)
      obtain ⟨x, HX⟩ : ∃ x : Nat → Nat, Hid (finN W H = fun k => (x k + H k) % 4294967296) ∧ roundsN W H 64 = x := ⟨roundsN W H 64, rfl, rfl⟩
      rw [HX.2] at hr X
      replace HX := HX.1
      go_wp2
      go_loopw [94] (fun i wr => ∃ j : Nat, j ≤ 8 ∧ i = .int .i64 j ∧ Hid (RowAt wr p 87 (rowOf 8 (w32 (part (fun k => (x k + H k) % 4294967296) x j)))) ∧ Below p w3 wr)
        (fun i _ => 8 - (intOf i).toNat)
      case atStart => exact ⟨0, by omega, rfl, by rw [part_zero]; exact hr, hbl⟩
      case round =>
        clear hr hbl
        obtain ⟨j, hj, rfl, hr, hbl⟩ := hrel
        by_cases hlt : j < 8
        · go_wp2
          refine wp_region_still_tail 8 (by kernel_rfl) (by kernel_rfl) ?_
          change wpStill _ _ wr.drew (fun a' => wpList _ _ _ _ a' wr.drew) _ _
          replace hr : Hid (RowAt wr.drew p 87 (rowOf 8 (w32 (part (fun k => (x k + H k) % 4294967296) x j)))) := hr
          replace hbl : Below p w3 wr.drew := hbl.drew
          generalize wr.drew = w5 at *
          have c1 := hr.out.cell j hlt
          have f1 := hr.out.free j
          have c2 := (r0.out.below hbl (by omega)).cell j hlt
          unfold w32 at c1 c2
          rw [part_above _ _ _ _ (Nat.le_refl j)] at c1
          have l1 := X.out j
          have l2 := hh.out j
          have e3 : Hid ((rowOf 8 (w32 (part (fun k => (x k + H k) % 4294967296) x j))).setIfInBounds j (.int .u32 (((x j + H j) % 4294967296 : Nat) : Int)) = rowOf 8 (w32 (part (fun k => (x k + H k) % 4294967296) x (j + 1)))) := by
            unfold Hid; rw [rowOf_upd32, ← part_upd]
          simp only [List.take_succ_cons, List.take_zero, List.drop_succ_cons, List.drop_zero]
          refine wpStill_of_quiet _ _ ?_
          repeat (first | go_big_quiet_skip | (go_big_quiet_want; go_big_quiet_op; go_big_quiet_on))
          refine wpQuiet_nil ?_
          go_wp2
          go_roundw
          case rel =>
            refine ⟨j + 1, by omega, by go_num, (hr.out.set j _).congr (Eq.trans ?_ e3.out), hbl.setCell (Nat.le_refl _) _⟩
            congr 2
          case measure => simp [intOf]; omega
        · have : j = 8 := by omega
          subst this
          have hr2 : Hid (RowAt wr p 87 (rowOf 8 (w32 (fun k => (x k + H k) % 4294967296)))) := hr.out.congr (rowOf_congr fun k hk => by unfold w32; rw [part_below _ _ _ _ hk])
          have hq : Hid (RowAt wr (w.heap.size + 1 + 1) 87 (rowOf 8 (w32 zeroN))) := r2.out.below hbl (by omega)
          clear hr
          rw [← HX.out] at hr2
          obtain ⟨y, hy⟩ : ∃ y, finN W H = y := ⟨_, rfl⟩
          rw [hy] at hr2
          replace hy := Lib.hid hy
          go_wp2_with (first | (refine wpList_load_row rfl 87 _ rfl p rfl 87 _ (0, 0) _ hr2.out Tryd.underlying87 rfl (info_w8 _) ?_) | (refine wpList_store_row rfl 87 _ _ rfl (w.heap.size + 1 + 1) (rowOf 8 (w32 y)) rfl rfl 87 _ hq.out (info_w8 _) (by rw [rowOf_size, rowOf_size]) (rowOf_cells32 _ _) ?_))
          refine bodyPost_ret (v := .agg (rowOf 8 (w32 y))) ?_ rfl ⟨by rw [hy.out], below_setRow' (b0.trans (hbl.mono (by omega))) (by omega) _⟩
          exact results_cell_row Tryd.results51 _ _ (w.heap.size + 1 + 1) 87 (rowOf 8 (w32 y)) (0, 0) _ rfl (hq.out.setRow _) Tryd.underlying87 rfl (info_w8 _)

end Go.Proofs.YtcglbbkphgdnmaaDoor
