/-
  Texts 4 of 8, merged.
-/
import Derived.Test.YtapebaoajknepaaGreatDoorAll3
import Derived.Laws.AppendOwn
import Derived.OwnWalk
import Derived.Lib.TrimByte
import Derived.Lib.Repeat
import Derived.Shelf.Strings.Trim
import Derived.Shelf.Strings.Repeat
import Derived.Test.YtapebaoajknepaaGreatDoorProg
import Derived.WalkKit
import Derived.WalkSpells
import Derived.WalkLawsBesides
import Derived.BigQuiet
import Derived.Deep.QuietTactic
import Derived.Lib.Hide
import Derived.Lib.Strings
/-
  Contract: step, where the numbers K lie in their variable.
-/
namespace Go.Proofs.YtapebaoajknepaaGreatDoor
open Go.RowKit

/-- The numbers K lie in their variable. -/
def KRow (w : World) : Prop := 0 < w.heap.size ∧ ∀ i, i < 64 → w.cell? ⟨0, i, none⟩ = some (.int .u32 (kN i : Nat))

theorem KRow.below {B : Nat} {w w' : World} (h : KRow w) (hb : Below B w w') (hB : 0 < B) (hs : w.heap.size ≤ w'.heap.size) : KRow w' :=
  ⟨Nat.lt_of_lt_of_le h.1 hs, fun i hi => (hb.cell hB).trans (h.2 i hi)⟩

theorem not32 (x : Nat) (hx : x < 4294967296) : 4294967295 ^^^ x = 4294967295 - x := by
  have h1 : (BitVec.allOnes 32 ^^^ BitVec.ofNat 32 x).toNat = (~~~ (BitVec.ofNat 32 x)).toNat := by rw [BitVec.allOnes_xor]
  rw [BitVec.toNat_xor, BitVec.toNat_allOnes, BitVec.toNat_not, BitVec.toNat_ofNat, Nat.mod_eq_of_lt (show x < 2 ^ 32 from hx)] at h1
  exact h1

theorem max_u32 : (if IntKind.u32.signed = true then -1 else IntKind.u32.max) = ((4294967295 : Nat) : Int) := rfl

theorem t_value (s : Nat → Nat) (hs : Words s) (k v : Nat) :
    ((((s 7 : Nat) : Int) + ((turnsN (s 4) [6, 11, 25] : Nat) : Int) + bits .xor .u32 (bits .and .u32 ((s 4 : Nat) : Int) ((s 5 : Nat) : Int)) (bits .and .u32 (bits .xor .u32 (if IntKind.u32.signed = true then -1 else IntKind.u32.max) ((s 4 : Nat) : Int)) ((s 6 : Nat) : Int)) + (k : Int)) % 4294967296 + (v : Int)) % 4294967296 = ((tN s k v : Nat) : Int) := by
  have l4 := hs 4
  rw [turns_three, max_u32, bits_xor_u32_nat _ _ (by decide) l4, not32 _ l4, bits_and_u32_nat _ _ l4 (hs 5), bits_and_u32_nat _ _ (by omega) (hs 6), bits_xor_u32_nat _ _ (and_lt _ _ (hs 5)) (and_lt _ _ (hs 6))]
  unfold tN
  omega

theorem u_value (s : Nat → Nat) (hs : Words s) :
    (((turnsN (s 0) [2, 13, 22] : Nat) : Int) + bits .xor .u32 (bits .xor .u32 (bits .and .u32 ((s 0 : Nat) : Int) ((s 1 : Nat) : Int)) (bits .and .u32 ((s 0 : Nat) : Int) ((s 2 : Nat) : Int))) (bits .and .u32 ((s 1 : Nat) : Int) ((s 2 : Nat) : Int))) % 4294967296 = ((uN s : Nat) : Int) := by
  rw [turns_three, bits_and_u32_nat _ _ (hs 0) (hs 1), bits_and_u32_nat _ _ (hs 0) (hs 2), bits_and_u32_nat _ _ (hs 1) (hs 2), bits_xor_u32_nat _ _ (and_lt _ _ (hs 1)) (and_lt _ _ (hs 2)),
    bits_xor_u32_nat _ _ (xor_lt _ _ (and_lt _ _ (hs 1)) (and_lt _ _ (hs 2))) (and_lt _ _ (hs 2))]
  unfold uN
  omega

theorem mix_raw (s : Nat → Nat) (t u : Nat) {U : Int} (hU : U % 4294967296 = (u : Int)) : (#[.int .u32 (((t : Int) + U) % 4294967296), .int .u32 ((s 0 : Nat) : Int), .int .u32 ((s 1 : Nat) : Int), .int .u32 ((s 2 : Nat) : Int), .int .u32 ((((s 3 : Nat) : Int) + (t : Int)) % 4294967296), .int .u32 ((s 4 : Nat) : Int), .int .u32 ((s 5 : Nat) : Int), .int .u32 ((s 6 : Nat) : Int)] : Array Value) = rowOf 8 (w32 (mixN s t u)) := by
  have e1 : ((t : Int) + U) % 4294967296 = (((t + u) % 4294967296 : Nat) : Int) := by omega
  have e2 : (((s 3 : Nat) : Int) + (t : Int)) % 4294967296 = (((s 3 + t) % 4294967296 : Nat) : Int) := by omega
  rw [e1, e2]
  rfl

/-- The words behind all rounds, added to those ahead of them. -/
def finN (W h : Nat → Nat) : Nat → Nat := fun j => (roundsN W h 64 j + h j) % 4294967296

set_option maxHeartbeats 1000000 in
set_option maxRecDepth 8000 in
theorem step_any (H B : Nat → Nat) (hh : Hid (Words H)) (hB : Hid (Bytes B)) (w : World) (hk : Hid (KRow w)) :
    Calls Tryz.prog 87 #[.agg (rowOf 8 (w32 H)), .agg (rowOf 64 (w8 B))] w fun e w' => e = .returned (.agg (rowOf 8 (w32 (stepN H B)))) ∧ Below w.heap.size w w' := by
  have hW := Lib.hid (spreadN_words hB.out 48)
  have hS := Lib.hid (spread_any B hB)
  have E : stepN H B = finN (spreadN B 48) H := rfl
  rw [E]
  clear E hB
  generalize spreadN B 48 = W at *
  have a1 : Hid (RowAt (((w.alloc (.cells (rowOf 8 (w32 H)) 142)).alloc (.cells (rowOf 64 (w8 B)) 144)).alloc (.cells (rowOf 8 (w32 zeroN)) 142)) (w.heap.size + 1) 144 (rowOf 64 (w8 B))) := row_new1 w _ _ _ _
  rw [z32_8] at a1
  go_enter Tryz.func87, Tryz.ntmps87
  go_wp2_with (refine wpList_load_row rfl 144 _ rfl (w.heap.size + 1) rfl 144 _ (0, 0) _ a1.out Tryz.underlying144 rfl (info_b64 _) ?_)
  rw [← z32_8] at a1
  rw [← z32_8]
  obtain ⟨w1, hw1⟩ : ∃ w1, ((w.alloc (.cells (rowOf 8 (w32 H)) 142)).alloc (.cells (rowOf 64 (w8 B)) 144)).alloc (.cells (rowOf 8 (w32 zeroN)) 142) = w1 := ⟨_, rfl⟩
  have r0 : Hid (RowAt w1 w.heap.size 142 (rowOf 8 (w32 H))) := by rw [← hw1]; exact ((RowAt.new _ _ _).alloc _).alloc _
  have r2 : Hid (RowAt w1 (w.heap.size + 1 + 1) 142 (rowOf 8 (w32 zeroN))) := by rw [← hw1]; exact row_new2 w _ _ _ _
  have b0 : Below w.heap.size w w1 := by rw [← hw1]; exact (((Below.refl _ _).alloc (Nat.le_refl _) _).alloc (by simp) _).alloc (by simp; omega) _
  have s1 : w1.heap.size = w.heap.size + 3 := by rw [← hw1, World.size_alloc, World.size_alloc, World.size_alloc]
  rw [hw1]
  clear hw1 a1
  refine (hS.out w1).mono ?_
  rintro e w2 ⟨rfl, hb1⟩
  have s2 : w.heap.size + 3 ≤ w2.heap.size := by have := hb1.size; omega
  replace r0 : Hid (RowAt w2 w.heap.size 142 (rowOf 8 (w32 H))) := r0.out.below hb1 (by omega)
  replace r2 : Hid (RowAt w2 (w.heap.size + 1 + 1) 142 (rowOf 8 (w32 zeroN))) := r2.out.below hb1 (by omega)
  replace b0 : Below w.heap.size w w2 := b0.trans (hb1.mono (by omega))
  clear hb1 s1 hS
  go_wp2_with (first | (refine wpList_store_row rfl 164 _ _ rfl w2.heap.size (rowOf 64 (w32 W)) rfl rfl 164 _ (RowAt.new _ _ _) (info_w64 _) (by rw [rowOf_size]; rfl) (rowOf_cells32 _ _) ?_; rw [World.setRow_alloc_new]))
  refine (turns_any _ _ _ _).mono ?_
  rintro e w3 ⟨rfl, rfl⟩
  go_wp2_with fail
  refine (turns_any _ _ _ _).mono ?_
  rintro e w3 ⟨rfl, rfl⟩
  obtain ⟨os, hos⟩ : ∃ os : List Obj, os = [.cells (rowOf 64 (w32 W)) 164, .cells #[.int .i64 2, .int .i64 13, .int .i64 22] 3, .cells #[.slice (some ⟨w2.heap.size + 1, 0, none⟩) 3 3] 46,
    .cells #[.int .i64 6, .int .i64 11, .int .i64 25] 3, .cells #[.slice (some ⟨w2.heap.size + 1 + 1 + 1, 0, none⟩) 3 3] 46] := ⟨_, rfl⟩
  obtain ⟨w3, hw3⟩ : ∃ w3, os.foldl World.alloc w2 = w3 := ⟨_, rfl⟩
  have rW : Hid (RowAt w3 w2.heap.size 164 (rowOf 64 (w32 W))) := by rw [← hw3]; exact allocs_row os w2 0 _ _ (by rw [hos]; rfl)
  have t1 : Hid (Turner (w2.heap.size + 5) w3 (.func (.func 111) #[] #[.pointer (some ⟨w2.heap.size + 1 + 1, 0, none⟩)]) [2, 13, 22]) := by
    rw [← hw3]
    exact ⟨w2.heap.size + 1, w2.heap.size + 2, 3, rfl, by omega, by omega, allocs_row os w2 2 _ _ (by rw [hos]; rfl), allocs_row os w2 1 _ _ (by rw [hos]; rfl)⟩
  have t2 : Hid (Turner (w2.heap.size + 5) w3 (.func (.func 111) #[] #[.pointer (some ⟨w2.heap.size + 1 + 1 + 1 + 1, 0, none⟩)]) [6, 11, 25]) := by
    rw [← hw3]
    exact ⟨w2.heap.size + 3, w2.heap.size + 4, 3, rfl, by omega, by omega, allocs_row os w2 4 _ _ (by rw [hos]; rfl), allocs_row os w2 3 _ _ (by rw [hos]; rfl)⟩
  have b3 : Below w2.heap.size w2 w3 := by rw [← hw3]; exact allocs_below os w2
  have s3 : Hid (w3.heap.size = w2.heap.size + 5) := by rw [← hw3]; unfold Hid; rw [allocs_size, hos]; rfl
  replace r0 : Hid (RowAt w3 w.heap.size 142 (rowOf 8 (w32 H))) := r0.out.below b3 (by omega)
  replace r2 : Hid (RowAt w3 (w.heap.size + 1 + 1) 142 (rowOf 8 (w32 zeroN))) := r2.out.below b3 (by omega)
  replace b0 : Below w.heap.size w w3 := b0.trans (b3.mono (by omega))
  rw [hos] at hw3
  simp only [List.foldl_cons, List.foldl_nil] at hw3
  rw [hw3]
  clear hw3 hos os b3
  go_wp2_with (first | (refine wpList_load_row rfl 142 _ rfl w.heap.size rfl 142 _ (0, 0) _ r0.out Tryz.underlying142 rfl (info_w8 _) ?_) | (refine wpList_store_row rfl 142 _ _ rfl w3.heap.size (rowOf 8 (w32 H)) rfl rfl 142 _ (RowAt.new _ _ _) (info_w8 _) (by rw [rowOf_size]; rfl) (rowOf_cells32 _ _) ?_; rw [World.setRow_alloc_new]))
  have kr := Lib.hid (hk.out.below b0 hk.out.1 b0.size)
  have rx : Hid (RowAt (w3.alloc (.cells (rowOf 8 (w32 H)) 142)) w3.heap.size 142 (rowOf 8 (w32 H))) := RowAt.new _ _ _
  have b4 : Below w3.heap.size w3 (w3.alloc (.cells (rowOf 8 (w32 H)) 142)) := (Below.refl _ _).alloc (Nat.le_refl _) _
  have s5 : w2.heap.size + 5 ≤ w3.heap.size := by rw [s3.out]; exact Nat.le_refl _
  have k0 : 0 < w3.heap.size := kr.out.1
  clear s3 hk
  obtain ⟨p, hp⟩ : ∃ p, w3.heap.size = p := ⟨_, rfl⟩
  rw [hp] at rx b4 s5 k0
  rw [hp]
  clear hp
  generalize w3.alloc (.cells (rowOf 8 (w32 H)) 142) = w4 at *
  go_loopw [26] (fun i wr => ∃ j : Nat, j ≤ 64 ∧ i = .int .i64 j ∧ Hid (RowAt wr p 142 (rowOf 8 (w32 (roundsN W H j)))) ∧ Below p w3 wr)
    (fun i _ => 64 - (intOf i).toNat)
  case atStart => exact ⟨0, by omega, rfl, rx, b4⟩
  case round =>
    clear rx b4 w4
    obtain ⟨j, hj, rfl, hr, hbl⟩ := hrel
    by_cases hlt : j < 64
    · have hs := Lib.hid (roundsN_words (W := W) hh.out j)
      have E1 : Hid (roundsN W H (j + 1) = roundN (roundsN W H j) (kN j) (W j)) := rfl
      generalize roundsN W H j = s at *
      have h0 := hs.out 0
      have h1 := hs.out 1
      have h2 := hs.out 2
      have h3 := hs.out 3
      have h4 := hs.out 4
      have h5 := hs.out 5
      have h6 := hs.out 6
      have h7 := hs.out 7
      have hkl := kN_lt j
      have hwl := hW.out j
      go_wp2
      refine wp_region_one (by kernel_rfl) (by kernel_rfl) ?_
      replace hr : Hid (RowAt wr.drew p 142 (rowOf 8 (w32 s))) := hr
      replace hbl : Below p w3 wr.drew := hbl.drew
      generalize wr.drew = w5 at *
      have c0 := hr.out.cell 0 (by decide)
      have c1 := hr.out.cell 1 (by decide)
      have c2 := hr.out.cell 2 (by decide)
      have c4 := hr.out.cell 4 (by decide)
      have c5 := hr.out.cell 5 (by decide)
      have c6 := hr.out.cell 6 (by decide)
      unfold w32 at c0 c1 c2 c4 c5 c6
      repeat (first | go_big_quiet_skip | (go_big_quiet_want; go_big_quiet_op; go_big_quiet_on))
      refine wpQuiet_nil ?_
      clear c0 c1 c2 c4 c5 c6
      go_wp2
      refine wp_region_one (by kernel_rfl) (by kernel_rfl) ?_
      replace hr : Hid (RowAt w5.drew p 142 (rowOf 8 (w32 s))) := hr
      replace hbl : Below p w3 w5.drew := hbl.drew
      generalize w5.drew = w6 at *
      have c7 := hr.out.cell 7 (by decide)
      have ck := (kr.out.below hbl k0 hbl.size).2 j hlt
      have cw := (rW.out.below hbl (by omega)).cell j hlt
      unfold w32 at c7 cw
      have K1 := Lib.hid (turner_call (t2.out.below hbl s5) (by decide) (by decide) _ h4)
      have K2 := Lib.hid (turner_call (t1.out.below hbl s5) (by decide) (by decide) _ h0)
      generalize kN j = k at *
      generalize W j = wj at *
      repeat (first | go_big_quiet_skip | (go_big_quiet_want; go_big_quiet_op; go_big_quiet_on))
      (go_big_quiet_want; go_big_quiet_op; apply Exists.intro; refine ⟨K1.out, ?_⟩; go_big_quiet_on)
      repeat (first | go_big_quiet_skip | (go_big_quiet_want; go_big_quiet_op; go_big_quiet_on))
      refine wpQuiet_nil ?_
      clear c7 ck cw
      rw [t_value s hs.out k wj]
      have ht := tN_lt s k wj
      have E2 : Hid (roundsN W H (j + 1) = mixN s (tN s k wj) (uN s)) := E1
      have UV := Lib.hid (u_value s hs.out)
      have hu := uN_lt s
      generalize tN s k wj = t at *
      generalize uN s = u at *
      clear E1 K1
      go_wp2_with fail
      refine K2.out.mono ?_
      rintro e w7 ⟨rfl, rfl⟩
      have c3 := hr.out.cell 3 (by decide)
      unfold w32 at c3
      clear K2
      go_wp2_with (refine wpList_store_row rfl 142 _ _ rfl p _ rfl rfl 142 _ hr.out ?hi ?hold ?h1 ?_; (case hi => kernel_rfl); (case hold => rw [rowOf_size]; rfl); (case h1 => kernel_rfl); rw [mix_raw s t u UV.out, ← E2.out]; have hr9 := Lib.hid (hr.out.setRow (rowOf 8 (w32 (roundsN W H (j + 1))))); have hb9 := below_setRow' hbl (Nat.le_refl p) (rowOf 8 (w32 (roundsN W H (j + 1)))); clear hr hbl c3; generalize World.setRow _ _ _ = w9 at *)
      go_roundw
      case rel => exact ⟨j + 1, by omega, by go_num, hr9, hb9⟩
      case measure => simp [intOf]; omega
    · have : j = 64 := by omega
      subst this
      clear hW rW t1 t2 kr
      have X := Lib.hid (roundsN_words (W := W) hh.out 64)
      obtain ⟨x, HX⟩ : ∃ x : Nat → Nat, Hid (finN W H = fun k => (x k + H k) % 4294967296) ∧ roundsN W H 64 = x := ⟨roundsN W H 64, rfl, rfl⟩
      rw [HX.2] at hr X
      replace HX := HX.1
      go_wp2
      go_loopw [94] (fun i wr => ∃ j : Nat, j ≤ 8 ∧ i = .int .i64 j ∧ Hid (RowAt wr p 142 (rowOf 8 (w32 (part (fun k => (x k + H k) % 4294967296) x j)))) ∧ Below p w3 wr)
        (fun i _ => 8 - (intOf i).toNat)
      case atStart => exact ⟨0, by omega, rfl, by rw [part_zero]; exact hr, hbl⟩
      case round =>
        clear hr hbl
        obtain ⟨j, hj, rfl, hr, hbl⟩ := hrel
        by_cases hlt : j < 8
        · go_wp2
          refine wp_region_still_tail 8 (by kernel_rfl) (by kernel_rfl) ?_
          change wpStill _ _ wr.drew (fun a' => wpList _ _ _ _ a' wr.drew) _ _
          replace hr : Hid (RowAt wr.drew p 142 (rowOf 8 (w32 (part (fun k => (x k + H k) % 4294967296) x j)))) := hr
          replace hbl : Below p w3 wr.drew := hbl.drew
          generalize wr.drew = w5 at *
          have c1 := hr.out.cell j hlt
          have f1 := hr.out.free j
          have c2 := (r0.out.below hbl (by omega)).cell j hlt
          unfold w32 at c1 c2
          rw [part_above _ _ _ _ (Nat.le_refl j)] at c1
          have l1 := X.out j
          have l2 := hh.out j
          have e3 : Hid ((rowOf 8 (w32 (part (fun k => (x k + H k) % 4294967296) x j))).setIfInBounds j (.int .u32 (((x j + H j) % 4294967296 : Nat) : Int)) = rowOf 8 (w32 (part (fun k => (x k + H k) % 4294967296) x (j + 1)))) := by
            unfold Hid; rw [rowOf_upd32, ← part_upd]
          simp only [List.take_succ_cons, List.take_zero, List.drop_succ_cons, List.drop_zero]
          refine wpStill_of_quiet _ _ ?_
          repeat (first | go_big_quiet_skip | (go_big_quiet_want; go_big_quiet_op; go_big_quiet_on))
          refine wpQuiet_nil ?_
          go_wp2
          go_roundw
          case rel =>
            refine ⟨j + 1, by omega, by go_num, (hr.out.set j _).congr (Eq.trans ?_ e3.out), hbl.setCell (Nat.le_refl _) _⟩
            congr 2
          case measure => simp [intOf]; omega
        · have : j = 8 := by omega
          subst this
          have hr2 : Hid (RowAt wr p 142 (rowOf 8 (w32 (fun k => (x k + H k) % 4294967296)))) := hr.out.congr (rowOf_congr fun k hk => by unfold w32; rw [part_below _ _ _ _ hk])
          have hq : Hid (RowAt wr (w.heap.size + 1 + 1) 142 (rowOf 8 (w32 zeroN))) := r2.out.below hbl (by omega)
          clear hr
          rw [← HX.out] at hr2
          obtain ⟨y, hy⟩ : ∃ y, finN W H = y := ⟨_, rfl⟩
          rw [hy] at hr2
          replace hy := Lib.hid hy
          go_wp2_with (first | (refine wpList_load_row rfl 142 _ rfl p rfl 142 _ (0, 0) _ hr2.out Tryz.underlying142 rfl (info_w8 _) ?_) | (refine wpList_store_row rfl 142 _ _ rfl (w.heap.size + 1 + 1) (rowOf 8 (w32 y)) rfl rfl 142 _ hq.out (info_w8 _) (by rw [rowOf_size, rowOf_size]) (rowOf_cells32 _ _) ?_))
          refine bodyPost_ret (v := .agg (rowOf 8 (w32 y))) ?_ rfl ⟨by rw [hy.out], below_setRow' (b0.trans (hbl.mono (by omega))) (by omega) _⟩
          exact results_cell_row Tryz.results87 _ _ (w.heap.size + 1 + 1) 142 (rowOf 8 (w32 y)) (0, 0) _ rfl (hq.out.setRow _) Tryz.underlying142 rfl (info_w8 _)

end Go.Proofs.YtapebaoajknepaaGreatDoor
/-
  Contracts: firstWords, the document's Wide, Narrow, k.
-/
namespace Go.Proofs.YtapebaoajknepaaGreatDoor
open Go.RowKit

theorem first_row : rowOf 8 (w32 firstN) = #[.int .u32 1779033703, .int .u32 3144134277, .int .u32 1013904242, .int .u32 2773480762, .int .u32 1359893119, .int .u32 2600822924, .int .u32 528734635, .int .u32 1541459225] := rfl
theorem first_row64 : rowOf 8 (w64 firstN) = #[.int .u64 1779033703, .int .u64 3144134277, .int .u64 1013904242, .int .u64 2773480762, .int .u64 1359893119, .int .u64 2600822924, .int .u64 528734635, .int .u64 1541459225] := rfl

theorem row_new0 (w : World) (t : TypeId) (cs : Array Value) : RowAt (w.alloc (.cells cs t (0, 0))) w.heap.size t cs := RowAt.new w t cs

set_option maxHeartbeats 400000 in
theorem firstWords_any (w : World) :
    Calls Tryz.prog 85 #[] w fun e w' => e = .returned (.agg (rowOf 8 (w32 firstN))) ∧ Below w.heap.size w w' := by
  go_enter Tryz.func85, Tryz.ntmps85
  go_wp2_with (refine wpList_store_row rfl 142 _ _ rfl w.heap.size (rowOf 8 (w32 firstN)) rfl rfl 142 _ (row_new0 w _ _) (info_w8 _) (by rw [rowOf_size]; rfl) (rowOf_cells32 _ _) ?_)
  refine bodyPost_ret (v := .agg (rowOf 8 (w32 firstN))) ?_ rfl ⟨rfl, below_setRow' ((Below.refl _ _).alloc (Nat.le_refl _) _) (Nat.le_refl _) _⟩
  exact results_cell_row Tryz.results85 _ _ w.heap.size 142 (rowOf 8 (w32 firstN)) (0, 0) _ rfl ((row_new0 w _ _).setRow _) Tryz.underlying142 rfl (info_w8 _)

end Go.Proofs.YtapebaoajknepaaGreatDoor
/-
  Contract: the document's Step.
-/
namespace Go.Proofs.YtapebaoajknepaaGreatDoor
open Go.RowKit


theorem byteL_bytes (l : List UInt8) : Bytes (byteL l) := fun j => (l.getD j 0).toNat_lt

theorem byteL_get (s : ByteArray) (j : Nat) (h : j < s.size) : ((s[j]'h).toNat : Int) = ((byteL s.data.toList j : Nat) : Int) := by
  unfold byteL
  have h' : j < s.data.toList.length := by simpa using h
  rw [List.getD_eq_getElem?_getD, List.getElem?_eq_getElem h']
  rfl

/-- The words of the first j bytes. -/
def wordsP (B : Nat → Nat) (j : Nat) : Nat → Nat := fun k => wordP B k (min 4 (j - 4 * k))

theorem wordsP_zero (B : Nat → Nat) : wordsP B 0 = zeroN := by
  funext k
  unfold wordsP
  rw [show 0 - 4 * k = 0 by omega]
  rfl

theorem wordsP_at (B : Nat → Nat) (j : Nat) : wordsP B j (j / 4) = wordP B (j / 4) (j % 4) := by
  unfold wordsP
  rw [show min 4 (j - 4 * (j / 4)) = j % 4 by omega]

theorem wordsP_step (B : Nat → Nat) (j : Nat) : upd (wordsP B j) (j / 4) (wordP B (j / 4) (j % 4) * 256 + B j) = wordsP B (j + 1) := by
  funext k
  unfold upd wordsP
  by_cases h : k = j / 4
  · subst h
    rw [if_pos rfl, show min 4 (j + 1 - 4 * (j / 4)) = j % 4 + 1 by omega, wordP, show 4 * (j / 4) + j % 4 = j by omega]
  · rw [if_neg h]
    by_cases h2 : k < j / 4
    · rw [show min 4 (j - 4 * k) = 4 by omega, show min 4 (j + 1 - 4 * k) = 4 by omega]
    · rw [show min 4 (j - 4 * k) = 0 by omega, show min 4 (j + 1 - 4 * k) = 0 by omega]

theorem wordsP_all (B : Nat → Nat) : wordsP B 64 = wordsN B := by
  funext k
  unfold wordsP wordsN
  by_cases h : k < 16
  · rw [if_pos h, show min 4 (64 - 4 * k) = 4 by omega, wordP_four]
  · rw [if_neg h, show min 4 (64 - 4 * k) = 0 by omega]
    rfl

theorem wrapU (n : Int) (h0 : 0 ≤ n) (h1 : n < 18446744073709551616) : IntKind.u64.wrap n = n := by
  simp [IntKind.wrap, IntKind.bits, IntKind.signed]
  omega

theorem ref_word (y b : Nat) (hy : y < 16777216) (hb : b < 256) (c : Int) (hc : c = (b : Int)) : IntKind.u64.wrap ((y : Int) * 256 + IntKind.u64.wrap c) = ((y * 256 + b : Nat) : Int) := by
  subst hc
  rw [wrapU (b : Int) (by omega) (by omega), wrapU _ (by omega) (by omega)]
  omega

theorem ref_next (x y z v : Nat) (hx : x < 4294967296) (hy : y < 4294967296) (hz : z < 4294967296) (hv : v < 4294967296) :
    (IntKind.u64.wrap (IntKind.u64.wrap (IntKind.u64.wrap ((z : Int) + bits .xor .u64 (bits .xor .u64 ((rotr x 7 : Nat) : Int) ((rotr x 18 : Nat) : Int)) ((x : Int) / 8)) + (v : Int)) +
      bits .xor .u64 (bits .xor .u64 ((rotr y 17 : Nat) : Int) ((rotr y 19 : Nat) : Int)) ((y : Int) / 1024))).tmod 4294967296 =
      (((z + (rotr x 7 ^^^ rotr x 18 ^^^ x / 8) + v + (rotr y 17 ^^^ rotr y 19 ^^^ y / 1024)) % 4294967296 : Nat) : Int) := by
  have a1 := rotr_lt x 7 hx (by decide)
  have a2 := rotr_lt x 18 hx (by decide)
  have a3 := rotr_lt y 17 hy (by decide)
  have a4 := rotr_lt y 19 hy (by decide)
  have b1 := xor_lt _ _ a1 a2
  have b2 := xor_lt _ _ a3 a4
  have c1 := xor_lt _ (x / 8) b1 (by omega)
  have c2 := xor_lt _ (y / 1024) b2 (by omega)
  rw [show (x : Int) / 8 = ((x / 8 : Nat) : Int) by omega, show (y : Int) / 1024 = ((y / 1024 : Nat) : Int) by omega]
  rw [bits_xor_u64_nat _ _ (by omega) (by omega), bits_xor_u64_nat _ _ (by omega) (by omega), bits_xor_u64_nat (rotr y 17) _ (by omega) (by omega), bits_xor_u64_nat _ _ (by omega) (by omega)]
  generalize rotr x 7 ^^^ rotr x 18 ^^^ x / 8 = A at *
  generalize rotr y 17 ^^^ rotr y 19 ^^^ y / 1024 = C at *
  rw [wrapU ((z : Int) + (A : Int)) (by omega) (by omega), wrapU ((z : Int) + (A : Int) + (v : Int)) (by omega) (by omega), wrapU _ (by omega) (by omega), Int.tmod_eq_emod_of_nonneg (by omega)]
  omega

theorem ref_t (s : Nat → Nat) (hs : Words s) (k v : Nat) (hk : k < 4294967296) (hv : v < 4294967296) :
    (IntKind.u64.wrap (IntKind.u64.wrap (IntKind.u64.wrap (IntKind.u64.wrap (((s 7 : Nat) : Int) + bits .xor .u64 (bits .xor .u64 ((rotr (s 4) 6 : Nat) : Int) ((rotr (s 4) 11 : Nat) : Int)) ((rotr (s 4) 25 : Nat) : Int)) +
      bits .xor .u64 (bits .and .u64 ((s 4 : Nat) : Int) ((s 5 : Nat) : Int)) (bits .and .u64 (4294967295 - ((s 4 : Nat) : Int)) ((s 6 : Nat) : Int))) + (k : Int)) + (v : Int))).tmod 4294967296 = ((tN s k v : Nat) : Int) := by
  have l4 := hs 4
  have l5 := hs 5
  have l6 := hs 6
  have l7 := hs 7
  have a1 := rotr_lt (s 4) 6 l4 (by decide)
  have a2 := rotr_lt (s 4) 11 l4 (by decide)
  have a3 := rotr_lt (s 4) 25 l4 (by decide)
  have b1 := xor_lt _ _ a1 a2
  have b2 := xor_lt _ _ b1 a3
  have c1 := and_lt (s 4) _ l5
  have c2 := and_lt (4294967295 - s 4) _ l6
  have c3 := xor_lt _ _ c1 c2
  unfold tN
  rw [show (4294967295 : Int) - ((s 4 : Nat) : Int) = ((4294967295 - s 4 : Nat) : Int) by omega]
  rw [bits_xor_u64_nat (rotr (s 4) 6) _ (by omega) (by omega), bits_xor_u64_nat _ _ (by omega) (by omega), bits_and_u64_nat (s 4) _ (by omega) (by omega), bits_and_u64_nat _ _ (by omega) (by omega), bits_xor_u64_nat _ _ (by omega) (by omega)]
  generalize rotr (s 4) 6 ^^^ rotr (s 4) 11 ^^^ rotr (s 4) 25 = A at *
  generalize (s 4 &&& s 5) ^^^ ((4294967295 - s 4) &&& s 6) = C at *
  rw [wrapU (((s 7 : Nat) : Int) + (A : Int)) (by omega) (by omega), wrapU (((s 7 : Nat) : Int) + (A : Int) + (C : Int)) (by omega) (by omega), wrapU (((s 7 : Nat) : Int) + (A : Int) + (C : Int) + (k : Int)) (by omega) (by omega), wrapU _ (by omega) (by omega), Int.tmod_eq_emod_of_nonneg (by omega)]
  omega

theorem ref_u (s : Nat → Nat) (hs : Words s) :
    (IntKind.u64.wrap (bits .xor .u64 (bits .xor .u64 ((rotr (s 0) 2 : Nat) : Int) ((rotr (s 0) 13 : Nat) : Int)) ((rotr (s 0) 22 : Nat) : Int) +
      bits .xor .u64 (bits .xor .u64 (bits .and .u64 ((s 0 : Nat) : Int) ((s 1 : Nat) : Int)) (bits .and .u64 ((s 0 : Nat) : Int) ((s 2 : Nat) : Int))) (bits .and .u64 ((s 1 : Nat) : Int) ((s 2 : Nat) : Int)))).tmod 4294967296 = ((uN s : Nat) : Int) := by
  have l0 := hs 0
  have l1 := hs 1
  have l2 := hs 2
  have a1 := rotr_lt (s 0) 2 l0 (by decide)
  have a2 := rotr_lt (s 0) 13 l0 (by decide)
  have a3 := rotr_lt (s 0) 22 l0 (by decide)
  have b1 := xor_lt _ _ a1 a2
  have b2 := xor_lt _ _ b1 a3
  have c1 := and_lt (s 0) _ l1
  have c2 := and_lt (s 0) _ l2
  have c3 := and_lt (s 1) _ l2
  have c4 := xor_lt _ _ c1 c2
  have c5 := xor_lt _ _ c4 c3
  unfold uN
  rw [bits_xor_u64_nat (rotr (s 0) 2) _ (by omega) (by omega), bits_xor_u64_nat _ _ (by omega) (by omega), bits_and_u64_nat (s 0) (s 1) (by omega) (by omega), bits_and_u64_nat (s 0) (s 2) (by omega) (by omega), bits_and_u64_nat (s 1) (s 2) (by omega) (by omega),
    bits_xor_u64_nat (s 0 &&& s 1) _ (by omega) (by omega), bits_xor_u64_nat _ _ (by omega) (by omega)]
  generalize rotr (s 0) 2 ^^^ rotr (s 0) 13 ^^^ rotr (s 0) 22 = A at *
  generalize (s 0 &&& s 1) ^^^ (s 0 &&& s 2) ^^^ (s 1 &&& s 2) = C at *
  rw [wrapU _ (by omega) (by omega), Int.tmod_eq_emod_of_nonneg (by omega)]
  omega

theorem mix_raw64 (s : Nat → Nat) (t u : Nat) : (#[.int .u64 (((t : Int) + (u : Int)) % 4294967296), .int .u64 ((s 0 : Nat) : Int), .int .u64 ((s 1 : Nat) : Int), .int .u64 ((s 2 : Nat) : Int), .int .u64 ((((s 3 : Nat) : Int) + (t : Int)) % 4294967296), .int .u64 ((s 4 : Nat) : Int), .int .u64 ((s 5 : Nat) : Int), .int .u64 ((s 6 : Nat) : Int)] : Array Value) = rowOf 8 (w64 (mixN s t u)) := by
  have e1 : ((t : Int) + (u : Int)) % 4294967296 = (((t + u) % 4294967296 : Nat) : Int) := by omega
  have e2 : (((s 3 : Nat) : Int) + (t : Int)) % 4294967296 = (((s 3 + t) % 4294967296 : Nat) : Int) := by omega
  rw [e1, e2]
  rfl

theorem three_rows (w : World) (c1 c2 c3 ds : Array Value) (t1 t2 t3 : TypeId) :
    RowAt ((((w.alloc (.cells c1 t1)).alloc (.cells c2 t2)).alloc (.cells c3 t3)).setRow (w.heap.size + 1 + 1) ds) w.heap.size t1 c1 ∧
    RowAt ((((w.alloc (.cells c1 t1)).alloc (.cells c2 t2)).alloc (.cells c3 t3)).setRow (w.heap.size + 1 + 1) ds) (w.heap.size + 1) t2 c2 ∧
    RowAt ((((w.alloc (.cells c1 t1)).alloc (.cells c2 t2)).alloc (.cells c3 t3)).setRow (w.heap.size + 1 + 1) ds) (w.heap.size + 1 + 1) t3 ds ∧
    Below w.heap.size w ((((w.alloc (.cells c1 t1)).alloc (.cells c2 t2)).alloc (.cells c3 t3)).setRow (w.heap.size + 1 + 1) ds) :=
  ⟨(((RowAt.new _ _ _).alloc _).alloc _).setRowOther _ _ (by omega), (row_new1 w _ _ _ _).setRowOther _ _ (by omega), (row_new2 w _ _ _ _).setRow _,
    below_setRow' ((((Below.refl _ _).alloc (Nat.le_refl _) _).alloc (by simp) _).alloc (by simp; omega) _) (by omega) _⟩

end Go.Proofs.YtapebaoajknepaaGreatDoor
/-
  Contracts: Fill, and the document's Fill.
-/
namespace Go.Proofs.YtapebaoajknepaaGreatDoor
open Go.RowKit

theorem row_string {P : Program} {w : World} {e src dst : TypeId} {g n : Nat} {f : Nat → Nat} (hf : Bytes f) (hn : n ≤ maxLen) (hs : P.underlying src = some (.slice e)) (he : P.underlying e = some (.int .u8)) (hd : P.underlying dst = some .string)
    (h : RowAt w g e (rowOf n (w8 f))) : (convert src dst (.slice (some ⟨g, 0, none⟩) n n)).run P w = .ok (.string (bs ((List.range n).map fun j => UInt8.ofNat (f j)))) w := by
  refine own_string (base := 0) (n := n) _ hs he hd ⟨by simp, Or.inr ⟨g, n, rowOf n (w8 f), rfl, Nat.zero_le _, h, Nat.le_refl _, hn, by rw [rowOf_size, Nat.mul_one], ?_⟩⟩
  rw [Nat.mul_one, List.take_of_length_le (by rw [Array.length_toList, rowOf_size]; exact Nat.le_refl _)]
  unfold rowOf
  rw [List.map_map]
  apply List.map_congr_left
  intro j _
  show Value.int .u8 _ = Value.int .u8 _
  rw [UInt8.toNat_ofNat', Nat.mod_eq_of_lt (hf j)]

/-- How many bytes 0 there are, and how many in all. -/
def fillZ (n : Nat) : Nat := (128 - (n % 64 + 9)) % 64
/-- The eight bytes of v, the highest first: the first m of them. -/
def be8 (v m : Nat) : List UInt8 := (List.range m).map fun i => UInt8.ofNat (v / 256 ^ (7 - i))
/-- What comes behind n bytes. -/
def fillL (n : Nat) : List UInt8 := (128 :: List.replicate (fillZ n) 0) ++ be8 (8 * n) 8

theorem be8_succ (v m : Nat) : be8 v (m + 1) = be8 v m ++ [UInt8.ofNat (v / 256 ^ (7 - m))] := by
  simp [be8, List.range_succ]
theorem be8_length (v m : Nat) : (be8 v m).length = m := by simp [be8]
theorem fillL_length (n : Nat) : (fillL n).length = fillZ n + 9 := by
  simp [fillL, be8_length]

/-- The bytes, by their places, the last i of them laid. -/
def fillNS (n i : Nat) : Nat → Nat := fun j => if j = 0 then 128 else if fillZ n + 9 - i ≤ j then 8 * n / 256 ^ (fillZ n + 8 - j) % 256 else 0

theorem fillN_bytes (n i : Nat) : Bytes (fillNS n i) := by
  intro j
  unfold fillNS
  split
  · decide
  · split
    · exact Nat.mod_lt _ (by decide)
    · decide

theorem fillN_zero (n : Nat) : ∀ j, j < fillZ n + 9 → fillNS n 0 j = upd (fun _ => 0) 0 128 j := by
  intro j hj
  unfold fillNS upd
  split
  · rfl
  · rw [if_neg (by omega)]

theorem fillN_step (n i : Nat) (hi : i < 8) : upd (fillNS n i) (fillZ n + 9 - 1 - i) (8 * n / 256 ^ i % 256) = fillNS n (i + 1) := by
  funext j
  unfold upd fillNS
  by_cases h : j = fillZ n + 9 - 1 - i
  · subst h
    rw [if_pos rfl, if_neg (by omega), if_pos (by omega), show fillZ n + 8 - (fillZ n + 9 - 1 - i) = i by omega]
  · rw [if_neg h]
    split
    · rfl
    · by_cases h2 : fillZ n + 9 - i ≤ j
      · rw [if_pos h2, if_pos (by omega)]
      · rw [if_neg h2, if_neg (by omega)]

theorem ofNat_mod (x : Nat) : UInt8.ofNat (x % 256) = UInt8.ofNat x := by
  apply UInt8.toNat_inj.1
  simp

theorem fillN_all (n : Nat) : ((List.range (fillZ n + 9)).map fun j => UInt8.ofNat (fillNS n 8 j)) = fillL n := by
  apply List.ext_getElem
  · simp [fillL_length]
  · intro j h1 h2
    have hj : j < fillZ n + 9 := by simpa using h1
    rw [List.getElem_map, List.getElem_range]
    unfold fillNS
    simp only [fillL]
    by_cases h0 : j = 0
    · subst h0
      simp
    · rw [if_neg h0]
      by_cases h8 : fillZ n + 9 - 8 ≤ j
      · rw [if_pos h8, List.getElem_append_right (by simp; omega), ofNat_mod]
        unfold be8
        rw [List.getElem_map, List.getElem_range]
        simp only [List.length_cons, List.length_replicate]
        rw [show fillZ n + 8 - j = 7 - (j - (fillZ n + 1)) by omega]
      · rw [if_neg h8, List.getElem_append_left (by simp; omega)]
        obtain ⟨k, rfl⟩ : ∃ k, j = k + 1 := ⟨j - 1, by omega⟩
        simp

theorem made_rowS {w : World} {base e g n : Nat} (h : w.ownsRow base e 1 (.slice (some ⟨g, 0, none⟩) n n) n (madeCells #[Value.int .u8 0] n).toList) : RowAt w g e (rowOf n (w8 fun _ => 0)) := by
  rcases h.2 with ⟨h1, _⟩ | ⟨g', cap, cur, h1, _, h3, _, _, h6, h7⟩
  · cases h1
  · simp at h1
    obtain ⟨rfl, rfl⟩ := h1
    unfold RowAt
    rw [h3]
    have : cur = rowOf n (w8 fun _ => 0) := by
      apply Array.ext'
      rw [List.take_of_length_le (by rw [Array.length_toList, h6]; exact Nat.le_refl _)] at h7
      rw [h7, toList_madeCells_one]
      unfold rowOf
      rw [show ((List.map (w8 fun _ => 0) (List.range n)).toArray.toList) = List.map (fun _ => Value.int .u8 0) (List.range n) from rfl, List.map_const', List.length_range]
    rw [this]

set_option maxHeartbeats 400000 in
theorem fill_neg (n : Int) (hn : n < 0) (w : World) :
    Calls Tryz.prog 88 #[.int .i64 n] w fun e w' => e = .returned (.string (bs [])) ∧ w' = w := by
  go_enter Tryz.func88, Tryz.ntmps88
  go_wp2
  go_ret
  exact ⟨rfl, rfl⟩

theorem shift8 (n j : Nat) : 8 * (n : Int) / 2 ^ (8 * j) % 256 = ((8 * n / 256 ^ j % 256 : Nat) : Int) := by
  rw [Int.pow_mul]
  simp

set_option maxHeartbeats 400000 in
set_option maxRecDepth 8000 in
theorem fill_any (n : Nat) (hn : n ≤ 1000000) (w : World) :
    Calls Tryz.prog 88 #[.int .i64 n] w fun e w' => e = .returned (.string (bs (fillL n))) ∧ Below w.heap.size w w' := by
  obtain ⟨ib, hib, hb0, hb1, hb2⟩ := info_parts Tryz.info5
  obtain ⟨z, hz⟩ : ∃ z, fillZ n = z := ⟨_, rfl⟩
  have ez : ((128 - ((n : Int) % 64 + 1 + 8)) % 64) = (z : Int) := by rw [← hz]; unfold fillZ; omega
  have lz : z < 64 := by rw [← hz]; unfold fillZ; omega
  obtain ⟨L, hL⟩ : ∃ L, z + 9 = L := ⟨_, rfl⟩
  have eL : (1 : Int) + (z : Int) + 8 = (L : Int) := by omega
  have hd : ¬ ((n : Int) < 0) := by omega
  have L1 : 9 ≤ L := by omega
  have L2 : L ≤ 72 := by omega
  have hZ := Lib.hid hz
  have hLL := Lib.hid hL
  clear hz hL
  go_enter Tryz.func88, Tryz.ntmps88
  go_wp2_with (first | (refine wpList_make_full _ rfl (.tmp 19) (.tmp 19) 101 rfl w.heap.size 5 ib (.int .u8 0) 1 Tryz.underlying101 hib hb0 hb1 _ _ _ _ L rfl rfl ?e1 ?e2 ?e3 ?e4 ?e5 ?_))
  case e1 => rfl
  case e2 => rfl
  case e3 => omega
  case e4 => unfold maxLen; omega
  intro w1 hown1 hg1
  have hr1 := Lib.hid (made_rowS hown1)
  have hbl1 : Below w.heap.size w w1 := (Below.refl _ _).grown hg1 (Nat.le_refl _) (fun g hg => by cases hg)
  have c0 := hr1.out.cell 0 (by omega)
  have f0 := hr1.out.free 0
  unfold w8 at c0
  have hr2 : Hid (RowAt (w1.setCell ⟨w.heap.size, 0, none⟩ (.int .u8 128)) w.heap.size 5 (rowOf L (w8 (fillNS n 0)))) := by
    refine (hr1.out.set 0 (.int .u8 128)).congr ?_
    rw [show (128 : Int) = ((128 : Nat) : Int) from rfl, rowOf_upd8]
    refine rowOf_congr fun j hj => ?_
    unfold w8
    rw [fillN_zero n j (by rw [hZ.out, hLL.out]; exact hj)]
  have hbl2 : Below w.heap.size w (w1.setCell ⟨w.heap.size, 0, none⟩ (.int .u8 128)) := hbl1.setCell (Nat.le_refl _) _
  clear hown1 hg1
  have L0 : (0 : Int) < (L : Int) := by omega
  go_wp2
  clear c0 f0 hr1 hbl1 ez eL
  generalize w1.setCell ⟨w.heap.size, 0, none⟩ (.int .u8 128) = w2 at *
  go_loopw [26] (fun i wr => ∃ j : Nat, j ≤ 8 ∧ i = .int .i64 j ∧ Hid (RowAt wr w.heap.size 5 (rowOf L (w8 (fillNS n j)))) ∧ Below w.heap.size w wr)
    (fun i _ => 8 - (intOf i).toNat)
  case atStart => exact ⟨0, by omega, rfl, hr2, hbl2⟩
  case round =>
    clear hr2 hbl2
    obtain ⟨j, hj, rfl, hr, hbl⟩ := hrel
    by_cases hlt : j < 8
    · have e1 : (L : Int) - 1 - (j : Int) = ((L - 1 - j : Nat) : Int) := by have := hLL.out; omega
      have cj := hr.out.cell (L - 1 - j) (by have := hLL.out; omega)
      have fj := hr.out.free (L - 1 - j)
      have e3 : Hid ((rowOf L (w8 (fillNS n j))).setIfInBounds (L - 1 - j) (.int .u8 ((8 * n / 256 ^ j % 256 : Nat) : Int)) = rowOf L (w8 (fillNS n (j + 1)))) := by
        unfold Hid
        have := fillN_step n j hlt
        rw [hZ.out, hLL.out] at this
        rw [rowOf_upd8, this]
      have lk : L - 1 - j < L := by have := hLL.out; omega
      obtain ⟨k, hk⟩ : ∃ k, L - 1 - j = k := ⟨_, rfl⟩
      rw [hk] at e1 cj fj e3 lk
      have HK := Lib.hid hk
      clear hk
      have EV := Lib.hid (shift8 n j)
      go_wp2
      go_roundw
      case rel => exact ⟨j + 1, by omega, by go_num, by rw [EV.out]; exact (hr.out.set k _).congr e3.out, hbl.setCell (Nat.le_refl _) _⟩
      case measure => simp [intOf]; omega
    · have : j = 8 := by omega
      subst this
      have hcv := row_string (P := Tryz.prog) (src := 101) (dst := 9) (fillN_bytes n 8) (by unfold maxLen; omega) Tryz.underlying101 Tryz.underlying5 Tryz.underlying9 hr.out
      have E : ((List.range L).map fun j => UInt8.ofNat (fillNS n 8 j)) = fillL n := by
        have := fillN_all n
        rw [hZ.out, hLL.out] at this
        exact this
      rw [E] at hcv
      clear E
      go_wp2
      go_ret
      exact ⟨rfl, hbl⟩

end Go.Proofs.YtapebaoajknepaaGreatDoor
/-
  Contracts: Step, Short. What a copy out of a text, or out of a row, lays into a row.
-/
namespace Go.Proofs.YtapebaoajknepaaGreatDoor
open Go.RowKit

set_option maxHeartbeats 400000 in
set_option maxRecDepth 8000 in
theorem short_any (g : Nat → Nat) (w : World) :
    Calls Tryz.prog 65 #[.agg (rowOf 32 (w8 g))] w fun e w' => e = .returned (.agg (rowOf 16 (w8 g))) ∧ Below w.heap.size w w' := by
  have sl1 := run_slice_all (P := Tryz.prog) Tryz.underlying116 sz8 (w.heap.size + 1 + 1)
  have sl2 := run_slice_all (P := Tryz.prog) Tryz.underlying119 sz8 w.heap.size
  go_enter Tryz.func65, Tryz.ntmps65
  go_wp2
  rw [← z8_16]
  refine wp_region_still_tail 2 (by kernel_rfl) (by kernel_rfl) ?_
  change wpStill _ _ (World.drew _) (fun a' => wpList _ _ _ _ a' (World.drew _)) _ _
  have r0 : Hid (RowAt (World.drew (((w.alloc (.cells (rowOf 32 (w8 g)) 119)).alloc (.cells (rowOf 16 (w8 zeroN)) 116)).alloc (.cells (rowOf 16 (w8 zeroN)) 116))) w.heap.size 119 (rowOf 32 (w8 g))) := ((RowAt.new _ _ _).alloc _).alloc _
  have r1 : Hid (RowAt (World.drew (((w.alloc (.cells (rowOf 32 (w8 g)) 119)).alloc (.cells (rowOf 16 (w8 zeroN)) 116)).alloc (.cells (rowOf 16 (w8 zeroN)) 116))) (w.heap.size + 1) 116 (rowOf 16 (w8 zeroN))) := row_new1 w _ _ _ _
  have r2 : Hid (RowAt (World.drew (((w.alloc (.cells (rowOf 32 (w8 g)) 119)).alloc (.cells (rowOf 16 (w8 zeroN)) 116)).alloc (.cells (rowOf 16 (w8 zeroN)) 116))) (w.heap.size + 1 + 1) 116 (rowOf 16 (w8 zeroN))) := row_new2 w _ _ _ _
  have b0 : Below w.heap.size w (World.drew (((w.alloc (.cells (rowOf 32 (w8 g)) 119)).alloc (.cells (rowOf 16 (w8 zeroN)) 116)).alloc (.cells (rowOf 16 (w8 zeroN)) 116))) := ((((Below.refl _ _).alloc (Nat.le_refl _) _).alloc (by simp) _).alloc (by simp; omega) _).drew
  generalize World.drew _ = w1 at *
  have cp := Lib.hid (run_copy_bytes (P := Tryz.prog) w1 101 101 3 5 (w.heap.size + 1 + 1) w.heap.size 16 16 32 32 zeroN g 16 32 116 119 Tryz.underlying101 sz8 r2.out r0.out 16 rfl (by decide) (by decide))
  rw [laid_all] at cp
  simp only [List.take_succ_cons, List.take_zero, List.drop_succ_cons, List.drop_zero]
  refine wpStill_of_quiet _ _ ?_
  repeat (first | go_big_quiet_skip | (go_big_quiet_want; go_big_quiet_op; go_big_quiet_on))
  refine wpQuiet_nil ?_
  clear sl1 sl2
  have hr2 := Lib.hid (r2.out.setRow (rowOf 16 (w8 g)))
  have hr1 := Lib.hid (r1.out.setRowOther (w.heap.size + 1 + 1) (rowOf 16 (w8 g)) (by omega))
  have b2 := below_setRow' b0 (show w.heap.size ≤ w.heap.size + 1 + 1 by omega) (rowOf 16 (w8 g))
  refine wpList_copy_known _ rfl _ _ 101 101 rfl _ _ rfl rfl cp.out ?_
  generalize World.setRow _ _ _ = w2 at *
  clear cp b0 r0 r1 r2
  go_wp2_with (first | (refine wpList_load_row rfl 116 _ rfl (w.heap.size + 1 + 1) rfl 116 _ (0, 0) _ hr2.out Tryz.underlying116 rfl (info_key _) ?_) | (refine wpList_store_row rfl 116 _ _ rfl (w.heap.size + 1) (rowOf 16 (w8 g)) rfl rfl 116 _ hr1.out (info_key _) (by rw [rowOf_size, rowOf_size]) (rowOf_cells8 _ _) ?_))
  refine bodyPost_ret (v := .agg (rowOf 16 (w8 g))) ?_ rfl ⟨rfl, below_setRow' b2 (by omega) _⟩
  exact results_cell_row Tryz.results65 _ _ (w.heap.size + 1) 116 (rowOf 16 (w8 g)) (0, 0) _ rfl (hr1.out.setRow _) Tryz.underlying116 rfl (info_key _)

end Go.Proofs.YtapebaoajknepaaGreatDoor
/-
  Plain mathematics of sums: a text's blocks, one behind the other; what a text that comes in parts has left.
-/
namespace Go.Proofs.YtapebaoajknepaaGreatDoor

/-- What the first k blocks of a text come to. -/
def foldN (T : List UInt8) : Nat → Nat → Nat
  | 0 => firstN
  | k + 1 => stepN (foldN T k) (fun j => byteL T (64 * k + j))

theorem foldN_words (T : List UInt8) (k : Nat) : Words (foldN T k) := by
  cases k with
  | zero => exact firstN_words
  | succ k => exact stepN_words _ _

theorem byteL_append (T X : List UInt8) (j : Nat) (h : j < T.length) : byteL (T ++ X) j = byteL T j := by
  unfold byteL
  rw [List.getD_eq_getElem?_getD, List.getD_eq_getElem?_getD, List.getElem?_append_left h]

theorem byteL_append_right (T X : List UInt8) (j : Nat) (h : T.length ≤ j) : byteL (T ++ X) j = byteL X (j - T.length) := by
  unfold byteL
  rw [List.getD_eq_getElem?_getD, List.getD_eq_getElem?_getD, List.getElem?_append_right h]

theorem byteL_take (X : List UInt8) (n j : Nat) (h : j < n) : byteL (X.take n) j = byteL X j := by
  unfold byteL
  simp [List.getD_eq_getElem?_getD, h]

theorem byteL_drop (X : List UInt8) (n j : Nat) : byteL (X.drop n) j = byteL X (n + j) := by
  unfold byteL
  simp [List.getD_eq_getElem?_getD, List.getElem?_drop]

theorem foldN_append (T X : List UInt8) (k : Nat) (h : 64 * k ≤ T.length) : foldN (T ++ X) k = foldN T k := by
  induction k with
  | zero => rfl
  | succ k ih =>
    unfold foldN
    rw [ih (by omega)]
    exact stepN_congr _ fun j hj => byteL_append T X _ (by omega)

/-- The block holds what has come of it. -/
def Fed (T : List UInt8) (blk : Nat → Nat) : Prop := ∀ j, j < T.length % 64 → blk j = byteL T (64 * (T.length / 64) + j)

theorem laid_bytes {f g : Nat → Nat} (hf : Bytes f) (hg : Bytes g) (o n : Nat) : Bytes (laid f g o n) := by
  intro j
  unfold laid
  split
  · exact hg _
  · exact hf _

theorem fed_laid (T R : List UInt8) (blk : Nat → Nat) (n : Nat) (h : Fed T blk) : ∀ j, j < T.length % 64 + n → laid blk (byteL R) (T.length % 64) n j = byteL (T ++ R.take n) (64 * (T.length / 64) + j) := by
  intro j hj
  unfold laid
  by_cases c : T.length % 64 ≤ j
  · rw [if_pos (by omega), byteL_append_right _ _ _ (by omega), byteL_take _ _ _ (by omega)]
    congr 1
    omega
  · rw [if_neg (by omega), byteL_append _ _ _ (by omega)]
    exact h j (by omega)

theorem fed_more (T R : List UInt8) (blk : Nat → Nat) (n : Nat) (hn : n ≤ R.length) (h : Fed T blk) (hlt : T.length % 64 + n < 64) :
    Fed (T ++ R.take n) (laid blk (byteL R) (T.length % 64) n) ∧ (T ++ R.take n).length % 64 = T.length % 64 + n ∧ foldN (T ++ R.take n) ((T ++ R.take n).length / 64) = foldN T (T.length / 64) := by
  have hl : (T ++ R.take n).length = T.length + n := by simp; omega
  have h1 : (T.length + n) % 64 = T.length % 64 + n := by omega
  have h2 : (T.length + n) / 64 = T.length / 64 := by omega
  refine ⟨?_, by rw [hl, h1], by rw [hl, h2]; exact foldN_append _ _ _ (by omega)⟩
  intro j hj
  rw [hl, h1] at hj
  rw [hl, h2]
  exact fed_laid T R blk n h j hj

theorem fed_full (T R : List UInt8) (blk : Nat → Nat) (n : Nat) (hn : n ≤ R.length) (h : Fed T blk) (he : T.length % 64 + n = 64) (blk' : Nat → Nat) :
    Fed (T ++ R.take n) blk' ∧ (T ++ R.take n).length % 64 = 0 ∧ foldN (T ++ R.take n) ((T ++ R.take n).length / 64) = stepN (foldN T (T.length / 64)) (laid blk (byteL R) (T.length % 64) n) := by
  have hl : (T ++ R.take n).length = T.length + n := by simp; omega
  have h1 : (T.length + n) % 64 = 0 := by omega
  have h2 : (T.length + n) / 64 = T.length / 64 + 1 := by omega
  refine ⟨?_, by rw [hl, h1], ?_⟩
  · intro j hj
    rw [hl, h1] at hj
    omega
  · rw [hl, h2]
    show stepN (foldN (T ++ R.take n) (T.length / 64)) _ = _
    rw [foldN_append _ _ _ (by omega)]
    exact stepN_congr _ fun j hj => (fed_laid T R blk n h j (by omega)).symm

/-- The bytes of the sum of a text. -/
def sumN (T : List UInt8) : Nat → Nat := hashN (foldN (T ++ fillL T.length) ((T ++ fillL T.length).length / 64))

theorem full_length (T : List UInt8) : (T ++ fillL T.length).length % 64 = 0 := by
  rw [List.length_append, fillL_length]
  unfold fillZ
  omega

end Go.Proofs.YtapebaoajknepaaGreatDoor
/-
  A sum is bytes.
-/
namespace Go.Proofs.YtapebaoajknepaaGreatDoor

theorem sumN_bytes (T : List UInt8) : Bytes (sumN T) := fun j => hashN_bytes _ j

end Go.Proofs.YtapebaoajknepaaGreatDoor
/-
  Plain mathematics of a page: what is ahead of its sum, the parts that it is read by, which pages have a frame.
-/
namespace Go.Proofs.YtapebaoajknepaaGreatDoor

/-- All that is ahead of the sum: the kind, the number, the length, the text, bytes 0. -/
def aheadL (k n : Nat) (T : List UInt8) : List UInt8 := numB 1 k ++ (numB 8 n ++ (numB 2 T.length ++ (T ++ List.replicate (229 - T.length) 0)))
/-- The first half of a sum. -/
def sumL (A : List UInt8) : List UInt8 := listB 16 (sumN A)
/-- A page. -/
def pageL (k n : Nat) (T : List UInt8) : List UInt8 := aheadL k n T ++ sumL (aheadL k n T)

theorem sumL_length (A : List UInt8) : (sumL A).length = 16 := listB_length _ _
theorem aheadL_length {k n : Nat} {T : List UInt8} (h : T.length ≤ 229) : (aheadL k n T).length = 240 := by
  unfold aheadL
  simp only [List.length_append, numB_length, List.length_replicate]
  omega
theorem pageL_length {k n : Nat} {T : List UInt8} (h : T.length ≤ 229) : (pageL k n T).length = 256 := by
  unfold pageL
  rw [List.length_append, aheadL_length h, sumL_length]

/-- What a page is read by. -/
def kindL (P : List UInt8) : Nat := numV (P.take 1)
def seqL (P : List UInt8) : Nat := numV ((P.drop 1).take 8)
def lenL (P : List UInt8) : Nat := numV ((P.drop 9).take 2)
def textL (P : List UInt8) : List UInt8 := (P.drop 11).take (lenL P)

theorem take_app {α : Type} {a b : List α} {n : Nat} (h : a.length = n) : (a ++ b).take n = a := by
  rw [List.take_append_of_le_length (by omega), List.take_of_length_le (by omega)]
theorem drop_app {α : Type} {a b : List α} {n m : Nat} (h : a.length = n) : (a ++ b).drop (n + m) = b.drop m := by
  rw [List.drop_append, List.drop_of_length_le (by omega), List.nil_append]
  congr 1
  omega

theorem page_app (k n : Nat) (T : List UInt8) : pageL k n T = numB 1 k ++ (numB 8 n ++ (numB 2 T.length ++ (T ++ (List.replicate (229 - T.length) 0 ++ sumL (aheadL k n T))))) := by
  unfold pageL
  generalize sumL (aheadL k n T) = S
  unfold aheadL
  simp only [List.append_assoc]

theorem kindL_page (k n : Nat) (T : List UInt8) (hk : k < 256) : kindL (pageL k n T) = k := by
  unfold kindL
  rw [page_app, take_app (numB_length 1 k)]
  exact numV_numB 1 k (by simpa using hk)
theorem seqL_page (k n : Nat) (T : List UInt8) (hn : n < 18446744073709551616) : seqL (pageL k n T) = n := by
  unfold seqL
  rw [page_app, show (1 : Nat) = 1 + 0 from rfl, drop_app (numB_length (1 + 0) k), List.drop_zero, take_app (numB_length 8 n)]
  exact numV_numB 8 n (by simpa using hn)
theorem lenL_page (k n : Nat) (T : List UInt8) (h : T.length ≤ 229) : lenL (pageL k n T) = T.length := by
  unfold lenL
  rw [page_app, show (9 : Nat) = 1 + 8 from rfl, drop_app (numB_length 1 k), show (8 : Nat) = 8 + 0 from rfl, drop_app (numB_length (8 + 0) n), List.drop_zero, take_app (numB_length 2 T.length)]
  exact numV_numB 2 _ (by simp; omega)
theorem textL_page (k n : Nat) (T : List UInt8) (h : T.length ≤ 229) : textL (pageL k n T) = T := by
  unfold textL
  rw [lenL_page k n T h, page_app, show (11 : Nat) = 1 + 10 from rfl, drop_app (numB_length 1 k), show (10 : Nat) = 8 + 2 from rfl, drop_app (numB_length 8 n), show (2 : Nat) = 2 + 0 from rfl, drop_app (numB_length (2 + 0) T.length), List.drop_zero, take_app rfl]

/-- Has a page a frame? -/
def okB (P : List UInt8) : Bool := decide (P.length = 256) && (!decide (kindL P = 0) && (decide (lenL P ≤ 229) && decide (pageL (kindL P) (seqL P) (textL P) = P)))

theorem okB_page (k n : Nat) (T : List UInt8) (h0 : k ≠ 0) (hk : k < 256) (hn : n < 18446744073709551616) (h : T.length ≤ 229) : okB (pageL k n T) = true := by
  unfold okB
  rw [kindL_page k n T hk, seqL_page k n T hn, lenL_page k n T h, textL_page k n T h, pageL_length h]
  simp [h0, h]

theorem numV_two (l : List UInt8) (h : l.length ≤ 2) : numV l < 65536 := by
  have := numV_lt l
  have h2 : 256 ^ l.length ≤ 256 ^ 2 := Nat.pow_le_pow_right (by decide) h
  omega
theorem lenL_lt (P : List UInt8) : lenL P < 65536 := numV_two _ (by simp; omega)
theorem numV_le (l : List UInt8) (n : Nat) (h : l.length ≤ n) : numV l < 256 ^ n := Nat.lt_of_lt_of_le (numV_lt l) (Nat.pow_le_pow_right (by decide) h)
theorem kindL_lt (P : List UInt8) : kindL P < 256 := numV_le _ 1 (by simp; omega)
theorem seqL_lt (P : List UInt8) : seqL P < 18446744073709551616 := numV_le _ 8 (by simp; omega)

theorem numB_take {l : List UInt8} {n : Nat} (h : l.length = n) : numB n (numV l) = l := by subst h; exact numB_numV l

theorem ahead_of {P : List UInt8} (hl : P.length = 256) (hm : lenL P ≤ 229) : aheadL (kindL P) (seqL P) (textL P) = P.take (11 + lenL P) ++ List.replicate (229 - lenL P) 0 := by
  have ht : (textL P).length = lenL P := by unfold textL; rw [List.length_take, List.length_drop]; omega
  unfold aheadL
  rw [ht]
  have e1 : numB 1 (kindL P) = P.take 1 := numB_take (by rw [List.length_take]; omega)
  have e2 : numB 8 (seqL P) = (P.drop 1).take 8 := numB_take (by rw [List.length_take, List.length_drop]; omega)
  have e3 : numB 2 (lenL P) = (P.drop 9).take 2 := numB_take (by rw [List.length_take, List.length_drop]; omega)
  have e4 : P.take (11 + lenL P) = P.take 1 ++ ((P.drop 1).take 8 ++ ((P.drop 9).take 2 ++ textL P)) := by
    unfold textL
    rw [show 11 + lenL P = 1 + (8 + (2 + lenL P)) by omega, List.take_add, List.take_add, List.take_add, List.drop_drop, List.drop_drop]
  rw [e1, e2, e3, e4]
  simp only [List.append_assoc]

/-- Which pages are as their parts would be written. -/
theorem page_iff {P : List UInt8} (hl : P.length = 256) (hm : lenL P ≤ 229) :
    pageL (kindL P) (seqL P) (textL P) = P ↔ P.drop 240 = sumL (P.take 240) ∧ (P.take 240).drop (11 + lenL P) = List.replicate (229 - lenL P) 0 := by
  unfold pageL
  have hA := ahead_of hl hm
  have hAl : (aheadL (kindL P) (seqL P) (textL P)).length = 240 := aheadL_length (by unfold textL; rw [List.length_take, List.length_drop]; omega)
  generalize aheadL (kindL P) (seqL P) (textL P) = A at *
  have e5 : P.take 240 = P.take (11 + lenL P) ++ (P.take 240).drop (11 + lenL P) := by
    conv => lhs; rw [← List.take_append_drop (11 + lenL P) (P.take 240)]
    rw [List.take_take, Nat.min_eq_left (by omega)]
  have e6 : P = P.take 240 ++ P.drop 240 := (List.take_append_drop 240 P).symm
  have hT : (P.take 240).length = 240 := by rw [List.length_take]; omega
  constructor
  · intro h
    have h2 : A ++ sumL A = P.take 240 ++ P.drop 240 := h.trans e6
    obtain ⟨h3, h4⟩ := List.append_inj h2 (hAl.trans hT.symm)
    refine ⟨by rw [← h4, ← h3], ?_⟩
    rw [hA, e5] at h3
    exact (List.append_inj h3 rfl).2.symm
  · rintro ⟨h1, h2⟩
    have h3 : A = P.take 240 := by rw [hA, e5, h2]
    rw [h3, ← h1]
    exact e6.symm

/-- Nothing but c. -/
theorem trimB_nil (l : List UInt8) (c : UInt8) : Lib.trimB l c = [] ↔ l = List.replicate l.length c := by
  unfold Lib.trimB Lib.trimLeftB Lib.trimRightB
  have key : ∀ m : List UInt8, m.dropWhile (· == c) = [] ↔ ∀ x ∈ m, x = c := fun m => by
    induction m with
    | nil => simp
    | cons a r ih =>
      by_cases ha : a = c
      · subst ha
        simp only [List.dropWhile_cons, beq_self_eq_true, if_true, ih, List.mem_cons, forall_eq_or_imp, true_and]
      · simp [ha]
  rw [key, List.eq_replicate_iff]
  constructor
  · intro h
    refine ⟨rfl, ?_⟩
    by_cases hn : l.reverse.dropWhile (· == c) = []
    · intro x hx
      exact (key _).1 hn x (by simpa using hx)
    · exfalso
      have hh := List.head_dropWhile_not (· == c) hn
      have := h ((l.reverse.dropWhile (· == c)).head hn) (by simp)
      simp [this] at hh
  · rintro ⟨_, h⟩ x hx
    have : x ∈ l.reverse.dropWhile (· == c) := by simpa using hx
    exact h x (by simpa using (List.dropWhile_suffix _).subset this)

theorem repeatL_byte (c : UInt8) (n : Nat) : Lib.repeatL [c] n = List.replicate n c := by
  have := Lib.repeatL_replicate c 1 n
  rwa [Nat.mul_one] at this

end Go.Proofs.YtapebaoajknepaaGreatDoor
/-
  Contract: the closure of Sum that takes one part.
-/
namespace Go.Proofs.YtapebaoajknepaaGreatDoor
open Go.RowKit

/-- The captured variables, where the text T has come. -/
def SumAt (w : World) (pb pa ph : Nat) (T : List UInt8) : Prop :=
  ∃ blk, Bytes blk ∧ Fed T blk ∧ RowAt w pb 144 (rowOf 64 (w8 blk)) ∧ RowAt w pa 3 #[.int .i64 ((T.length % 64 : Nat) : Int)] ∧ RowAt w ph 142 (rowOf 8 (w32 (foldN T (T.length / 64))))

theorem SumAt.below {B : Nat} {w w' : World} {pb pa ph : Nat} {T : List UInt8} (h : SumAt w pb pa ph T) (hb : Below B w w') (h1 : pb < B) (h2 : pa < B) (h3 : ph < B) : SumAt w' pb pa ph T := by
  obtain ⟨blk, a, b, c, d, e⟩ := h
  exact ⟨blk, a, b, c.below hb h1, d.below hb h2, e.below hb h3⟩

theorem row_one_set {w : World} {p : Nat} {t : TypeId} {v : Value} (h : RowAt w p t #[v]) (u : Value) : RowAt (w.setCell ⟨p, 0, none⟩ u) p t #[u] := (h.set 0 u).congr rfl

theorem bytes_drop (s : ByteArray) (k : Nat) : (s.extract k s.size).data.toList = s.data.toList.drop k := by
  rw [ByteArray.data_extract]
  have h : s.size = s.data.size := rfl
  rw [h, Array.toList_extract, List.extract_eq_take_drop]
  apply List.take_of_length_le
  simp

theorem bytes_take (s : ByteArray) (k : Nat) : (s.extract 0 k).data.toList = s.data.toList.take k := by
  rw [ByteArray.data_extract, Array.toList_extract, List.extract_eq_take_drop]
  simp

set_option maxHeartbeats 1000000 in
set_option maxRecDepth 8000 in
theorem add_any (base pb pa ph : Nat) (T : List UInt8) (s : ByteArray) (hm : s.size ≤ 9223372036854775807) (w : World) (hk : Hid (KRow w)) (hS : Hid (SumAt w pb pa ph T)) (b0 : 0 < base) (h1 : base ≤ pb) (h2 : base ≤ pa) (h3 : base ≤ ph) (n1 : pb ≠ pa) (n2 : pb ≠ ph) (n3 : pa ≠ ph) :
    Calls Tryz.prog 86 #[.string s, .pointer (some ⟨pb, 0, none⟩), .pointer (some ⟨pa, 0, none⟩), .pointer (some ⟨ph, 0, none⟩)] w
      fun e w' => e = .returned (.tuple #[]) ∧ Hid (SumAt w' pb pa ph (T ++ s.data.toList)) ∧ Below base w w' := by
  go_enter Tryz.func86, Tryz.ntmps86
  go_wp2
  go_loopw [0] (fun t wr => ∃ (c : List UInt8) (r : ByteArray), t = .string r ∧ r.size ≤ 9223372036854775807 ∧ Hid (s.data.toList = c ++ r.data.toList) ∧ Hid (SumAt wr pb pa ph (T ++ c)) ∧ Below base w wr)
    (fun t _ => match t with | .string r => r.size | _ => 0)
  case atStart => exact ⟨[], s, rfl, hm, rfl, by rw [List.append_nil]; exact hS, Below.refl _ _⟩
  case round =>
    clear hS
    obtain ⟨c, r, rfl, hrm, hcr, hS, hbl⟩ := hrel
    obtain ⟨blk, hB, hF, rb, ra, rh⟩ := hS.out
    have HB := Lib.hid hB
    have HF := Lib.hid hF
    have RB := Lib.hid rb
    have RA := Lib.hid ra
    have RH := Lib.hid rh
    clear hB hF rb ra rh hS
    by_cases hr0 : 0 < r.size
    · generalize hT : T ++ c = U at *
      have HT := Lib.hid hT
      clear hT
      obtain ⟨a, ha⟩ : ∃ a, U.length % 64 = a := ⟨_, rfl⟩
      have la : a < 64 := by rw [← ha]; exact Nat.mod_lt _ (by decide)
      rw [ha] at RA
      have HA := Lib.hid ha
      obtain ⟨n, hn⟩ : ∃ n, min r.size (64 - a) = n := ⟨_, rfl⟩
      have l1 : n ≤ r.size := by omega
      have l2 : a + n ≤ 64 := by omega
      have l0 : 0 < n := by omega
      have HN := Lib.hid hn
      have sl := run_slice_l (P := Tryz.prog) Tryz.underlying144 sz8 pb (a : Int) a rfl la
      have cp := Lib.hid (run_copy_text (P := Tryz.prog) wr 101 9 3 5 pb a (64 - a) (64 - a) r blk 64 144 Tryz.underlying101 sz8 RB.out n hn.symm l2)
      have ca := cell_of_one RA.out
      have rg : (0 : Int) < (r.size : Int) := by omega
      have rl : (n : Int) ≤ (r.size : Int) := by omega
      have R9 : r.data.toList.length = r.size := by simp
      have hnl : n ≤ r.data.toList.length := by rw [R9]; exact l1
      have hB2 := Lib.hid (laid_bytes HB.out (byteL_bytes r.data.toList) a n)
      have hcr2 : Hid (s.data.toList = (c ++ r.data.toList.take n) ++ (r.extract n r.size).data.toList) := by
        unfold Hid
        rw [hcr.out, List.append_assoc]
        congr 1
        rw [show (r.extract n r.size).data.toList = r.data.toList.drop n from ?_, List.take_append_drop]
        exact bytes_drop r n
      clear hn ha
      have rb2 := Lib.hid (RB.out.setRow (rowOf 64 (w8 (laid blk (byteL r.data.toList) a n))))
      have ra2 := Lib.hid (RA.out.setRowOther pb (rowOf 64 (w8 (laid blk (byteL r.data.toList) a n))) n1.symm)
      have rh2 := Lib.hid (RH.out.setRowOther pb (rowOf 64 (w8 (laid blk (byteL r.data.toList) a n))) n2.symm)
      have hb2 := below_setRow' hbl h1 (rowOf 64 (w8 (laid blk (byteL r.data.toList) a n)))
      have hrm2 : (r.extract n r.size).size ≤ 9223372036854775807 := by rw [ByteArray.size_extract]; omega
      have hms : (r.extract n r.size).size < r.size := by rw [ByteArray.size_extract]; omega
      by_cases hfull : a + n = 64
      · have ef : (a : Int) + (n : Int) = 64 := by omega
        have FF := Lib.hid (fun blk' => fed_full U r.data.toList blk n hnl HF.out (by rw [HA.out]; exact hfull) blk')
        rw [HA.out] at FF
        have hB3 := Lib.hid (laid_bytes HB.out (byteL_bytes r.data.toList) a n)
        have hW3 := Lib.hid (foldN_words U (U.length / 64))
        generalize laid blk (byteL r.data.toList) a n = blk2 at *
        generalize hV : U ++ r.data.toList.take n = V at *
        have HV := Lib.hid hV
        have HFU := Lib.hid hfull
        clear hV hfull HF HB
        go_wp2_with (first | (refine wpList_copy_known _ rfl _ _ 101 9 rfl _ _ rfl rfl cp.out ?_; clear cp sl ca; generalize World.setRow _ _ _ = w2 at *; have ca2 := cell_of_one ra2.out; have fa2 := free_of_one ra2.out; have rb3 := Lib.hid (rb2.out.setOther ⟨pa, 0, none⟩ (.int .i64 64) n1); have rh3 := Lib.hid (rh2.out.setOther ⟨pa, 0, none⟩ (.int .i64 64) n3.symm); have ra3 := Lib.hid (row_one_set ra2.out (.int .i64 64)); have hb3 := hb2.setCell (p := ⟨pa, 0, none⟩) h2 (.int .i64 64)) | (refine wpList_load_row rfl 142 _ rfl ph rfl 142 _ (0, 0) _ rh3.out Tryz.underlying142 rfl (info_w8 _) ?_) | (refine wpList_load_row rfl 144 _ rfl pb rfl 144 _ (0, 0) _ rb3.out Tryz.underlying144 rfl (info_b64 _) ?_))
        generalize World.setCell _ _ _ = w3 at *
        refine (step_any _ _ hW3 hB3 _ (hk.out.below hb3 b0 hb3.size)).mono ?_
        rintro e w4 ⟨rfl, hb4⟩
        have E := Lib.hid (FF.out blk2)
        rw [← E.out.2.2]
        have rb4 : Hid (RowAt w4 pb 144 (rowOf 64 (w8 blk2))) := rb3.out.below hb4 rb3.out.lt
        have ra4 : Hid (RowAt w4 pa 3 #[.int .i64 64]) := ra3.out.below hb4 ra3.out.lt
        have rh4 : Hid (RowAt w4 ph 142 (rowOf 8 (w32 (foldN U (U.length / 64))))) := rh3.out.below hb4 rh3.out.lt
        have hb5 : Below base w w4 := hb3.trans (hb4.mono (Nat.le_of_lt (Nat.lt_of_le_of_lt h1 rb3.out.lt)))
        obtain ⟨y, hy⟩ : ∃ y, foldN V (V.length / 64) = y := ⟨_, rfl⟩
        rw [hy]
        have HY := Lib.hid hy
        have ra5 := Lib.hid (ra4.out.setRowOther ph (rowOf 8 (w32 y)) n3)
        have rb5 := Lib.hid (rb4.out.setRowOther ph (rowOf 8 (w32 y)) n2)
        have rh5 := Lib.hid (rh4.out.setRow (rowOf 8 (w32 y)))
        have hb6 := below_setRow' hb5 h3 (rowOf 8 (w32 y))
        clear hy hb4 rb3 ra3 rh3 hb3 FF rb4 ra4 hb5 rb2 ra2 rh2 hb2 ca2 fa2
        go_wp2_with (refine wpList_store_row rfl 142 _ _ rfl ph (rowOf 8 (w32 y)) rfl rfl 142 _ rh4.out (info_w8 _) (by rw [rowOf_size, rowOf_size]) (rowOf_cells32 _ _) ?_; clear rh4; generalize World.setRow _ _ _ = w5 at *; have ca5 := cell_of_one ra5.out; have fa5 := free_of_one ra5.out)
        go_roundw
        case rel =>
          refine ⟨c ++ r.data.toList.take n, _, rfl, hrm2, hcr2, ?_, hb6.setCell (p := ⟨pa, 0, none⟩) h2 _⟩
          rw [← List.append_assoc, HT.out, HV.out]
          refine ⟨blk2, hB2.out, E.out.1, rb5.out.setOther _ _ n1, ?_, ?_⟩
          · rw [E.out.2.1]; exact row_one_set ra5.out _
          · rw [HY.out]; exact rh5.out.setOther _ _ n3.symm
        case measure => exact hms
      · obtain ⟨m, hmn⟩ : ∃ m, a + n = m := ⟨_, rfl⟩
        have ef : (a : Int) + (n : Int) = (m : Int) := by omega
        have lm : m < 64 := by omega
        have em : ((m : Int) == 64) = false := by simp; omega
        have HM := Lib.hid hmn
        have FF := Lib.hid (fed_more U r.data.toList blk n hnl HF.out (by rw [HA.out]; omega))
        rw [HA.out, HM.out] at FF
        generalize laid blk (byteL r.data.toList) a n = blk2 at *
        generalize hV : U ++ r.data.toList.take n = V at *
        have HV := Lib.hid hV
        clear hV hfull HF HB hmn
        go_wp2_with (first | (refine wpList_copy_known _ rfl _ _ 101 9 rfl _ _ rfl rfl cp.out ?_; clear cp sl ca; generalize World.setRow _ _ _ = w2 at *; have ca2 := cell_of_one ra2.out; have fa2 := free_of_one ra2.out; have rb3 := Lib.hid (rb2.out.setOther ⟨pa, 0, none⟩ (.int .i64 (m : Int)) n1); have rh3 := Lib.hid (rh2.out.setOther ⟨pa, 0, none⟩ (.int .i64 (m : Int)) n3.symm); have ra3 := Lib.hid (row_one_set ra2.out (.int .i64 (m : Int))); have hb3 := hb2.setCell (p := ⟨pa, 0, none⟩) h2 (.int .i64 (m : Int))))
        go_roundw
        case rel =>
          refine ⟨c ++ r.data.toList.take n, _, rfl, hrm2, hcr2, ?_, hb3⟩
          rw [← List.append_assoc, HT.out, HV.out]
          refine ⟨blk2, hB2.out, FF.out.1, rb3.out, ?_, ?_⟩
          · rw [FF.out.2.1]; exact ra3.out
          · rw [FF.out.2.2]; exact rh3.out
        case measure => exact hms
    · have hr1 : r.size = 0 := by omega
      have rg : ¬ (0 : Int) < (r.size : Int) := by omega
      have rn : r.data.toList = [] := by
        apply List.eq_nil_of_length_eq_zero
        simpa using hr1
      have hS2 : Hid (SumAt wr pb pa ph (T ++ s.data.toList)) := by
        rw [hcr.out, rn, List.append_nil]
        exact ⟨blk, HB.out, HF.out, RB.out, RA.out, RH.out⟩
      clear hr1 rn hcr
      go_wp2
      go_end0
      exact ⟨rfl, hS2, hbl⟩

end Go.Proofs.YtapebaoajknepaaGreatDoor
/-
  Contract: Sum.
-/
namespace Go.Proofs.YtapebaoajknepaaGreatDoor
open Go.RowKit

/-- The first j texts of a list, one behind the other. -/
def joinTo (ss : List ByteArray) (j : Nat) : List UInt8 := ((ss.take j).map fun s => s.data.toList).flatten

theorem joinTo_succ (ss : List ByteArray) (j : Nat) (h : j < ss.length) : joinTo ss (j + 1) = joinTo ss j ++ ss[j].data.toList := by
  unfold joinTo
  rw [List.take_succ_eq_append_getElem h, List.map_append, List.flatten_append]
  simp only [List.map_cons, List.map_nil, List.flatten_cons, List.flatten_nil, List.append_nil]

theorem joinTo_le (ss : List ByteArray) (j : Nat) : (joinTo ss j).length ≤ (joinTo ss ss.length).length := by
  unfold joinTo
  rw [List.take_length]
  conv => rhs; rw [← List.take_append_drop j ss]
  rw [List.map_append, List.flatten_append, List.length_append]
  omega

theorem fed_nil (blk : Nat → Nat) : Fed [] blk := fun j hj => by simp at hj

theorem zero_bytes : Bytes zeroN := fun _ => by unfold zeroN; decide

set_option maxHeartbeats 1000000 in
set_option maxRecDepth 8000 in
theorem sum_any (a : Option Addr) (c : Nat) (ss : List ByteArray) (hl : ss.length ≤ 100000) (hz : Hid ((joinTo ss ss.length).length ≤ 1000000)) (w : World) (hk : Hid (KRow w)) (hs : Hid (Sees w a ss)) :
    Calls Tryz.prog 66 #[.slice a ss.length c] w fun e w' => e = .returned (.agg (rowOf 32 (w8 (sumN (joinTo ss ss.length))))) ∧ Below w.heap.size w w' := by
  go_enter Tryz.func66, Tryz.ntmps66
  go_wp2_with fail
  rw [← z8_32]
  have r0 : Hid (RowAt (w.alloc (.cells (rowOf 32 (w8 zeroN)) 119)) w.heap.size 119 (rowOf 32 (w8 zeroN))) := RowAt.new _ _ _
  have b0 : Below w.heap.size w (w.alloc (.cells (rowOf 32 (w8 zeroN)) 119)) := (Below.refl _ _).alloc (Nat.le_refl _) _
  generalize w.alloc (.cells (rowOf 32 (w8 zeroN)) 119) = w0 at *
  refine (firstWords_any w0).mono ?_
  rintro e w1 ⟨rfl, hb1⟩
  replace r0 : Hid (RowAt w1 w.heap.size 119 (rowOf 32 (w8 zeroN))) := r0.out.below hb1 r0.out.lt
  replace b0 : Below w.heap.size w w1 := b0.trans (hb1.mono b0.size)
  clear hb1
  go_wp2_with (refine wpList_store_row rfl 142 _ _ rfl w1.heap.size (rowOf 8 (w32 firstN)) rfl rfl 142 _ (RowAt.new _ _ _) (info_w8 _) (by rw [rowOf_size]; rfl) (rowOf_cells32 _ _) ?_; rw [World.setRow_alloc_new])
  rw [← z8_64]
  obtain ⟨os, hos⟩ : ∃ os : List Obj, os = [.cells (rowOf 8 (w32 firstN)) 142, .cells (rowOf 64 (w8 zeroN)) 144, .cells #[.int .i64 0] 3] := ⟨_, rfl⟩
  obtain ⟨w2, hw2⟩ : ∃ w2, os.foldl World.alloc w1 = w2 := ⟨_, rfl⟩
  have hS : Hid (SumAt w2 (w1.heap.size + 1) (w1.heap.size + 1 + 1) w1.heap.size (joinTo ss 0)) := by
    rw [← hw2, show joinTo ss 0 = [] by simp [joinTo]]
    exact ⟨zeroN, zero_bytes, fed_nil _, allocs_row os w1 1 _ _ (by rw [hos]; rfl), allocs_row os w1 2 _ _ (by rw [hos]; rfl), allocs_row os w1 0 _ _ (by rw [hos]; rfl)⟩
  have b2 : Below w1.heap.size w1 w2 := by rw [← hw2]; exact allocs_below os w1
  rw [hos] at hw2
  simp only [List.foldl_cons, List.foldl_nil] at hw2
  rw [hw2]
  clear hw2 hos os
  have q1 : w.heap.size < w1.heap.size := r0.out.lt
  have hsB : Hid (∀ wr, Below w1.heap.size w1 wr → Sees wr a ss) := fun wr hb => (hs.out.below b0 (Nat.le_refl _)).below hb (Nat.le_refl _)
  obtain ⟨p, hp⟩ : ∃ p, w1.heap.size = p := ⟨_, rfl⟩
  rw [hp] at hS b2 q1 hsB
  rw [hp]
  clear hp
  have hk1 := Lib.hid (hk.out.below b0 hk.out.1 b0.size)
  have p0 : 0 < p := by omega
  clear hk hs
  go_loopw [7, 14] (fun t i wr => ∃ j T : Nat, j ≤ ss.length ∧ i = .int .i64 j ∧ t = .int .i64 T ∧ Hid (T = (joinTo ss j).length) ∧ T ≤ 1000000 ∧ Hid (SumAt wr (p + 1) (p + 1 + 1) p (joinTo ss j)) ∧ Below p w1 wr)
    (fun _ i _ => ss.length - (intOf i).toNat)
  case atStart => exact ⟨0, 0, by omega, rfl, rfl, rfl, by omega, hS, b2⟩
  case round =>
    clear hS b2
    obtain ⟨j, T, hj, rfl, rfl, hT, lT, hS, hbl⟩ := hrel
    by_cases hlt : j < ss.length
    · obtain ⟨ad, ha, hadb, hcell⟩ := (hsB.out wr hbl) j hlt
      subst ha
      obtain ⟨s, hse⟩ : ∃ s, s = ss[j] := ⟨_, rfl⟩
      rw [← hse] at hcell
      have HS : Hid (joinTo ss (j + 1) = joinTo ss j ++ s.data.toList) := by rw [hse]; exact joinTo_succ ss j hlt
      have hle := joinTo_le ss (j + 1)
      have hTs : Hid (T + s.size = (joinTo ss (j + 1)).length) := by
        unfold Hid
        rw [HS.out, List.length_append, hT.out]
        simp
      have lT2 : T + s.size ≤ 1000000 := by rw [hTs.out]; exact Nat.le_trans hle hz.out
      clear hse hle
      go_wp2_with fail
      refine (add_any p (p + 1) (p + 1 + 1) p (joinTo ss j) s (by omega) _ (hk1.out.below hbl p0 hbl.size) hS p0 (by omega) (by omega) (Nat.le_refl _) (by omega) (by omega) (by omega)).mono ?_
      rintro e w3 ⟨rfl, hS3, hb3⟩
      rw [← HS.out] at hS3
      have hb4 := hbl.trans hb3
      clear hb3 hS hbl hcell
      go_wp2
      go_roundw
      case rel => exact ⟨j + 1, T + s.size, by omega, by go_num, by go_num, hTs, lT2, hS3, hb4⟩
      case measure => simp [intOf]; omega
    · have : j = ss.length := by omega
      subst this
      obtain ⟨X, hX⟩ : ∃ X, joinTo ss ss.length = X := ⟨_, rfl⟩
      rw [hX] at hT hS
      replace hX := Lib.hid hX
      have HF : Hid (fillL T = fillL X.length) := by rw [hT.out]; rfl
      have FL : Hid ((bs (fillL T)).size ≤ 100) := by
        unfold Hid
        show (fillL T).toArray.size ≤ 100
        rw [List.size_toArray, fillL_length]
        unfold fillZ
        omega
      clear hsB
      go_wp2_with fail
      refine (fill_any T lT _).mono ?_
      rintro e w3 ⟨rfl, hb3⟩
      have hsz3 := hb3.size
      obtain ⟨_, _, _, u1, u2, u3⟩ := hS.out
      have hS3 : Hid (SumAt w3 (p + 1) (p + 1 + 1) p X) := hS.out.below hb3 u1.lt u2.lt u3.lt
      have hpw : p ≤ wr.heap.size := Nat.le_of_lt u3.lt
      have hbl3 : Below p w1 w3 := hbl.trans (hb3.mono hpw)
      clear u1 u2 u3 hS hbl hb3 hsz3
      go_wp2_with fail
      refine (add_any p (p + 1) (p + 1 + 1) p X (bs (fillL T)) (by have := FL.out; omega) _ (hk1.out.below hbl3 p0 hbl3.size) hS3 p0 (by omega) (by omega) (Nat.le_refl _) (by omega) (by omega) (by omega)).mono ?_
      rintro e w4 ⟨rfl, hS4, hb4⟩
      have e4 : X ++ (bs (fillL T)).data.toList = X ++ fillL X.length := by rw [← HF.out]; rfl
      rw [e4] at hS4
      obtain ⟨_, _, _, _, _, rh⟩ := hS4.out
      have RH := Lib.hid rh
      have hb5 : Below p w1 w4 := hbl3.trans hb4
      have hw4 := Lib.hid (foldN_words (X ++ fillL X.length) ((X ++ fillL X.length).length / 64))
      have E : Hid (hashN (foldN (X ++ fillL X.length) ((X ++ fillL X.length).length / 64)) = sumN X) := rfl
      generalize foldN (X ++ fillL X.length) ((X ++ fillL X.length).length / 64) = y at *
      clear rh hS4 hS3 hb4 hbl3
      go_wp2_with (refine wpList_load_row rfl 142 _ rfl p rfl 142 _ (0, 0) _ RH.out Tryz.underlying142 rfl (info_w8 _) ?_)
      refine (hashOf_any y hw4 _).mono ?_
      rintro e w5 ⟨rfl, hb6⟩
      rw [E.out]
      have hq : Hid (RowAt w5 w.heap.size 119 (rowOf 32 (w8 zeroN))) := (r0.out.below hb5 q1).below hb6 (r0.out.below hb5 q1).lt
      have hb7 : Below w.heap.size w w5 := b0.trans ((hb5.mono (by omega)).trans (hb6.mono (by have := hb5.size; have := b0.size; omega)))
      go_wp2_with (refine wpList_store_row rfl 119 _ _ rfl w.heap.size (rowOf 32 (w8 (sumN X))) rfl rfl 119 _ hq.out (info_hash _) (by rw [rowOf_size, rowOf_size]) (rowOf_cells8 _ _) ?_)
      refine bodyPost_ret (v := .agg (rowOf 32 (w8 (sumN X)))) ?_ rfl ⟨by rw [hX.out], below_setRow' hb7 (Nat.le_refl _) _⟩
      exact results_cell_row Tryz.results66 _ _ w.heap.size 119 (rowOf 32 (w8 (sumN X))) (0, 0) _ rfl (hq.out.setRow _) Tryz.underlying119 rfl (info_hash _)

end Go.Proofs.YtapebaoajknepaaGreatDoor
/-
  Contract: the document's Sum.
-/
namespace Go.Proofs.YtapebaoajknepaaGreatDoor
open Go.RowKit

theorem row_second (w : World) (o : Obj) (t : TypeId) (cs : Array Value) : RowAt ((w.alloc o).alloc (.cells cs t (0, 0))) (w.heap.size + 1) t cs := by
  have h := RowAt.new (w.alloc o) t cs
  rw [World.size_alloc] at h
  exact h

theorem two_rows (w : World) (c1 c2 ds : Array Value) (t1 t2 : TypeId) :
    RowAt (((w.alloc (.cells c1 t1)).alloc (.cells c2 t2)).setRow (w.heap.size + 1) ds) w.heap.size t1 c1 ∧
    RowAt (((w.alloc (.cells c1 t1)).alloc (.cells c2 t2)).setRow (w.heap.size + 1) ds) (w.heap.size + 1) t2 ds ∧
    Below w.heap.size w (((w.alloc (.cells c1 t1)).alloc (.cells c2 t2)).setRow (w.heap.size + 1) ds) :=
  ⟨((RowAt.new _ _ _).alloc _).setRowOther _ _ (by omega), (row_second w _ _ _).setRow _, below_setRow' (((Below.refl _ _).alloc (Nat.le_refl _) _).alloc (by simp) _) (by omega) _⟩

theorem bs_append (a b : ByteArray) : (a ++ b).data.toList = a.data.toList ++ b.data.toList := by simp

theorem foldN_cut (T : List UInt8) (k : Nat) : stepN (foldN T k) (byteL ((T.drop (64 * k)).take 64)) = foldN T (k + 1) := by
  show _ = stepN (foldN T k) _
  exact stepN_congr _ fun j hj => by rw [byteL_take _ _ _ hj, byteL_drop]

end Go.Proofs.YtapebaoajknepaaGreatDoor
/-
  Sum of one text; arrays of numbers, held against each other.
-/
namespace Go.Proofs.YtapebaoajknepaaGreatDoor
open Go.RowKit

/-- A block of texts, as a slice. -/
theorem sees_row {w : World} {p : Nat} {ss : List ByteArray} (h : RowAt w p 9 (ss.map Value.string).toArray) : Sees w (some ⟨p, 0, none⟩) ss := by
  intro j hj
  refine ⟨⟨p, 0, none⟩, rfl, h.lt, ?_⟩
  have ha : (⟨p, 0, none⟩ : Addr).add j = ⟨p, j, none⟩ := by unfold Addr.add; split <;> simp_all
  rw [ha, cell_of_row w p j _ _ _ h]
  simp [List.getElem?_eq_getElem hj]

theorem Tryz.info29 : (Tryz.prog.info? 136).map (fun i => (i.zero, i.size, i.bytes)) = some (some (.int .u32 0), 1, 4) := by kernel_rfl

theorem elem32 : ∃ i, Tryz.prog.info? 136 = some i := by
  obtain ⟨i0, hi, _⟩ := info_parts Tryz.info29
  exact ⟨i0, hi⟩

theorem eq_hash (f g : Nat → Nat) (w : World) : (Op.equalIn 10000 119 (.agg (rowOf 32 (w8 f))) (.agg (rowOf 32 (w8 g)))).run Tryz.prog w = .ok ((List.range 32).all fun i => ((f i : Nat) : Int) == ((g i : Nat) : Int)) w := by
  obtain ⟨i, hi⟩ := elem8
  rw [run_equalIn_array w 9999 _ _ Tryz.underlying119 hi]
  refine eqItems_two w 9998 Tryz.underlying5 (by kernel_rfl) _ _ _ (fun j => ((f j : Nat) : Int)) (fun j => ((g j : Nat) : Int)) _ (fun i hi => ?_)
  have hc : Tryz.prog.cellsOf 5 = 1 := by kernel_rfl
  have hi2 : i < 32 := by simpa using hi
  rw [hc, Nat.mul_one, rowOf_get _ _ _ hi2, rowOf_get _ _ _ hi2]
  exact ⟨rfl, rfl⟩

theorem eq_words (f g : Nat → Nat) (w : World) : (Op.equalIn 10000 142 (.agg (rowOf 8 (w32 f))) (.agg (rowOf 8 (w32 g)))).run Tryz.prog w = .ok ((List.range 8).all fun i => ((f i : Nat) : Int) == ((g i : Nat) : Int)) w := by
  obtain ⟨i, hi⟩ := elem32
  rw [run_equalIn_array w 9999 _ _ Tryz.underlying142 hi]
  refine eqItems_two w 9998 Tryz.underlying136 (by kernel_rfl) _ _ _ (fun j => ((f j : Nat) : Int)) (fun j => ((g j : Nat) : Int)) _ (fun i hi => ?_)
  have hc : Tryz.prog.cellsOf 136 = 1 := by kernel_rfl
  have hi2 : i < 8 := by simpa using hi
  rw [hc, Nat.mul_one, rowOf_get _ _ _ hi2, rowOf_get _ _ _ hi2]
  exact ⟨rfl, rfl⟩

theorem eq_hash_same (f : Nat → Nat) (w : World) : (Op.equalIn 10000 119 (.agg (rowOf 32 (w8 f))) (.agg (rowOf 32 (w8 f)))).run Tryz.prog w = .ok true w := by
  rw [eq_hash]
  simp

theorem eq_words_same (f : Nat → Nat) (w : World) : (Op.equalIn 10000 142 (.agg (rowOf 8 (w32 f))) (.agg (rowOf 8 (w32 f)))).run Tryz.prog w = .ok true w := by
  rw [eq_words]
  simp

theorem joinTo_one (s : ByteArray) : joinTo [s] 1 = s.data.toList := by simp [joinTo]

theorem sees_one (w : World) (s : ByteArray) : Sees (w.alloc (.cells #[.string s] 9)) (some ⟨w.heap.size, 0, none⟩) [s] := sees_row (RowAt.new w 9 #[.string s])

/-- Sum of one text, in a slice of its own. -/
theorem sum_one (s : ByteArray) (hs : s.size ≤ 100000) (w : World) (hk : KRow w) :
    Calls Tryz.prog 66 #[.slice (some ⟨w.heap.size, 0, none⟩) 1 1] (w.alloc (.cells #[.string s] 9)) fun e w' => e = .returned (.agg (rowOf 32 (w8 (sumN s.data.toList)))) ∧ Below w.heap.size w w' := by
  have b0 : Below w.heap.size w (w.alloc (.cells #[.string s] 9)) := (Below.refl _ _).alloc (Nat.le_refl _) _
  have h := sum_any (some ⟨w.heap.size, 0, none⟩) 1 [s] (by simp) (by unfold Hid; show (joinTo [s] 1).length ≤ 1000000; rw [joinTo_one]; simp; omega) _ (hk.below b0 hk.1 b0.size) (sees_one w s)
  rw [show [s].length = 1 from rfl, joinTo_one] at h
  exact h.mono fun e w' ⟨he, hb⟩ => ⟨he, b0.trans (hb.mono b0.size)⟩

end Go.Proofs.YtapebaoajknepaaGreatDoor
/-
  Contract: sumOf, the first half of a sum, as a text.
-/
namespace Go.Proofs.YtapebaoajknepaaGreatDoor
open Go.RowKit

set_option maxHeartbeats 400000 in
set_option maxRecDepth 8000 in
theorem sumOf_any (s : ByteArray) (hs : s.size ≤ 100000) (w : World) (hk : Hid (KRow w)) :
    Calls Tryz.prog 33 #[.string s] w fun e w' => e = .returned (.string (bs (sumL s.data.toList))) ∧ Below w.heap.size w w' := by
  have S := Lib.hid (sum_one s hs w hk.out)
  have E : Hid (sumL s.data.toList = listB 16 (sumN s.data.toList)) := rfl
  have hY := Lib.hid (sumN_bytes s.data.toList)
  generalize sumN s.data.toList = y at *
  go_enter Tryz.func33, Tryz.ntmps33
  go_wp2_with fail
  refine S.out.mono ?_
  rintro e w1 ⟨rfl, hb1⟩
  go_wp2_with fail
  refine (short_any y w1).mono ?_
  rintro e w2 ⟨rfl, hb2⟩
  have b2 : Below w.heap.size w w2 := hb1.trans (hb2.mono hb1.size)
  clear hb1 hb2 S hk
  go_wp2_with (refine wpList_store_row rfl 116 _ _ rfl w2.heap.size (rowOf 16 (w8 y)) rfl rfl 116 _ (RowAt.new _ _ _) (info_key _) (by rw [rowOf_size]; rfl) (rowOf_cells8 _ _) ?_; rw [World.setRow_alloc_new]; have r1 := RowAt.new w2 116 (rowOf 16 (w8 y)); have b3 := b2.alloc b2.size (.cells (rowOf 16 (w8 y)) 116); generalize w2.alloc _ = w3 at *; have sl := run_slice_all (P := Tryz.prog) Tryz.underlying116 sz8 w2.heap.size; have cv := block_string (P := Tryz.prog) (src := 101) (dst := 9) (cap := 16) hY.out Tryz.underlying101 Tryz.underlying5 Tryz.underlying9 r1; clear r1)
  go_ret
  exact ⟨by rw [E.out]; rfl, b3⟩

end Go.Proofs.YtapebaoajknepaaGreatDoor
/-
  Contracts of Go's own library that the program comes to: strings.Repeat, strings.Trim: the guide's shelf, laid at this program by the guide's own command.
-/
namespace Go.Proofs.YtapebaoajknepaaGreatDoor
open Go.Shelf Go.RowKit
set_option linter.unusedVariables false

def lays160_ren : Go.Shelf.Ren := ⟨fun | 160 => 79 | 232 => 96 | 231 => 95 | 227 => 97 | 234 => 99 | 233 => 98 | 236 => 101 | 235 => 100 | 228 => 106 | 271 => 109 | 151 => 108 | 197 => 107 | 120 => 115 | 152 => 114 | 260 => 113 | 137 => 116 | 119 => 117 | 224 => 118 | 225 => 119 | 217 => 120 | 266 => 121 | n => n, fun | 9 => 9 | 4 => 4 | 3 => 3 | 5 => 5 | 117 => 157 | 116 => 156 | 0 => 0 | 124 => 160 | 21 => 21 | 105 => 170 | 46 => 103 | 119 => 130 | 139 => 178 | 138 => 177 | n => n, fun | 3 => 2 | 4 => 3 | n => n⟩
theorem lays160 : Go.Proofs.Lays.n160 Tryz.prog lays160_ren := {
  mixed := by kernel_rfl
  f119 := Tryz.func117.trans (congrArg some (by kernel_rfl))
  f120 := Tryz.func115.trans (congrArg some (by kernel_rfl))
  f137 := Tryz.func116.trans (congrArg some (by kernel_rfl))
  f151 := Tryz.func108.trans (congrArg some (by kernel_rfl))
  f152 := Tryz.func114.trans (congrArg some (by kernel_rfl))
  f160 := Tryz.func79.trans (congrArg some (by kernel_rfl))
  f197 := Tryz.func107.trans (congrArg some (by kernel_rfl))
  f217 := Tryz.func120.trans (congrArg some (by kernel_rfl))
  f224 := Tryz.func118.trans (congrArg some (by kernel_rfl))
  f225 := Tryz.func119.trans (congrArg some (by kernel_rfl))
  f227 := Tryz.func97.trans (congrArg some (by kernel_rfl))
  f228 := Tryz.func106.trans (congrArg some (by kernel_rfl))
  f231 := Tryz.func95.trans (congrArg some (by kernel_rfl))
  f232 := Tryz.func96.trans (congrArg some (by kernel_rfl))
  f233 := Tryz.func98.trans (congrArg some (by kernel_rfl))
  f234 := Tryz.func99.trans (congrArg some (by kernel_rfl))
  f235 := Tryz.func100.trans (congrArg some (by kernel_rfl))
  f236 := Tryz.func101.trans (congrArg some (by kernel_rfl))
  f260 := Tryz.func113.trans (congrArg some (by kernel_rfl))
  f266 := Tryz.func121.trans (congrArg some (by kernel_rfl))
  f271 := Tryz.func109.trans (congrArg some (by kernel_rfl))
  t0 := Tryz.underlying0
  a0 := Tryz.isAgg0
  z0 := Tryz.sizeOf0
  v0 := Tryz.zeroValue0
  t3 := Tryz.underlying3
  a3 := Tryz.isAgg3
  z3 := Tryz.sizeOf3
  v3 := Tryz.zeroValue3
  t4 := Tryz.underlying4
  a4 := Tryz.isAgg4
  z4 := Tryz.sizeOf4
  v4 := Tryz.zeroValue4
  t5 := Tryz.underlying5
  a5 := Tryz.isAgg5
  z5 := Tryz.sizeOf5
  v5 := Tryz.zeroValue5
  t9 := Tryz.underlying9
  a9 := Tryz.isAgg9
  z9 := Tryz.sizeOf9
  v9 := Tryz.zeroValue9
  t21 := Tryz.underlying21
  a21 := Tryz.isAgg21
  z21 := Tryz.sizeOf21
  v21 := Tryz.zeroValue21
  t46 := Tryz.underlying103
  a46 := Tryz.isAgg103
  z46 := Tryz.sizeOf103
  v46 := Tryz.zeroValue103
  t105 := Tryz.underlying170
  a105 := Tryz.isAgg170
  z105 := Tryz.sizeOf170
  v105 := Tryz.zeroValue170
  t116 := Tryz.underlying156
  a116 := Tryz.isAgg156
  z116 := Tryz.sizeOf156
  t117 := Tryz.underlying157
  a117 := Tryz.isAgg157
  z117 := Tryz.sizeOf157
  v117 := Tryz.zeroValue157
  t119 := Tryz.underlying130
  a119 := Tryz.isAgg130
  z119 := Tryz.sizeOf130
  t124 := Tryz.underlying160
  a124 := Tryz.isAgg160
  z124 := Tryz.sizeOf160
  v124 := Tryz.zeroValue160
  t138 := Tryz.underlying177
  a138 := Tryz.isAgg177
  z138 := Tryz.sizeOf177
  v138 := Tryz.zeroValue177
  t139 := Tryz.underlying178
  a139 := Tryz.isAgg178
  z139 := Tryz.sizeOf178
  v139 := Tryz.zeroValue178
  g3 := by kernel_rfl
  g4 := by kernel_rfl }
def lays105_ren : Go.Shelf.Ren := ⟨fun | 105 => 32 | 212 => 59 | 99 => 60 | 165 => 61 | 166 => 62 | 170 => 63 | 169 => 64 | 263 => 80 | 264 => 81 | 206 => 82 | 240 => 83 | 241 => 84 | 276 => 102 | 277 => 103 | n => n, fun | 9 => 9 | 3 => 3 | 4 => 4 | 20 => 20 | 0 => 0 | 46 => 103 | 109 => 104 | 5 => 5 | 72 => 109 | 76 => 112 | 51 => 136 | 146 => 137 | 53 => 37 | 148 => 139 | 70 => 107 | 37 => 101 | 75 => 111 | 127 => 141 | 164 => 161 | 80 => 114 | n => n, fun | n => n⟩
theorem lays105 : Go.Proofs.Lays.n105 Tryz.prog lays105_ren := {
  mixed := by kernel_rfl
  f99 := Tryz.func60.trans (congrArg some (by kernel_rfl))
  f105 := Tryz.func32.trans (congrArg some (by kernel_rfl))
  f165 := Tryz.func61.trans (congrArg some (by kernel_rfl))
  f166 := Tryz.func62.trans (congrArg some (by kernel_rfl))
  f169 := Tryz.func64.trans (congrArg some (by kernel_rfl))
  f170 := Tryz.func63.trans (congrArg some (by kernel_rfl))
  f206 := Tryz.func82.trans (congrArg some (by kernel_rfl))
  f212 := Tryz.func59.trans (congrArg some (by kernel_rfl))
  f240 := Tryz.func83.trans (congrArg some (by kernel_rfl))
  f241 := Tryz.func84.trans (congrArg some (by kernel_rfl))
  f263 := Tryz.func80.trans (congrArg some (by kernel_rfl))
  f264 := Tryz.func81.trans (congrArg some (by kernel_rfl))
  f276 := Tryz.func102.trans (congrArg some (by kernel_rfl))
  f277 := Tryz.func103.trans (congrArg some (by kernel_rfl))
  t0 := Tryz.underlying0
  a0 := Tryz.isAgg0
  z0 := Tryz.sizeOf0
  v0 := Tryz.zeroValue0
  t3 := Tryz.underlying3
  a3 := Tryz.isAgg3
  z3 := Tryz.sizeOf3
  v3 := Tryz.zeroValue3
  t4 := Tryz.underlying4
  a4 := Tryz.isAgg4
  z4 := Tryz.sizeOf4
  v4 := Tryz.zeroValue4
  t5 := Tryz.underlying5
  a5 := Tryz.isAgg5
  z5 := Tryz.sizeOf5
  v5 := Tryz.zeroValue5
  t9 := Tryz.underlying9
  a9 := Tryz.isAgg9
  z9 := Tryz.sizeOf9
  v9 := Tryz.zeroValue9
  t20 := Tryz.underlying20
  a20 := Tryz.isAgg20
  z20 := Tryz.sizeOf20
  v20 := Tryz.zeroValue20
  t37 := Tryz.underlying101
  a37 := Tryz.isAgg101
  z37 := Tryz.sizeOf101
  v37 := Tryz.zeroValue101
  t46 := Tryz.underlying103
  a46 := Tryz.isAgg103
  z46 := Tryz.sizeOf103
  v46 := Tryz.zeroValue103
  t51 := Tryz.underlying136
  a51 := Tryz.isAgg136
  z51 := Tryz.sizeOf136
  v51 := Tryz.zeroValue136
  t53 := Tryz.underlying37
  a53 := Tryz.isAgg37
  z53 := Tryz.sizeOf37
  v53 := Tryz.zeroValue37
  t70 := Tryz.underlying107
  a70 := Tryz.isAgg107
  z70 := Tryz.sizeOf107
  v70 := Tryz.zeroValue107
  t72 := Tryz.underlying109
  a72 := Tryz.isAgg109
  z72 := Tryz.sizeOf109
  v72 := Tryz.zeroValue109
  t75 := Tryz.underlying111
  a75 := Tryz.isAgg111
  z75 := Tryz.sizeOf111
  v75 := Tryz.zeroValue111
  t76 := Tryz.underlying112
  a76 := Tryz.isAgg112
  z76 := Tryz.sizeOf112
  v76 := Tryz.zeroValue112
  t109 := Tryz.underlying104
  a109 := Tryz.isAgg104
  z109 := Tryz.sizeOf104
  v109 := Tryz.zeroValue104
  t127 := Tryz.underlying141
  a127 := Tryz.isAgg141
  z127 := Tryz.sizeOf141
  v127 := Tryz.zeroValue141
  t146 := Tryz.underlying137
  a146 := Tryz.isAgg137
  z146 := Tryz.sizeOf137
  v146 := Tryz.zeroValue137
  t148 := Tryz.underlying139
  a148 := Tryz.isAgg139
  z148 := Tryz.sizeOf139
  v148 := Tryz.zeroValue139
  t164 := Tryz.underlying161
  a164 := Tryz.isAgg161
  z164 := Tryz.sizeOf161
  v164 := Tryz.zeroValue161 }
theorem Builder_Extra_105 : Builder.Extra Tryz.prog lays105_ren := {
  sizeBuilder := by kernel_rfl
  liesBuilder := by kernel_rfl
  t5 := Tryz.underlying5
  a5 := Tryz.isAgg5
  z5 := Tryz.sizeOf5
  v5 := Tryz.zeroValue5
  infoByte := by kernel_rfl
  cellsByte := by kernel_rfl
  sizeByte := by kernel_rfl
  neB5 := by decide }

/-- Repeat: the text c times, one behind the other. -/
theorem repeat_any (s : ByteArray) (c : Nat) (w : World) (hc : c ≤ 9223372036854775807) (hlen : s.size * c ≤ 140737488355328) :
    Calls Tryz.prog 32 #[.string s, .int .i64 c] w fun e w' => e = .returned (.string ⟨(Lib.repeatL s.data.toList c).toArray⟩) ∧ Below w.heap.size w w' :=
  Any.strings_Repeat lays105 Builder_Extra_105 s c w hc hlen

/-- Trim, of one byte. -/
theorem trim_any (s : ByteArray) (c : UInt8) (hc : c.toNat < 128) (w : World) (hs : s.size ≤ 9223372036854775807) :
    Calls Tryz.prog 79 #[.string s, .string ⟨#[c]⟩] w fun e w' => e = .returned (.string ⟨(Lib.trimB s.data.toList c).toArray⟩) ∧ Below w.heap.size w w' :=
  (Any.strings_Trim_one lays160 s c hc w hs).mono fun e w' ⟨he, hw⟩ => ⟨he, by rcases hw with rfl | rfl; exact Below.refl _ _; exact (Below.refl _ _).drew⟩

end Go.Proofs.YtapebaoajknepaaGreatDoor
/-
  Contracts of the functions of package field that write numbers: isWidth, fits, appendNumber.
-/
namespace Go.Proofs.YtapebaoajknepaaGreatDoor
open Go.RowKit

set_option maxHeartbeats 400000 in
set_option maxRecDepth 8000 in
theorem isWidth_yes (k : Int) (h1 : 1 ≤ k) (h2 : k ≤ 8) (w : World) :
    Calls Tryz.prog 56 #[.int .i64 k] w fun e w' => e = .returned (.bool true) ∧ w = w' := by
  go_enter Tryz.func56, Tryz.ntmps56
  go_wp2
  go_ret
  exact ⟨rfl, rfl⟩

set_option maxHeartbeats 400000 in
set_option maxRecDepth 8000 in
theorem isWidth_no (k : Int) (h : k < 1 ∨ 8 < k) (w : World) :
    Calls Tryz.prog 56 #[.int .i64 k] w fun e w' => e = .returned (.bool false) ∧ w = w' := by
  rcases h with h | h
  · have h1 : ¬ 1 ≤ k := by omega
    go_enter Tryz.func56, Tryz.ntmps56
    go_wp2
    go_ret
    exact ⟨rfl, rfl⟩
  · have h1 : 1 ≤ k := by omega
    have h2 : ¬ k ≤ 8 := by omega
    go_enter Tryz.func56, Tryz.ntmps56
    go_wp2
    go_ret
    exact ⟨rfl, rfl⟩

/-- Is 'n' below 256^k? -/
def fitsB (n : Int) (k : Int) : Bool := decide (n.toNat < 256 ^ k.toNat)

theorem pow2_8 (k : Nat) : (2 : Int) ^ (8 * k) = ((256 ^ k : Nat) : Int) := by
  rw [Int.pow_mul, Int.natCast_pow]
  rfl

theorem fits_eq (n k : Int) (hn : 0 ≤ n) (h1 : 1 ≤ k) : (n / 2 ^ (8 * k).toNat == 0) = fitsB n k := by
  obtain ⟨m, rfl⟩ := Int.eq_ofNat_of_zero_le hn
  obtain ⟨j, rfl⟩ := Int.eq_ofNat_of_zero_le (show 0 ≤ k by omega)
  have e : (8 * (j : Int)).toNat = 8 * j := by omega
  have hp : 0 < 256 ^ j := Nat.pow_pos (by decide)
  rw [e, pow2_8, ← Int.natCast_ediv]
  unfold fitsB
  simp only [Int.toNat_natCast]
  rw [Bool.eq_iff_iff]
  simp only [beq_iff_eq, decide_eq_true_eq]
  rw [show ((m / 256 ^ j : Nat) : Int) = 0 ↔ m / 256 ^ j = 0 from by omega, Nat.div_eq_zero_iff]
  omega

theorem fits_8 (n : Int) (h : n < 18446744073709551616) : fitsB n 8 = true := by
  unfold fitsB
  simp only [decide_eq_true_eq]
  have : (256 : Nat) ^ (8 : Int).toNat = 18446744073709551616 := by decide
  omega

set_option maxHeartbeats 400000 in
set_option maxRecDepth 8000 in
theorem fits_any (n : Int) (k : Int) (hn : 0 ≤ n) (hN : Hid (n < 18446744073709551616)) (h1 : 1 ≤ k) (h2 : k ≤ 8) (w : World) :
    Calls Tryz.prog 57 #[.int .u64 n, .int .i64 k] w fun e w' => e = .returned (.bool (fitsB n k)) ∧ w = w' := by
  by_cases h8 : k = 8
  · subst h8
    go_enter Tryz.func57, Tryz.ntmps57
    go_wp2
    go_ret
    exact ⟨by rw [fits_8 n hN.out]; rfl, rfl⟩
  · have h0 : ((k : Int) == 8) = false := by simpa using h8
    have E := Lib.hid (fits_eq n k hn h1)
    go_enter Tryz.func57, Tryz.ntmps57
    go_wp2
    go_ret
    exact ⟨by rw [← E.out]; rfl, rfl⟩

/-- What appending to a row of the call's own comes to. -/
def Appended (base : Nat) (w : World) (n : Nat) (xs : List Value) (e : Ending) (w' : World) : Prop :=
  ∃ v', e = .returned v' ∧ w'.ownsRow base 5 1 v' n xs ∧ Below base w w'

theorem byte_val (r : Nat) : Value.int .u8 ((r : Int) % 256) = bv (UInt8.ofNat r) := by
  unfold bv
  simp

set_option maxHeartbeats 400000 in
set_option maxRecDepth 8000 in
theorem appendNumber_any (base : Nat) (v : Value) (m : Nat) (xs : List Value) (n k : Int) (hn : 0 ≤ n) (hk0 : 0 ≤ k) (hk8 : k ≤ 8) (w : World)
    (hown : w.ownsRow base 5 1 v m xs) (hb : base ≤ w.heap.size) (hm : m ≤ 100000000) :
    Calls Tryz.prog 58 #[v, .int .u64 n, .int .i64 k] w (Appended base w (m + k.toNat) (xs ++ (numB k.toNat n.toNat).map bv)) := by
  obtain ⟨i0, hi, hz0, hz1, hz2⟩ := info_parts Tryz.info5
  obtain ⟨n, rfl⟩ := Int.eq_ofNat_of_zero_le hn
  obtain ⟨k, rfl⟩ := Int.eq_ofNat_of_zero_le hk0
  simp only [Int.toNat_natCast]
  clear hn hk0
  go_enter Tryz.func58, Tryz.ntmps58
  go_wp2
  go_loopw [0, 1, 8] (fun v t i wr => ∃ j r : Nat, j ≤ k ∧ i = .int .i64 j ∧ t = .int .u64 r ∧ Hid (r = n / 256 ^ j) ∧
      wr.ownsRow base 5 1 v (m + j) (xs ++ (numB j n).map bv) ∧ Below base w wr)
    (fun _ _ i _ => k - (intOf i).toNat)
  case atStart => exact ⟨0, n, by omega, rfl, rfl, by simp [Hid], by simpa [numB] using hown, Below.refl _ _⟩
  case round =>
    clear hown
    obtain ⟨j, r, hj, rfl, rfl, hr, hown, hbl⟩ := hrel
    have hsz := hbl.size
    by_cases hlt : j < k
    · go_wp2_with (at_builtin; refine wpList_append_own _ rfl _ _ 101 rfl base 5 i0 (.int .u8 0) 1 1 Tryz.underlying101 hi hz0 hz1 hz2 rfl (by decide) _ _ _ rfl (hown.alloc _) ⟨wr.heap.size, 0, none⟩ 1 1 [.int .u8 ((r : Int) % 256)] rfl rfl ?c1 ?c2 ?c3 ?c4 ?c5 ?_)
      case c1 =>
        intro q u hq
        match q, hq with
        | 0, hq => simp at hq; subst hq; simp [Addr.add]
      case c2 => intro u hu; simp at hu; subst hu; rfl
      case c3 => unfold maxLen; omega
      case c4 => omega
      case c5 => simp; omega
      · intro v' w1 hown' hgrow _
        have hown2 : w1.ownsRow base 5 1 v' (m + (j + 1)) (xs ++ (numB (j + 1) n).map bv) := by
          rw [numB_snoc, ← hr.out, List.map_append, List.map_singleton, ← byte_val]
          exact hown'
        have hbl2 : Below base w w1 := (hbl.alloc (by omega) _).grown hgrow (by simp; omega) (fun g hg => (hown.lt g hg).1)
        have hr2 : Hid (r / 256 = n / 256 ^ (j + 1)) := by
          unfold Hid; rw [hr.out, Nat.div_div_eq_div_mul, Nat.pow_succ]
        clear hown' hgrow hown hbl
        go_wp2
        go_roundw
        case rel => exact ⟨j + 1, r / 256, by omega, by go_num, by go_num, hr2, hown2, hbl2⟩
        case measure => simp [intOf]; omega
    · go_wp2
      go_ret
      have : j = k := by omega
      subst this
      exact ⟨_, rfl, hown, hbl⟩

/-- Number's answers: the text, and the error. -/
def numS (n k : Int) : ByteArray := if 1 ≤ k ∧ k ≤ 8 ∧ fitsB n k = true then bs (numB k.toNat n.toNat) else bs []
def numE (n k : Int) : Int := if 1 ≤ k ∧ k ≤ 8 ∧ fitsB n k = true then 0 else 1

set_option maxHeartbeats 400000 in
set_option maxRecDepth 8000 in
theorem number_yes (n k : Int) (hn : 0 ≤ n) (hN : Hid (n < 18446744073709551616)) (h1 : 1 ≤ k) (h2 : k ≤ 8) (hf : fitsB n k = true) (w : World) :
    Calls Tryz.prog 31 #[.int .u64 n, .int .i64 k] w fun e w' => e = .returned (.tuple #[.string (bs (numB k.toNat n.toNat)), .int .i64 0]) ∧ Below w.heap.size w w' := by
  go_enter Tryz.func31, Tryz.ntmps31
  go_wp2_with fail
  refine (isWidth_yes k h1 h2 _).mono ?_
  rintro e w' ⟨rfl, rfl⟩
  go_wp2_with fail
  refine (fits_any n k hn hN h1 h2 _).mono ?_
  rintro e w' ⟨rfl, rfl⟩
  go_wp2_with fail
  refine (appendNumber_any w.heap.size _ 0 [] n k hn (by omega) h2 _ (World.ownsRow_nil _ _ _ _) (Nat.le_refl _) (by omega)).mono ?_
  rintro e w1 ⟨v', rfl, hown, hbl⟩
  have hcv := own_string (P := Tryz.prog) (src := 101) (dst := 9) (numB k.toNat n.toNat) Tryz.underlying101 Tryz.underlying5 Tryz.underlying9 hown
  go_wp2
  go_ret2
  exact ⟨rfl, hbl⟩

set_option maxHeartbeats 400000 in
set_option maxRecDepth 8000 in
theorem number_no (n k : Int) (hn : 0 ≤ n) (hN : Hid (n < 18446744073709551616)) (h : Hid ((k < 1 ∨ 8 < k) ∨ (1 ≤ k ∧ k ≤ 8 ∧ fitsB n k = false))) (w : World) :
    Calls Tryz.prog 31 #[.int .u64 n, .int .i64 k] w fun e w' => e = .returned (.tuple #[.string (bs []), .int .i64 1]) ∧ w = w' := by
  rcases h.out with h | ⟨h1, h2, hf⟩
  · go_enter Tryz.func31, Tryz.ntmps31
    go_wp2_with fail
    refine (isWidth_no k h _).mono ?_
    rintro e w' ⟨rfl, rfl⟩
    go_wp2
    go_ret2
    exact ⟨rfl, rfl⟩
  · go_enter Tryz.func31, Tryz.ntmps31
    go_wp2_with fail
    refine (isWidth_yes k h1 h2 _).mono ?_
    rintro e w' ⟨rfl, rfl⟩
    go_wp2_with fail
    refine (fits_any n k hn hN h1 h2 _).mono ?_
    rintro e w' ⟨rfl, rfl⟩
    go_wp2
    go_ret2
    exact ⟨rfl, rfl⟩

theorem number_any (n k : Int) (hn : 0 ≤ n) (hN : Hid (n < 18446744073709551616)) (w : World) :
    Calls Tryz.prog 31 #[.int .u64 n, .int .i64 k] w fun e w' => e = .returned (.tuple #[.string (numS n k), .int .i64 (numE n k)]) ∧ Below w.heap.size w w' := by
  by_cases h : 1 ≤ k ∧ k ≤ 8 ∧ fitsB n k = true
  · unfold numS numE
    rw [if_pos h, if_pos h]
    exact number_yes n k hn hN h.1 h.2.1 h.2.2 w
  · unfold numS numE
    rw [if_neg h, if_neg h]
    refine (number_no n k hn hN ?_ w).mono ?_
    · unfold Hid
      by_cases h1 : 1 ≤ k
      · by_cases h2 : k ≤ 8
        · refine .inr ⟨h1, h2, ?_⟩
          cases hf : fitsB n k
          · rfl
          · exact absurd ⟨h1, h2, hf⟩ h
        · exact .inl (.inr (by omega))
      · exact .inl (.inl (by omega))
    · rintro e w' ⟨rfl, rfl⟩
      exact ⟨rfl, Below.refl _ _⟩

/-- What the document's Number comes to, once its width is one. -/
theorem refFits (n k : Nat) : fitsB (n : Int) (k : Int) = decide (n / 256 ^ k = 0) := by
  unfold fitsB
  simp only [Int.toNat_natCast]
  have hp : 0 < 256 ^ k := Nat.pow_pos (by decide)
  rw [decide_eq_decide, Nat.div_eq_zero_iff]
  omega

theorem u64_q (r : Nat) (h : Hid (r < 18446744073709551616)) : Value.int .u64 (IntKind.u64.wrap ((r : Int) / 256)) = .int .u64 ((r / 256 : Nat) : Int) := by
  have := h.out
  rw [IntWalk.u64_in _ (by omega)]
  rfl

/-- Number's end. -/
def NumEnd (n k : Nat) (w : World) (e : Ending) (w' : World) : Prop := e = .returned (.tuple #[.string (numS n k), .int .i64 (numE n k)]) ∧ Below w.heap.size w w'

end Go.Proofs.YtapebaoajknepaaGreatDoor
/-
  Bytes taken one by one from the beginning of a text (takeByte), and what goes with it.
-/
namespace Go.Proofs.YtapebaoajknepaaGreatDoor
open Go.RowKit

theorem ba_ext {a b : ByteArray} (h : a.data.toList = b.data.toList) : a = b := by
  cases a; cases b; simp at h; subst h; rfl

theorem ba_size (s : ByteArray) : s.data.toList.length = s.size := by simp

theorem ba_drop (s : ByteArray) (k : Nat) : (s.extract k s.size).data.toList = s.data.toList.drop k := by
  rw [Lib.extract_data]
  exact List.take_of_length_le (by rw [List.length_drop, ba_size]; exact Nat.le_refl _)

theorem ba_cons_rest {s r : ByteArray} {b : UInt8} (h : s.data.toList = b :: r.data.toList) : s.extract 1 s.size = r := by
  apply ba_ext
  rw [ba_drop, h]
  rfl

theorem ba_cons_pos {s r : ByteArray} {b : UInt8} (h : s.data.toList = b :: r.data.toList) : 0 < s.size := by
  rw [← ba_size, h]; simp

theorem ba_cons_head {s r : ByteArray} {b : UInt8} (h : s.data.toList = b :: r.data.toList) (h0 : 0 < s.size) : s[0] = b := by
  have : s.data.toList[0]? = some b := by rw [h]; rfl
  rw [List.getElem?_eq_some_iff] at this
  obtain ⟨h1, h2⟩ := this
  rw [← h2]
  rfl

set_option maxHeartbeats 400000 in
set_option maxRecDepth 8000 in
theorem takeByte_yes (s r : ByteArray) (b : UInt8) (h : Hid (s.data.toList = b :: r.data.toList)) (w : World) :
    Calls Tryz.prog 93 #[.string s] w fun e w' => e = .returned (.tuple #[.int .u8 (b.toNat : Int), .string r, .int .i64 0]) ∧ ∃ n, w' = w.drewN n := by
  have hp := ba_cons_pos h.out
  have h0 : ((s.size : Int) == 0) = false := beq_eq_false_iff_ne.2 (by omega)
  have h1 : (0 : Int) < s.size := by omega
  have h2 : (1 : Int) ≤ s.size := by omega
  have E1 := Lib.hid (ba_cons_rest h.out)
  have E2 := Lib.hid (ba_cons_head h.out hp)
  go_enter Tryz.func93, Tryz.ntmps93
  go_wp2
  go_quiet (fail)
  go_wp2
  go_ret3
  exact ⟨by rw [← E1.out, ← E2.out]; rfl, _, rfl⟩

set_option maxHeartbeats 400000 in
set_option maxRecDepth 8000 in
theorem takeByte_no (s : ByteArray) (h : s.size = 0) (w : World) :
    Calls Tryz.prog 93 #[.string s] w fun e w' => e = .returned (.tuple #[.int .u8 0, .string (bs []), .int .i64 10]) ∧ w = w' := by
  have h0 : ((s.size : Int) == 0) = true := beq_iff_eq.2 (by omega)
  go_enter Tryz.func93, Tryz.ntmps93
  go_wp2
  go_ret3
  exact ⟨rfl, rfl⟩

theorem list_more {α : Type} {L tk rest : List α} {j k : Nat} (h : L = tk ++ rest) (hj : tk.length = j) (hk : j < k) (hL : k ≤ L.length) : ∃ b r, rest = b :: r := by
  cases rest with
  | nil => simp at h; subst h; omega
  | cons b r => exact ⟨b, r, rfl⟩

theorem list_end {α : Type} {L tk rest : List α} {j : Nat} (h : L = tk ++ rest) (hj : tk.length = j) : tk = L.take j ∧ rest = L.drop j := by
  subst hj; subst h; simp

/-- What takeEach leaves where bytes are missed. -/
def EachShort (base : Nat) (w : World) (e : Ending) (w' : World) : Prop :=
  e = .returned (.tuple #[.string (bs []), .int .i64 10]) ∧ Below base w w'

theorem heap_new2 (w : World) (o1 o2 : Obj) : ((w.alloc o1).alloc o2).heap[w.heap.size + 1]? = some o2 := by
  have h := heap_alloc_new (w.alloc o1) o2
  rwa [World.size_alloc] at h

theorem bs_app (a : List UInt8) (s : ByteArray) : bs a ++ s = bs (a ++ s.data.toList) := by
  apply ba_ext
  simp [bs]

theorem ba_take (s : ByteArray) (k : Nat) : (s.extract 0 k).data.toList = s.data.toList.take k := by
  rw [Lib.extract_data]; simp

end Go.Proofs.YtapebaoajknepaaGreatDoor
