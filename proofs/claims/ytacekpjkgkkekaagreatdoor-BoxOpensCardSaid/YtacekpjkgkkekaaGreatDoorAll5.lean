/-
  Texts 5 of 6, merged.
-/
import Derived.Test.YtacekpjkgkkekaaGreatDoorAll4
import Derived.Laws.BitsAllLaws
import Derived.Laws.MakeOwn
import Derived.Laws.AppendOwnNone
import Derived.Deep.AppendLies
/-
  Contract: Sum.
-/
namespace Go.Proofs.YtacekpjkgkkekaaGreatDoor
open Go.RowKit

/-- The first j texts of a list, one behind the other. -/
def joinTo (ss : List ByteArray) (j : Nat) : List UInt8 := ((ss.take j).map fun s => s.data.toList).flatten

theorem joinTo_succ (ss : List ByteArray) (j : Nat) (h : j < ss.length) : joinTo ss (j + 1) = joinTo ss j ++ ss[j].data.toList := by
  unfold joinTo
  rw [List.take_succ_eq_append_getElem h, List.map_append, List.flatten_append]
  simp only [List.map_cons, List.map_nil, List.flatten_cons, List.flatten_nil, List.append_nil]

theorem joinTo_le (ss : List ByteArray) (j : Nat) : (joinTo ss j).length ≤ (joinTo ss ss.length).length := by
  unfold joinTo
  rw [List.take_length]
  conv => rhs; rw [← List.take_append_drop j ss]
  rw [List.map_append, List.flatten_append, List.length_append]
  omega

theorem fed_nil (blk : Nat → Nat) : Fed [] blk := fun j hj => by simp at hj

theorem zero_bytes : Bytes zeroN := fun _ => by unfold zeroN; decide

set_option maxHeartbeats 1000000 in
set_option maxRecDepth 8000 in
theorem sum_any (a : Option Addr) (c : Nat) (ss : List ByteArray) (hl : ss.length ≤ 100000) (hz : Hid ((joinTo ss ss.length).length ≤ 1000000)) (w : World) (hk : Hid (KRow w)) (hs : Hid (Sees w a ss)) :
    Calls Tryz.prog 35 #[.slice a ss.length c] w fun e w' => e = .returned (.agg (rowOf 32 (w8 (sumN (joinTo ss ss.length))))) ∧ Below w.heap.size w w' := by
  go_enter Tryz.func35, Tryz.ntmps35
  go_wp2_with fail
  rw [← z8_32]
  have r0 : Hid (RowAt (w.alloc (.cells (rowOf 32 (w8 zeroN)) 43)) w.heap.size 43 (rowOf 32 (w8 zeroN))) := RowAt.new _ _ _
  have b0 : Below w.heap.size w (w.alloc (.cells (rowOf 32 (w8 zeroN)) 43)) := (Below.refl _ _).alloc (Nat.le_refl _) _
  generalize w.alloc (.cells (rowOf 32 (w8 zeroN)) 43) = w0 at *
  refine (firstWords_any w0).mono ?_
  rintro e w1 ⟨rfl, hb1⟩
  replace r0 : Hid (RowAt w1 w.heap.size 43 (rowOf 32 (w8 zeroN))) := r0.out.below hb1 r0.out.lt
  replace b0 : Below w.heap.size w w1 := b0.trans (hb1.mono b0.size)
  clear hb1
  go_wp2_with (refine wpList_store_row rfl 74 _ _ rfl w1.heap.size (rowOf 8 (w32 firstN)) rfl rfl 74 _ (RowAt.new _ _ _) (info_w8 _) (by rw [rowOf_size]; rfl) (rowOf_cells32 _ _) ?_; rw [World.setRow_alloc_new])
  rw [← z8_64]
  obtain ⟨os, hos⟩ : ∃ os : List Obj, os = [.cells (rowOf 8 (w32 firstN)) 74, .cells (rowOf 64 (w8 zeroN)) 59, .cells #[.int .i64 0] 3] := ⟨_, rfl⟩
  obtain ⟨w2, hw2⟩ : ∃ w2, os.foldl World.alloc w1 = w2 := ⟨_, rfl⟩
  have hS : Hid (SumAt w2 (w1.heap.size + 1) (w1.heap.size + 1 + 1) w1.heap.size (joinTo ss 0)) := by
    rw [← hw2, show joinTo ss 0 = [] by simp [joinTo]]
    exact ⟨zeroN, zero_bytes, fed_nil _, allocs_row os w1 1 _ _ (by rw [hos]; rfl), allocs_row os w1 2 _ _ (by rw [hos]; rfl), allocs_row os w1 0 _ _ (by rw [hos]; rfl)⟩
  have b2 : Below w1.heap.size w1 w2 := by rw [← hw2]; exact allocs_below os w1
  rw [hos] at hw2
  simp only [List.foldl_cons, List.foldl_nil] at hw2
  rw [hw2]
  clear hw2 hos os
  have q1 : w.heap.size < w1.heap.size := r0.out.lt
  have hsB : Hid (∀ wr, Below w1.heap.size w1 wr → Sees wr a ss) := fun wr hb => (hs.out.below b0 (Nat.le_refl _)).below hb (Nat.le_refl _)
  obtain ⟨p, hp⟩ : ∃ p, w1.heap.size = p := ⟨_, rfl⟩
  rw [hp] at hS b2 q1 hsB
  rw [hp]
  clear hp
  have hk1 := Lib.hid (hk.out.below b0 hk.out.1 b0.size)
  have p0 : 0 < p := by omega
  clear hk hs
  go_loopw [7, 14] (fun t i wr => ∃ j T : Nat, j ≤ ss.length ∧ i = .int .i64 j ∧ t = .int .i64 T ∧ Hid (T = (joinTo ss j).length) ∧ T ≤ 1000000 ∧ Hid (SumAt wr (p + 1) (p + 1 + 1) p (joinTo ss j)) ∧ Below p w1 wr)
    (fun _ i _ => ss.length - (intOf i).toNat)
  case atStart => exact ⟨0, 0, by omega, rfl, rfl, rfl, by omega, hS, b2⟩
  case round =>
    clear hS b2
    obtain ⟨j, T, hj, rfl, rfl, hT, lT, hS, hbl⟩ := hrel
    by_cases hlt : j < ss.length
    · obtain ⟨ad, ha, hadb, hcell⟩ := (hsB.out wr hbl) j hlt
      subst ha
      obtain ⟨s, hse⟩ : ∃ s, s = ss[j] := ⟨_, rfl⟩
      rw [← hse] at hcell
      have HS : Hid (joinTo ss (j + 1) = joinTo ss j ++ s.data.toList) := by rw [hse]; exact joinTo_succ ss j hlt
      have hle := joinTo_le ss (j + 1)
      have hTs : Hid (T + s.size = (joinTo ss (j + 1)).length) := by
        unfold Hid
        rw [HS.out, List.length_append, hT.out]
        simp
      have lT2 : T + s.size ≤ 1000000 := by rw [hTs.out]; exact Nat.le_trans hle hz.out
      clear hse hle
      go_wp2_with fail
      refine (add_any p (p + 1) (p + 1 + 1) p (joinTo ss j) s (by omega) _ (hk1.out.below hbl p0 hbl.size) hS p0 (by omega) (by omega) (Nat.le_refl _) (by omega) (by omega) (by omega)).mono ?_
      rintro e w3 ⟨rfl, hS3, hb3⟩
      rw [← HS.out] at hS3
      have hb4 := hbl.trans hb3
      clear hb3 hS hbl hcell
      go_wp2
      go_roundw
      case rel => exact ⟨j + 1, T + s.size, by omega, by go_num, by go_num, hTs, lT2, hS3, hb4⟩
      case measure => simp [intOf]; omega
    · have : j = ss.length := by omega
      subst this
      obtain ⟨X, hX⟩ : ∃ X, joinTo ss ss.length = X := ⟨_, rfl⟩
      rw [hX] at hT hS
      replace hX := Lib.hid hX
      have HF : Hid (fillL T = fillL X.length) := by rw [hT.out]; rfl
      have FL : Hid ((bs (fillL T)).size ≤ 100) := by
        unfold Hid
        show (fillL T).toArray.size ≤ 100
        rw [List.size_toArray, fillL_length]
        unfold fillZ
        omega
      clear hsB
      go_wp2_with fail
      refine (fill_any T lT _).mono ?_
      rintro e w3 ⟨rfl, hb3⟩
      have hsz3 := hb3.size
      obtain ⟨_, _, _, u1, u2, u3⟩ := hS.out
      have hS3 : Hid (SumAt w3 (p + 1) (p + 1 + 1) p X) := hS.out.below hb3 u1.lt u2.lt u3.lt
      have hpw : p ≤ wr.heap.size := Nat.le_of_lt u3.lt
      have hbl3 : Below p w1 w3 := hbl.trans (hb3.mono hpw)
      clear u1 u2 u3 hS hbl hb3 hsz3
      go_wp2_with fail
      refine (add_any p (p + 1) (p + 1 + 1) p X (bs (fillL T)) (by have := FL.out; omega) _ (hk1.out.below hbl3 p0 hbl3.size) hS3 p0 (by omega) (by omega) (Nat.le_refl _) (by omega) (by omega) (by omega)).mono ?_
      rintro e w4 ⟨rfl, hS4, hb4⟩
      have e4 : X ++ (bs (fillL T)).data.toList = X ++ fillL X.length := by rw [← HF.out]; rfl
      rw [e4] at hS4
      obtain ⟨_, _, _, _, _, rh⟩ := hS4.out
      have RH := Lib.hid rh
      have hb5 : Below p w1 w4 := hbl3.trans hb4
      have hw4 := Lib.hid (foldN_words (X ++ fillL X.length) ((X ++ fillL X.length).length / 64))
      have E : Hid (hashN (foldN (X ++ fillL X.length) ((X ++ fillL X.length).length / 64)) = sumN X) := rfl
      generalize foldN (X ++ fillL X.length) ((X ++ fillL X.length).length / 64) = y at *
      clear rh hS4 hS3 hb4 hbl3
      go_wp2_with (refine wpList_load_row rfl 74 _ rfl p rfl 74 _ (0, 0) _ RH.out Tryz.underlying74 rfl (info_w8 _) ?_)
      refine (hashOf_any y hw4 _).mono ?_
      rintro e w5 ⟨rfl, hb6⟩
      rw [E.out]
      have hq : Hid (RowAt w5 w.heap.size 43 (rowOf 32 (w8 zeroN))) := (r0.out.below hb5 q1).below hb6 (r0.out.below hb5 q1).lt
      have hb7 : Below w.heap.size w w5 := b0.trans ((hb5.mono (by omega)).trans (hb6.mono (by have := hb5.size; have := b0.size; omega)))
      go_wp2_with (refine wpList_store_row rfl 43 _ _ rfl w.heap.size (rowOf 32 (w8 (sumN X))) rfl rfl 43 _ hq.out (info_hash _) (by rw [rowOf_size, rowOf_size]) (rowOf_cells8 _ _) ?_)
      refine bodyPost_ret (v := .agg (rowOf 32 (w8 (sumN X)))) ?_ rfl ⟨by rw [hX.out], below_setRow' hb7 (Nat.le_refl _) _⟩
      exact results_cell_row Tryz.results35 _ _ w.heap.size 43 (rowOf 32 (w8 (sumN X))) (0, 0) _ rfl (hq.out.setRow _) Tryz.underlying43 rfl (info_hash _)

end Go.Proofs.YtacekpjkgkkekaaGreatDoor
/-
  Contract: the document's Sum.
-/
namespace Go.Proofs.YtacekpjkgkkekaaGreatDoor
open Go.RowKit

theorem row_second (w : World) (o : Obj) (t : TypeId) (cs : Array Value) : RowAt ((w.alloc o).alloc (.cells cs t (0, 0))) (w.heap.size + 1) t cs := by
  have h := RowAt.new (w.alloc o) t cs
  rw [World.size_alloc] at h
  exact h

theorem two_rows (w : World) (c1 c2 ds : Array Value) (t1 t2 : TypeId) :
    RowAt (((w.alloc (.cells c1 t1)).alloc (.cells c2 t2)).setRow (w.heap.size + 1) ds) w.heap.size t1 c1 ∧
    RowAt (((w.alloc (.cells c1 t1)).alloc (.cells c2 t2)).setRow (w.heap.size + 1) ds) (w.heap.size + 1) t2 ds ∧
    Below w.heap.size w (((w.alloc (.cells c1 t1)).alloc (.cells c2 t2)).setRow (w.heap.size + 1) ds) :=
  ⟨((RowAt.new _ _ _).alloc _).setRowOther _ _ (by omega), (row_second w _ _ _).setRow _, below_setRow' (((Below.refl _ _).alloc (Nat.le_refl _) _).alloc (by simp) _) (by omega) _⟩

theorem bs_append (a b : ByteArray) : (a ++ b).data.toList = a.data.toList ++ b.data.toList := by simp

theorem foldN_cut (T : List UInt8) (k : Nat) : stepN (foldN T k) (byteL ((T.drop (64 * k)).take 64)) = foldN T (k + 1) := by
  show _ = stepN (foldN T k) _
  exact stepN_congr _ fun j hj => by rw [byteL_take _ _ _ hj, byteL_drop]

set_option maxHeartbeats 1000000 in
set_option maxRecDepth 8000 in
theorem refSum_any (s : ByteArray) (hm : s.size ≤ 100000) (w : World) :
    Calls Tryz.prog 39 #[.string s] w fun e w' => e = .returned (.agg (rowOf 32 (w8 (sumN s.data.toList)))) ∧ Below w.heap.size w w' := by
  have hS : s.data.toList.length = s.size := by simp
  have E : Hid (sumN s.data.toList = hashN (foldN (s.data.toList ++ fillL s.size) ((s.data.toList ++ fillL s.size).length / 64))) := by unfold Hid sumN; rw [hS]
  obtain ⟨A, hA⟩ : ∃ A, s.data.toList ++ fillL s.size = A := ⟨_, rfl⟩
  have hA64 : A.length % 64 = 0 := by rw [← hA, ← hS]; exact full_length _
  have hAl : A.length ≤ 200000 := by
    rw [← hA, List.length_append, fillL_length, hS]
    unfold fillZ
    omega
  rw [hA] at E
  have HA := Lib.hid hA
  obtain ⟨m, hm2⟩ : ∃ m, A.length / 64 = m := ⟨_, rfl⟩
  have hAm : A.length = 64 * m := by omega
  rw [hm2] at E
  clear hA hm2 hA64 hS
  go_enter Tryz.func39, Tryz.ntmps39
  go_wp2_with (refine wpList_store_row rfl 85 _ _ rfl (w.heap.size + 1) (rowOf 8 (w64 firstN)) rfl rfl 85 _ (row_second w _ _ _) (info_d8 _) (by rw [rowOf_size]; rfl) (rowOf_cells64 _ _) ?_; rw [← z64_8, ← z8_32, ← first_row64]; have tr := Lib.hid (two_rows w (rowOf 32 (w8 zeroN)) (rowOf 8 (w64 zeroN)) (rowOf 8 (w64 firstN)) 43 85); generalize World.setRow _ _ _ = w1 at *)
  have r0 := Lib.hid tr.out.1
  have r1 := Lib.hid tr.out.2.1
  have b0 := tr.out.2.2
  clear tr
  refine (refFill_any s.size (by omega) _).mono ?_
  rintro e w2 ⟨rfl, hb2⟩
  replace r0 : Hid (RowAt w2 w.heap.size 43 (rowOf 32 (w8 zeroN))) := r0.out.below hb2 r0.out.lt
  replace r1 : Hid (RowAt w2 (w.heap.size + 1) 85 (rowOf 8 (w64 firstN))) := r1.out.below hb2 r1.out.lt
  replace b0 : Below w.heap.size w w2 := b0.trans (hb2.mono b0.size)
  have sA : Hid ((s ++ bs (fillL s.size)).data.toList = A) := by unfold Hid; rw [bs_append]; exact HA.out
  have zA : (s ++ bs (fillL s.size)).size = 64 * m := by
    rw [← hAm, ← sA.out]
    simp
  have fz : (bs (fillL s.size)).size ≤ 100 := by
    show (fillL s.size).toArray.size ≤ 100
    rw [List.size_toArray, fillL_length]
    unfold fillZ
    omega
  have ns : ¬ 9223372036854775807 < s.size + (bs (fillL s.size)).size := by omega
  clear hb2
  go_wp2
  obtain ⟨q, hq⟩ : ∃ q, w.heap.size + 1 = q := ⟨_, rfl⟩
  rw [hq] at r1
  rw [hq]
  have hq1 : w.heap.size + 1 ≤ q := by omega
  clear hq fz ns
  go_loopw [0] (fun t wr => ∃ (k : Nat) (r : ByteArray), t = .string r ∧ k ≤ m ∧ r.size = 64 * (m - k) ∧ Hid (r.data.toList = A.drop (64 * k)) ∧ Hid (RowAt wr q 85 (rowOf 8 (w64 (foldN A k)))) ∧ Below q w2 wr)
    (fun t _ => match t with | .string r => r.size | _ => 0)
  case atStart => exact ⟨0, _, rfl, by omega, zA, by rw [sA.out]; rfl, r1, Below.refl _ _⟩
  case round =>
    clear r1 sA zA
    obtain ⟨k, r, rfl, hkm, hrz, hr, hv, hbl⟩ := hrel
    by_cases hlt : k < m
    · have rg : (0 : Int) < (r.size : Int) := by omega
      have r64 : (64 : Int) ≤ (r.size : Int) := by omega
      have r64n : 64 ≤ r.size := by omega
      have hW := Lib.hid (foldN_words A k)
      have hcz : (r.extract 0 64).size = 64 := by rw [ByteArray.size_extract]; omega
      have hct : Hid (byteL (r.extract 0 64).data.toList = byteL ((A.drop (64 * k)).take 64)) := by unfold Hid; rw [bytes_take, hr.out]
      have hst : Hid (stepN (foldN A k) (byteL (r.extract 0 64).data.toList) = foldN A (k + 1)) := by unfold Hid; rw [hct.out, foldN_cut]
      have hr2 : Hid ((r.extract 64 r.size).data.toList = A.drop (64 * (k + 1))) := by unfold Hid; rw [bytes_drop, hr.out, List.drop_drop]; congr 1
      have hz2 : (r.extract 64 r.size).size = 64 * (m - (k + 1)) := by rw [ByteArray.size_extract]; omega
      have HZ := Lib.hid hz2
      have HCZ := Lib.hid hcz
      have HRZ := Lib.hid hrz
      clear hz2 hcz hrz hct
      go_wp2
      refine wp_region_still_tail 3 (by kernel_rfl) (by kernel_rfl) ?_
      change wpStill _ _ wr.drew (fun a' => wpList _ _ _ _ a' wr.drew) _ _
      replace hv : Hid (RowAt wr.drew q 85 (rowOf 8 (w64 (foldN A k)))) := hv
      replace hbl : Below q w2 wr.drew := hbl.drew
      generalize wr.drew = w5 at *
      simp only [List.take_succ_cons, List.take_zero, List.drop_succ_cons, List.drop_zero]
      refine wpStill_load_row rfl 85 _ rfl q rfl 85 _ (0, 0) _ hv.out Tryz.underlying85 rfl (info_d8 _) ?_
      refine wpStill_of_quiet _ _ ?_
      simp only [Act.put, List.setIfInBounds_toArray, List.set_cons_succ, List.set_cons_zero]
      repeat (first | go_big_quiet_skip | (go_big_quiet_want; go_big_quiet_op; go_big_quiet_on))
      refine wpQuiet_nil ?_
      go_wp2_with fail
      refine (refStep_yes _ hW (r.extract 0 64) HCZ.out _).mono ?_
      rintro e w6 ⟨rfl, hb6⟩
      rw [hst.out]
      obtain ⟨y2, hy2⟩ : ∃ y2, foldN A (k + 1) = y2 := ⟨_, rfl⟩
      rw [hy2]
      have HY2 := Lib.hid hy2
      clear hy2
      have hv6 : Hid (RowAt w6 q 85 (rowOf 8 (w64 (foldN A k)))) := hv.out.below hb6 hv.out.lt
      have hbl6 : Below q w2 w6 := hbl.trans (hb6.mono (Nat.le_of_lt hv.out.lt))
      have hv7 := Lib.hid (hv6.out.setRow (rowOf 8 (w64 y2)))
      have hbl7 := below_setRow' hbl6 (Nat.le_refl q) (rowOf 8 (w64 y2))
      clear hb6 hv hbl hbl6 hW hst hr
      go_wp2_with (refine wpList_store_row rfl 85 _ _ rfl q (rowOf 8 (w64 y2)) rfl rfl 85 _ hv6.out (info_d8 _) (by rw [rowOf_size, rowOf_size]) (rowOf_cells64 _ _) ?_; clear hv6; generalize World.setRow _ _ _ = w7 at *)
      go_roundw
      case rel => exact ⟨k + 1, _, rfl, by omega, HZ.out, hr2, by rw [HY2.out]; exact hv7, hbl7⟩
      case measure =>
        show (r.extract 64 r.size).size < r.size
        rw [ByteArray.size_extract]
        omega
    · have : k = m := by omega
      subst this
      have rg : ¬ (0 : Int) < (r.size : Int) := by omega
      have rg0 : decide (0 < r.size) = false := decide_eq_false (by omega)
      have hY := Lib.hid (foldN_words A k)
      obtain ⟨y, hy⟩ : ∃ y, foldN A k = y := ⟨_, rfl⟩
      rw [hy] at hv hY E
      clear hy hr hAm hAl hkm HA
      have q2 : q < wr.heap.size := hv.out.lt
      have hHr : Hid (RowAt wr w.heap.size 43 (rowOf 32 (w8 zeroN))) := r0.out.below hbl (by omega)
      have b3 : Below w.heap.size w wr := b0.trans (hbl.mono (by omega))
      clear r0 b0 hbl
      go_wp2_with (refine wpList_store_row rfl 43 _ _ rfl wr.heap.size (rowOf 32 (w8 zeroN)) rfl rfl 43 _ (RowAt.new _ _ _) (info_hash _) (by rw [rowOf_size]; rfl) (rowOf_cells8 _ _) ?_; rw [World.setRow_alloc_new, ← z8_32])
      have r9 : Hid (RowAt (wr.alloc (.cells (rowOf 32 (w8 zeroN)) 43)) wr.heap.size 43 (rowOf 32 (w8 (part (hashN y) zeroN (4 * 0))))) := by rw [part_zero]; exact RowAt.new _ _ _
      replace hv := Lib.hid (hv.out.alloc (.cells (rowOf 32 (w8 zeroN)) 43))
      replace hHr := Lib.hid (hHr.out.alloc (.cells (rowOf 32 (w8 zeroN)) 43))
      replace b3 := b3.alloc b3.size (.cells (rowOf 32 (w8 zeroN)) 43)
      generalize wr.alloc (.cells (rowOf 32 (w8 zeroN)) 43) = w3 at *
      generalize wr.heap.size = p at *
      clear rg rg0
      go_loopw [5] (fun i wr => ∃ j : Nat, j ≤ 8 ∧ i = .int .i64 j ∧ Hid (RowAt wr p 43 (rowOf 32 (w8 (part (hashN y) zeroN (4 * j))))) ∧ Below p w3 wr)
        (fun i _ => 8 - (intOf i).toNat)
      case atStart => exact ⟨0, by omega, rfl, r9, Below.refl _ _⟩
      case round =>
        clear r9
        obtain ⟨i, hi, rfl, hr, hbl⟩ := hrel
        by_cases hlt : i < 8
        · have hr0 : Hid (RowAt wr p 43 (rowOf 32 (w8 (part (hashN y) zeroN (4 * i + 0))))) := hr
          clear hr
          have hd : decide ((i : Int) < 8) = true := decide_eq_true (by omega)
          go_wp2
          go_loopw [6] (fun t wr => ∃ j : Nat, j ≤ 4 ∧ t = .int .i64 j ∧ Hid (RowAt wr p 43 (rowOf 32 (w8 (part (hashN y) zeroN (4 * i + j))))) ∧ Below p w3 wr)
            (fun t _ => 4 - (intOf t).toNat)
          case atStart => exact ⟨0, by omega, rfl, hr0, hbl⟩
          case round =>
            clear hr0 hbl
            obtain ⟨j, hj, rfl, hr, hbl⟩ := hrel
            by_cases hlt2 : j < 4
            · have cy := (hv.out.below hbl q2).cell i hlt
              unfold w64 at cy
              have ly := hY.out i
              obtain ⟨k4, hk4⟩ : ∃ k4, 4 * i + j = k4 := ⟨_, rfl⟩
              have e4 : 4 * (i : Int) + (j : Int) = (k4 : Int) := by omega
              obtain ⟨c, hc⟩ : ∃ c, 24 - 8 * j = c := ⟨_, rfl⟩
              have ec : (24 : Int) - 8 * (j : Int) = (c : Int) := by omega
              have lk : k4 < 32 := by omega
              rw [hk4] at hr
              have c4 := hr.out.cell k4 lk
              have f4 := hr.out.free k4
              have R := Lib.hid (fun w => right_any (y i) c (by omega) (by omega) w)
              have hx : y i / 2 ^ c ≤ y i := Nat.div_le_self _ _
              have EX : Hid (((y i / 2 ^ c : Nat) : Int) % 256 = ((hashN y k4 : Nat) : Int)) := by
                unfold Hid hashN
                rw [← hk4, ← hc, show (4 * i + j) / 4 = i by omega, show (4 * i + j) % 4 = j by omega]
                simp
              have e3 : Hid ((rowOf 32 (w8 (part (hashN y) zeroN k4))).setIfInBounds k4 (.int .u8 ((hashN y k4 : Nat) : Int)) = rowOf 32 (w8 (part (hashN y) zeroN (4 * i + (j + 1))))) := by
                unfold Hid
                rw [rowOf_upd8, part_upd, ← hk4, Nat.add_assoc]
              have hP := Lib.hid q2
              clear hc hk4
              go_wp2_with fail
              refine (R.out _).mono ?_
              rintro e w5 ⟨rfl, rfl⟩
              generalize y i / 2 ^ c = x at *
              clear R
              go_wp2
              go_roundw
              case rel => exact ⟨j + 1, by omega, by go_num, by rw [EX.out]; exact (hr.out.set k4 _).congr e3.out, hbl.setCell (Nat.le_refl _) _⟩
              case measure => simp [intOf]; omega
            · have : j = 4 := by omega
              subst this
              have hr4 : Hid (RowAt wr p 43 (rowOf 32 (w8 (part (hashN y) zeroN (4 * (i + 1)))))) := hr
              clear hr
              go_wp2
              go_roundw
              case rel => exact ⟨i + 1, by omega, by go_num, hr4, hbl⟩
              case measure => simp [intOf]; omega
        · have : i = 8 := by omega
          subst this
          have hr2 : Hid (RowAt wr p 43 (rowOf 32 (w8 (hashN y)))) := hr.out.congr (rowOf_congr fun k hk => by unfold w8; rw [part_below _ _ _ _ (by omega)])
          have hq : Hid (RowAt wr w.heap.size 43 (rowOf 32 (w8 zeroN))) := hHr.out.below hbl (by omega)
          clear hr
          generalize hashN y = z at *
          go_wp2_with (first | (refine wpList_load_row rfl 43 _ rfl p rfl 43 _ (0, 0) _ hr2.out Tryz.underlying43 rfl (info_hash _) ?_) | (refine wpList_store_row rfl 43 _ _ rfl w.heap.size (rowOf 32 (w8 z)) rfl rfl 43 _ hq.out (info_hash _) (by rw [rowOf_size, rowOf_size]) (rowOf_cells8 _ _) ?_))
          refine bodyPost_ret (v := .agg (rowOf 32 (w8 z))) ?_ rfl ⟨by rw [E.out], below_setRow' (b3.trans (hbl.mono (by omega))) (Nat.le_refl _) _⟩
          exact results_cell_row Tryz.results39 _ _ w.heap.size 43 (rowOf 32 (w8 z)) (0, 0) _ rfl (hq.out.setRow _) Tryz.underlying43 rfl (info_hash _)

end Go.Proofs.YtacekpjkgkkekaaGreatDoor
/-
  Sum of one text; arrays of numbers, held against each other.
-/
namespace Go.Proofs.YtacekpjkgkkekaaGreatDoor
open Go.RowKit

/-- A block of texts, as a slice. -/
theorem sees_row {w : World} {p : Nat} {ss : List ByteArray} (h : RowAt w p 9 (ss.map Value.string).toArray) : Sees w (some ⟨p, 0, none⟩) ss := by
  intro j hj
  refine ⟨⟨p, 0, none⟩, rfl, h.lt, ?_⟩
  have ha : (⟨p, 0, none⟩ : Addr).add j = ⟨p, j, none⟩ := by unfold Addr.add; split <;> simp_all
  rw [ha, cell_of_row w p j _ _ _ h]
  simp [List.getElem?_eq_getElem hj]

theorem Tryz.info29 : (Tryz.prog.info? 73).map (fun i => (i.zero, i.size, i.bytes)) = some (some (.int .u32 0), 1, 4) := by kernel_rfl

theorem elem32 : ∃ i, Tryz.prog.info? 73 = some i := by
  obtain ⟨i0, hi, _⟩ := info_parts Tryz.info29
  exact ⟨i0, hi⟩

theorem eq_hash (f g : Nat → Nat) (w : World) : (Op.equalIn 10000 43 (.agg (rowOf 32 (w8 f))) (.agg (rowOf 32 (w8 g)))).run Tryz.prog w = .ok ((List.range 32).all fun i => ((f i : Nat) : Int) == ((g i : Nat) : Int)) w := by
  obtain ⟨i, hi⟩ := elem8
  rw [run_equalIn_array w 9999 _ _ Tryz.underlying43 hi]
  refine eqItems_two w 9998 Tryz.underlying5 (by kernel_rfl) _ _ _ (fun j => ((f j : Nat) : Int)) (fun j => ((g j : Nat) : Int)) _ (fun i hi => ?_)
  have hc : Tryz.prog.cellsOf 5 = 1 := by kernel_rfl
  have hi2 : i < 32 := by simpa using hi
  rw [hc, Nat.mul_one, rowOf_get _ _ _ hi2, rowOf_get _ _ _ hi2]
  exact ⟨rfl, rfl⟩

theorem eq_words (f g : Nat → Nat) (w : World) : (Op.equalIn 10000 74 (.agg (rowOf 8 (w32 f))) (.agg (rowOf 8 (w32 g)))).run Tryz.prog w = .ok ((List.range 8).all fun i => ((f i : Nat) : Int) == ((g i : Nat) : Int)) w := by
  obtain ⟨i, hi⟩ := elem32
  rw [run_equalIn_array w 9999 _ _ Tryz.underlying74 hi]
  refine eqItems_two w 9998 Tryz.underlying73 (by kernel_rfl) _ _ _ (fun j => ((f j : Nat) : Int)) (fun j => ((g j : Nat) : Int)) _ (fun i hi => ?_)
  have hc : Tryz.prog.cellsOf 73 = 1 := by kernel_rfl
  have hi2 : i < 8 := by simpa using hi
  rw [hc, Nat.mul_one, rowOf_get _ _ _ hi2, rowOf_get _ _ _ hi2]
  exact ⟨rfl, rfl⟩

theorem eq_hash_same (f : Nat → Nat) (w : World) : (Op.equalIn 10000 43 (.agg (rowOf 32 (w8 f))) (.agg (rowOf 32 (w8 f)))).run Tryz.prog w = .ok true w := by
  rw [eq_hash]
  simp

theorem eq_words_same (f : Nat → Nat) (w : World) : (Op.equalIn 10000 74 (.agg (rowOf 8 (w32 f))) (.agg (rowOf 8 (w32 f)))).run Tryz.prog w = .ok true w := by
  rw [eq_words]
  simp

theorem joinTo_one (s : ByteArray) : joinTo [s] 1 = s.data.toList := by simp [joinTo]

theorem sees_one (w : World) (s : ByteArray) : Sees (w.alloc (.cells #[.string s] 9)) (some ⟨w.heap.size, 0, none⟩) [s] := sees_row (RowAt.new w 9 #[.string s])

/-- Sum of one text, in a slice of its own. -/
theorem sum_one (s : ByteArray) (hs : s.size ≤ 100000) (w : World) (hk : KRow w) :
    Calls Tryz.prog 35 #[.slice (some ⟨w.heap.size, 0, none⟩) 1 1] (w.alloc (.cells #[.string s] 9)) fun e w' => e = .returned (.agg (rowOf 32 (w8 (sumN s.data.toList)))) ∧ Below w.heap.size w w' := by
  have b0 : Below w.heap.size w (w.alloc (.cells #[.string s] 9)) := (Below.refl _ _).alloc (Nat.le_refl _) _
  have h := sum_any (some ⟨w.heap.size, 0, none⟩) 1 [s] (by simp) (by unfold Hid; show (joinTo [s] 1).length ≤ 1000000; rw [joinTo_one]; simp; omega) _ (hk.below b0 hk.1 b0.size) (sees_one w s)
  rw [show [s].length = 1 from rfl, joinTo_one] at h
  exact h.mono fun e w' ⟨he, hb⟩ => ⟨he, b0.trans (hb.mono b0.size)⟩

end Go.Proofs.YtacekpjkgkkekaaGreatDoor
/-
  Keys as they are mixed: blockKeyOf, mixed, the document's mixed; the document's Short.
-/
namespace Go.Proofs.YtacekpjkgkkekaaGreatDoor
open Go.RowKit

theorem byteL_listB (n : Nat) (f : Nat → Nat) (hf : Bytes f) (j : Nat) : byteL (listB n f) j = if j < n then f j else 0 := by
  unfold byteL listB
  by_cases h : j < n
  · rw [if_pos h]
    simp [List.getD_eq_getElem?_getD, h]
    exact hf j
  · rw [if_neg h, List.getD_eq_getElem?_getD, List.getElem?_eq_none (by simp; omega)]
    rfl

theorem byteL_none (l : List UInt8) (j : Nat) (h : l.length ≤ j) : byteL l j = 0 := by
  unfold byteL
  rw [List.getD_eq_getElem?_getD, List.getElem?_eq_none h]
  rfl

/-- The 64 bytes of a key. -/
def blockN (key : List UInt8) : Nat → Nat := if key.length ≤ 64 then byteL key else fun j => if j < 32 then sumN key j else 0

theorem sumN_bytes (T : List UInt8) : Bytes (sumN T) := fun j => hashN_bytes _ j

theorem blockN_bytes (key : List UInt8) : Bytes (blockN key) := by
  intro j
  unfold blockN
  split
  · exact byteL_bytes key j
  · show (if j < 32 then sumN key j else 0) < 256
    split
    · exact sumN_bytes key j
    · decide

/-- Mixed by a byte. -/
def xorN (f : Nat → Nat) (c : Nat) : Nat → Nat := fun j => f j ^^^ c

theorem xorN_bytes {f : Nat → Nat} {c : Nat} (hf : Bytes f) (hc : c < 256) : Bytes (xorN f c) := fun j => xor_byte (hf j) hc

def mixL (f : Nat → Nat) (c : Nat) : List UInt8 := listB 64 (xorN f c)

/-- The bytes of a tag. -/
def macN (key T : List UInt8) : Nat → Nat := sumN (mixL (blockN key) 92 ++ listB 32 (sumN (mixL (blockN key) 54 ++ T)))

theorem macN_bytes (key T : List UInt8) : Bytes (macN key T) := sumN_bytes _

theorem info_block (f : Nat → Value) : (Tryz.prog.info? 60).map (·.size) = some (rowOf 64 f).size := by rw [rowOf_size]; kernel_rfl

set_option maxHeartbeats 400000 in
set_option maxRecDepth 8000 in
theorem mixed_any (f : Nat → Nat) (hf : Hid (Bytes f)) (c : Nat) (hc : c < 256) (w : World) :
    Calls Tryz.prog 34 #[.agg (rowOf 64 (w8 f)), .int .u8 (c : Int)] w fun e w' => e = .returned (.string (bs (mixL f c))) ∧ Below w.heap.size w w' := by
  have r0 : Hid (RowAt (w.alloc (.cells (rowOf 64 (w8 f)) 60)) w.heap.size 60 (rowOf 64 (w8 (part (xorN f c) f 0)))) := by rw [part_zero]; exact RowAt.new _ _ _
  have b0 : Below w.heap.size w (w.alloc (.cells (rowOf 64 (w8 f)) 60)) := (Below.refl _ _).alloc (Nat.le_refl _) _
  go_enter Tryz.func34, Tryz.ntmps34
  go_wp2
  generalize w.alloc (.cells (rowOf 64 (w8 f)) 60) = w0 at *
  go_loopw [6] (fun i wr => ∃ j : Nat, j ≤ 64 ∧ i = .int .i64 j ∧ Hid (RowAt wr w.heap.size 60 (rowOf 64 (w8 (part (xorN f c) f j)))) ∧ Below w.heap.size w wr)
    (fun i _ => 64 - (intOf i).toNat)
  case atStart => exact ⟨0, by omega, rfl, r0, b0⟩
  case round =>
    clear r0 b0
    obtain ⟨j, hj, rfl, hr, hbl⟩ := hrel
    by_cases hlt : j < 64
    · have c0 := hr.out.cell j hlt
      have f0 := hr.out.free j
      unfold w8 at c0
      rw [part_above _ _ _ _ (Nat.le_refl j)] at c0
      have hy := hf.out j
      have E1 := Lib.hid (u8_xor_nat (f j) c hy hc)
      have e3 : Hid ((rowOf 64 (w8 (part (xorN f c) f j))).setIfInBounds j (.int .u8 ((f j ^^^ c : Nat) : Int)) = rowOf 64 (w8 (part (xorN f c) f (j + 1)))) := by
        unfold Hid; rw [rowOf_upd8, ← part_upd]; rfl
      go_wp2
      go_roundw
      case rel =>
        refine ⟨j + 1, by omega, by go_num, ?_, hbl.setCell (Nat.le_refl _) _⟩
        rw [E1.out]
        exact (hr.out.set j _).congr e3.out
      case measure => simp [intOf]; omega
    · have : j = 64 := by omega
      subst this
      have hr2 : Hid (RowAt wr w.heap.size 60 (rowOf 64 (w8 (xorN f c)))) := hr.out.congr (rowOf_congr fun k hk => by unfold w8; rw [part_below _ _ _ _ hk])
      have sl := run_slice_all (P := Tryz.prog) Tryz.underlying60 sz8 w.heap.size
      have cv : (convert 45 9 (.slice (some ⟨w.heap.size, 0, none⟩) 64 64)).run Tryz.prog wr = .ok (.string (bs (mixL f c))) wr := block_string (xorN_bytes hf.out hc) Tryz.underlying45 Tryz.underlying5 Tryz.underlying9 hr2.out
      clear hr
      go_wp2
      go_ret
      exact ⟨rfl, hbl⟩

theorem z8_64k : rowOf 64 (w8 zeroN) = rowOf 64 (w8 zeroN) := rfl

theorem laid_text (key : List UInt8) (n : Nat) (hn : n = min key.length 64) (h : key.length ≤ 64) : rowOf 64 (w8 (laid zeroN (byteL key) 0 n)) = rowOf 64 (w8 (blockN key)) :=
  rowOf_congr fun j _ => by
    unfold w8 laid blockN
    rw [if_pos h]
    by_cases hj : j < n
    · rw [if_pos (by omega), Nat.sub_zero]
    · rw [if_neg (by omega), byteL_none key j (by omega)]
      rfl
theorem laid_sum (key : List UInt8) (h : ¬ key.length ≤ 64) : rowOf 64 (w8 (laid zeroN (sumN key) 0 32)) = rowOf 64 (w8 (blockN key)) :=
  rowOf_congr fun j _ => by
    unfold w8 laid blockN
    rw [if_neg h]
    by_cases hj : j < 32
    · rw [if_pos (by omega), Nat.sub_zero]
      show _ = Value.int .u8 ((if j < 32 then sumN key j else 0 : Nat) : Int)
      rw [if_pos hj]
    · rw [if_neg (by omega)]
      show _ = Value.int .u8 ((if j < 32 then sumN key j else 0 : Nat) : Int)
      rw [if_neg hj]
      rfl

set_option maxHeartbeats 400000 in
set_option maxRecDepth 8000 in
theorem blockKeyOf_short (key : ByteArray) (hk : key.size ≤ 64) (w : World) :
    Calls Tryz.prog 33 #[.string key] w fun e w' => e = .returned (.agg (rowOf 64 (w8 (blockN key.data.toList)))) ∧ Below w.heap.size w w' := by
  have hL : key.data.toList.length = key.size := by simp
  have d : decide ((key.size : Int) ≤ 64) = true := decide_eq_true (by omega)
  have sl := run_slice_all (P := Tryz.prog) Tryz.underlying60 sz8 (w.heap.size + 1)
  have cp := Lib.hid (run_copy_text (P := Tryz.prog) ((w.alloc (.cells (rowOf 64 (w8 zeroN)) 60)).alloc (.cells (rowOf 64 (w8 zeroN)) 60)) 45 9 3 5 (w.heap.size + 1) 0 64 64 key zeroN 64 60 Tryz.underlying45 sz8 (row_second w _ _ _) (min key.size 64) rfl (by omega))
  rw [laid_text key.data.toList (min key.size 64) (by rw [hL]) (by omega)] at cp
  have tr := Lib.hid (two_rows w (rowOf 64 (w8 zeroN)) (rowOf 64 (w8 zeroN)) (rowOf 64 (w8 (blockN key.data.toList))) 60 60)
  generalize blockN key.data.toList = B at *
  rw [z8_64] at cp tr
  go_enter Tryz.func33, Tryz.ntmps33
  go_wp2_with (first | (refine wpList_copy_known _ rfl _ _ 45 9 rfl _ _ rfl rfl cp.out ?_; clear cp sl; generalize World.setRow _ _ _ = w1 at *; obtain ⟨r0, r1, b0⟩ := tr.out; clear tr; rw [← z8_64] at r0; replace r0 := Lib.hid r0; replace r1 := Lib.hid r1) | (refine wpList_load_row rfl 60 _ rfl (w.heap.size + 1) rfl 60 _ (0, 0) _ r1.out Tryz.underlying60 rfl (info_block _) ?_) | (refine wpList_store_row rfl 60 _ _ rfl w.heap.size (rowOf 64 (w8 B)) rfl rfl 60 _ r0.out (info_block _) (by rw [rowOf_size, rowOf_size]) (rowOf_cells8 _ _) ?_))
  refine bodyPost_ret (v := .agg (rowOf 64 (w8 B))) ?_ rfl ⟨rfl, below_setRow' b0 (Nat.le_refl _) _⟩
  exact results_cell_row Tryz.results33 _ _ w.heap.size 60 (rowOf 64 (w8 B)) (0, 0) _ rfl (r0.out.setRow _) Tryz.underlying60 rfl (info_block _)

end Go.Proofs.YtacekpjkgkkekaaGreatDoor
/-
  Contract: blockKeyOf.
-/
namespace Go.Proofs.YtacekpjkgkkekaaGreatDoor
open Go.RowKit

set_option maxHeartbeats 400000 in
set_option maxRecDepth 8000 in
theorem blockKeyOf_long (key : ByteArray) (hk : 64 < key.size) (hm : key.size ≤ 100000) (w : World) (hK : Hid (KRow w)) :
    Calls Tryz.prog 33 #[.string key] w fun e w' => e = .returned (.agg (rowOf 64 (w8 (blockN key.data.toList)))) ∧ Below w.heap.size w w' := by
  have hL : key.data.toList.length = key.size := by simp
  have d : decide ((key.size : Int) ≤ 64) = false := decide_eq_false (by omega)
  have E := Lib.hid (laid_sum key.data.toList (by omega))
  have S0 := Lib.hid (fun w hk => sum_one key hm w hk)
  generalize blockN key.data.toList = B at *
  generalize sumN key.data.toList = y at *
  have r0 : Hid (RowAt ((w.alloc (.cells (rowOf 64 (w8 zeroN)) 60)).alloc (.cells (rowOf 64 (w8 zeroN)) 60)) w.heap.size 60 (rowOf 64 (w8 zeroN))) := (RowAt.new _ _ _).alloc _
  have r1 : Hid (RowAt ((w.alloc (.cells (rowOf 64 (w8 zeroN)) 60)).alloc (.cells (rowOf 64 (w8 zeroN)) 60)) (w.heap.size + 1) 60 (rowOf 64 (w8 zeroN))) := row_second w _ _ _
  have b0 : Below w.heap.size w ((w.alloc (.cells (rowOf 64 (w8 zeroN)) 60)).alloc (.cells (rowOf 64 (w8 zeroN)) 60)) := ((Below.refl _ _).alloc (Nat.le_refl _) _).alloc (by simp) _
  have S1 := Lib.hid (S0.out _ (hK.out.below b0 hK.out.1 b0.size))
  have hz : ((w.alloc (.cells (rowOf 64 (w8 zeroN)) 60)).alloc (.cells (rowOf 64 (w8 zeroN)) 60)).heap.size = w.heap.size + 1 + 1 := by rw [World.size_alloc, World.size_alloc]
  rw [hz] at S1
  have HZ := Lib.hid hz
  clear hz
  go_enter Tryz.func33, Tryz.ntmps33
  go_wp2_with fail
  rw [← z8_64]
  generalize (w.alloc (.cells (rowOf 64 (w8 zeroN)) 60)).alloc (.cells (rowOf 64 (w8 zeroN)) 60) = w1 at *
  refine S1.out.mono ?_
  rintro e w2 ⟨rfl, hb2⟩
  replace hb2 : Below w1.heap.size w1 w2 := by rw [HZ.out]; exact hb2
  replace r0 : Hid (RowAt w2 w.heap.size 60 (rowOf 64 (w8 zeroN))) := r0.out.below hb2 r0.out.lt
  replace r1 : Hid (RowAt w2 (w.heap.size + 1) 60 (rowOf 64 (w8 zeroN))) := r1.out.below hb2 r1.out.lt
  replace b0 : Below w.heap.size w w2 := b0.trans (hb2.mono b0.size)
  clear hb2 S0 S1
  go_wp2_with (refine wpList_store_row rfl 43 _ _ rfl w2.heap.size (rowOf 32 (w8 y)) rfl rfl 43 _ (RowAt.new _ _ _) (info_hash _) (by rw [rowOf_size]; rfl) (rowOf_cells8 _ _) ?_; rw [World.setRow_alloc_new]; have r2 := Lib.hid (RowAt.new w2 43 (rowOf 32 (w8 y))); replace r0 := Lib.hid (r0.out.alloc (.cells (rowOf 32 (w8 y)) 43)); replace r1 := Lib.hid (r1.out.alloc (.cells (rowOf 32 (w8 y)) 43)); replace b0 := b0.alloc b0.size (.cells (rowOf 32 (w8 y)) 43); generalize w2.alloc _ = w3 at *; generalize w2.heap.size = p at *)
  have sl1 := run_slice_all (P := Tryz.prog) Tryz.underlying60 sz8 (w.heap.size + 1)
  have sl2 := run_slice_all (P := Tryz.prog) Tryz.underlying43 sz8 p
  refine wp_region_still_tail 2 (by kernel_rfl) (by kernel_rfl) ?_
  change wpStill _ _ (World.drew _) (fun a' => wpList _ _ _ _ a' (World.drew _)) _ _
  replace r0 : Hid (RowAt w3.drew w.heap.size 60 (rowOf 64 (w8 zeroN))) := r0
  replace r1 : Hid (RowAt w3.drew (w.heap.size + 1) 60 (rowOf 64 (w8 zeroN))) := r1
  replace r2 : Hid (RowAt w3.drew p 43 (rowOf 32 (w8 y))) := r2
  replace b0 : Below w.heap.size w w3.drew := b0.drew
  generalize World.drew _ = w4 at *
  have cp := Lib.hid (run_copy_bytes (P := Tryz.prog) w4 45 45 3 5 (w.heap.size + 1) p 64 64 32 32 zeroN y 64 32 60 43 Tryz.underlying45 sz8 r1.out r2.out 32 rfl (by decide) (by decide))
  rw [E.out] at cp
  simp only [List.take_succ_cons, List.take_zero, List.drop_succ_cons, List.drop_zero]
  refine wpStill_of_quiet _ _ ?_
  simp only [Act.put]
  repeat (first | go_big_quiet_skip | (go_big_quiet_want; go_big_quiet_op; go_big_quiet_on))
  refine wpQuiet_nil ?_
  clear sl1 sl2
  have hr1 := Lib.hid (r1.out.setRow (rowOf 64 (w8 B)))
  have hr0 := Lib.hid (r0.out.setRowOther (w.heap.size + 1) (rowOf 64 (w8 B)) (by omega))
  have b2 := below_setRow' b0 (show w.heap.size ≤ w.heap.size + 1 by omega) (rowOf 64 (w8 B))
  refine wpList_copy_known _ rfl _ _ 45 45 rfl _ _ rfl rfl cp.out ?_
  generalize World.setRow _ _ _ = w5 at *
  clear cp b0 r0 r1 r2
  go_wp2_with (first | (refine wpList_load_row rfl 60 _ rfl (w.heap.size + 1) rfl 60 _ (0, 0) _ hr1.out Tryz.underlying60 rfl (info_block _) ?_) | (refine wpList_store_row rfl 60 _ _ rfl w.heap.size (rowOf 64 (w8 B)) rfl rfl 60 _ hr0.out (info_block _) (by rw [rowOf_size, rowOf_size]) (rowOf_cells8 _ _) ?_))
  refine bodyPost_ret (v := .agg (rowOf 64 (w8 B))) ?_ rfl ⟨rfl, below_setRow' b2 (Nat.le_refl _) _⟩
  exact results_cell_row Tryz.results33 _ _ w.heap.size 60 (rowOf 64 (w8 B)) (0, 0) _ rfl (hr0.out.setRow _) Tryz.underlying60 rfl (info_block _)

theorem blockKeyOf_any (key : ByteArray) (hm : key.size ≤ 100000) (w : World) (hK : Hid (KRow w)) :
    Calls Tryz.prog 33 #[.string key] w fun e w' => e = .returned (.agg (rowOf 64 (w8 (blockN key.data.toList)))) ∧ Below w.heap.size w w' := by
  by_cases h : key.size ≤ 64
  · exact blockKeyOf_short key h w
  · exact blockKeyOf_long key (by omega) hm w hK

end Go.Proofs.YtacekpjkgkkekaaGreatDoor
/-
  Bytes 0 made, in a walk over a region that draws its order.
-/
namespace Go.Proofs.YtacekpjkgkkekaaGreatDoor
open Go.RowKit

theorem made_zero (m : Nat) : madeCells #[Value.int .u8 0] m = rowOf m (w8 zeroN) := by
  apply Array.ext'
  rw [toList_madeCells_one]
  unfold rowOf
  apply List.ext_getElem
  · simp
  · intro j h1 h2
    simp [w8, zeroN]

/-- m bytes 0 made. -/
theorem grows_make {ops : Array Oper} {C : World → Prop} {R : List Pred} {o : Oper} {a : Act} {w : World} {l c : Operand} {m : Nat} (hR : Steady R) (hCs : ∀ w w', Below w.heap.size w w' → C w → C w') (hC : C w) (hw : Region.wanted o (yielded ops a.tmps) = true)
    (ho : o.op = .makeSlice 45 l c) (hl : a.eval l = .int .i64 (m : Int)) (hc : a.eval c = .int .i64 (m : Int)) (hm : m ≤ 1000000) :
    growsAt Tryz.prog ops o a w fun v w' => C w' ∧ heldv 5 m (rowOf m (w8 zeroN)) v w' ∧ Keeps R w w' := by
  obtain ⟨i0, hi, hz0, hz1, hz2⟩ := info_parts Tryz.info5
  refine grows_held hR hCs hC hw ?_
  have h := run_makeSlice (P := Tryz.prog) w 45 5 i0 (.int .u8 0) Tryz.underlying45 hi hz0 .i64 .i64 (m : Int) (m : Int) (by omega) (by omega) (by rw [hz1]; simp; omega) (by rw [hz2]; omega) (by omega)
  rw [hz1] at h
  simp only [Int.toNat_natCast, Nat.mul_one, show (Value.int .u8 0).cells = #[Value.int .u8 0] from rfl, made_zero] at h
  unfold execOp
  simp only [ho, hl, hc, Sem.run_bind, Sem.run_pure, h, Result.andThen_ok]

end Go.Proofs.YtacekpjkgkkekaaGreatDoor
/-
  The steps of a walk over a region that draws its order: whole arrays loaded and stored, lists of texts made.
-/
namespace Go.Proofs.YtacekpjkgkkekaaGreatDoor
open Go.RowKit

section
variable {P : Program} {ops : Array Oper} {C : World → Prop} {R : List Pred}

/-- A list of texts in a block of its own. -/
def seesv (ss : List ByteArray) : Pred := fun v w => ∃ q, v = .slice (some ⟨q, 0, none⟩) ss.length ss.length ∧ RowAt w q 9 (ss.map Value.string).toArray

theorem steady_seesv (ss : List ByteArray) : ∀ v w w', Below w.heap.size w w' → seesv ss v w → seesv ss v w' := by
  rintro v w w' hb ⟨q, hv, hr⟩
  exact ⟨q, hv, hr.below hb hr.lt⟩

theorem seesv_firm {ss : List ByteArray} {v : Value} {w : World} {p : Nat} {t : TypeId} {cs ds : Array Value} (hp : RowAt w p t cs) (ht : t ≠ 9) (h : seesv ss v w) : seesv ss v (w.setRow p ds) := by
  obtain ⟨q, hv, hr⟩ := h
  refine ⟨q, hv, hr.setRowOther p ds fun e => ht ?_⟩
  subst e
  unfold RowAt at hp hr
  rw [hr] at hp
  cases hp
  rfl

theorem grows_strs {o : Oper} {a : Act} {w : World} {ss : List ByteArray} (hR : Steady R) (hCs : ∀ w w', Below w.heap.size w w' → C w → C w') (hC : C w) (hw : Region.wanted o (yielded ops a.tmps) = true)
    (hv : (execOp a.eval o).run P w = .ok (.value (.slice (some ⟨w.heap.size, 0, none⟩) ss.length ss.length)) (w.alloc (.cells (ss.map Value.string).toArray 9))) :
    growsAt P ops o a w fun v w' => C w' ∧ seesv ss v w' ∧ Keeps R w w' :=
  have b : Below w.heap.size w (w.alloc (.cells (ss.map Value.string).toArray 9)) := (Below.refl _ _).alloc (Nat.le_refl _) _
  grows_new hw hv ⟨w.heap.size, rfl, RowAt.new _ _ _⟩ (hCs _ _ b hC) fun i v h => hR i v _ _ b h

end

/-- A hash held against itself. -/
theorem run_eql_hash (f : Nat → Nat) {o : Oper} {a : Act} {x y : Operand} {t : TypeId} (ho : o.op = .binOp .eql 43 x y t) (hx : a.eval x = .agg (rowOf 32 (w8 f))) (hy : a.eval y = .agg (rowOf 32 (w8 f))) (w : World) :
    (execOp a.eval o).run Tryz.prog w = .ok (.value (.bool true)) w := by
  have e := eq_hash_same f w
  unfold execOp
  simp only [ho, hx, hy]
  simp [go_sem, e]
end Go.Proofs.YtacekpjkgkkekaaGreatDoor
/-
  Contract: Mac.
-/
namespace Go.Proofs.YtacekpjkgkkekaaGreatDoor
open Go.RowKit

theorem Tryz.info9 : (Tryz.prog.info? 9).map (fun i => (i.zero, i.size, i.bytes)) = some (some (.string ByteArray.empty), 1, 16) := by kernel_rfl

/-- What an owned row of texts shows. -/
theorem own_sees {w : World} {base : Nat} {v : Value} {n : Nat} {ss : List ByteArray} (h : w.ownsRow base 9 1 v n (ss.map Value.string)) (hn : 0 < n) : ss.length = n ∧ ∃ g cap, v = .slice (some ⟨g, 0, none⟩) n cap ∧ Sees w (some ⟨g, 0, none⟩) ss := by
  have hl : ss.length = n := by simpa using h.1
  obtain ⟨g, cap, hv, _, hg⟩ := h.form hn
  refine ⟨hl, g, cap, hv, fun j hj => ⟨_, rfl, hg, ?_⟩⟩
  refine h.cells (by rw [hv]; rfl) j _ ?_
  simp [List.getElem?_eq_getElem hj]

/-- Texts, appended to a row of the call's own. -/
theorem wpList_append_strs {ops : Array Oper} {rest : List Oper} {o : Oper} {act : Act} {Q : Exit → Act → World → Prop} {w : World} {base : Nat} (hgd : o.guard = none) (s x : Operand)
    (ho : o.op = .call { callee := .builtin .append, args := #[s, x], argTypes := #[57, 57] }) (v : Value) (n : Nat) (xs : List Value) (hs : act.eval s = v) (hown : w.ownsRow base 9 1 v n xs)
    (a : Option Addr) (c : Nat) (ss : List ByteArray) (hac : a = none → c = 0) (hx : act.eval x = .slice a ss.length c) (hsees : Sees w a ss) (hb : base ≤ w.heap.size) (hl : n + ss.length ≤ 1000000)
    (h : ∀ v' w', w'.ownsRow base 9 1 v' (n + ss.length) (xs ++ ss.map Value.string) → Below base w w' → wpList Tryz.prog ops Q rest (act.put o.dst v') w') : wpList Tryz.prog ops Q (o :: rest) act w := by
  obtain ⟨i0, hi, hz0, hz1, hz2⟩ := info_parts Tryz.info9
  cases a with
  | none =>
    have hc : c = 0 := hac rfl
    subst hc
    have hn : ss = [] := by
      cases ss with
      | nil => rfl
      | cons s r => obtain ⟨ad, e, _⟩ := hsees 0 (by simp); cases e
    subst hn
    refine wpList_append_own_none hgd s x 57 ho base 9 i0 1 Tryz.underlying57 hi v n xs hs hown hx (h v w ?_ (Below.refl _ _))
    simpa using hown
  | some ad =>
    refine wpList_append_own w hgd s x 57 ho base 9 i0 (.string ByteArray.empty) 1 16 Tryz.underlying57 hi hz0 hz1 hz2 rfl (by decide) v n xs hs hown ad ss.length c (ss.map Value.string) hx (by simp) (fun j u hj => ?_) (fun u hu => ?_) (by unfold maxLen; omega) (by omega) hb (fun v' w' h1 h2 _ => h v' w' h1 ((Below.refl _ _).grown h2 hb (fun g hg => (hown.lt g hg).1)))
    · have hjl : j < ss.length := by
        have := (List.getElem?_eq_some_iff.1 hj).1
        simpa using this
      obtain ⟨ad', e, _, hc⟩ := hsees j hjl
      cases e
      rw [hc]
      simpa [List.getElem?_eq_getElem hjl] using hj
    · simp only [List.mem_map] at hu
      obtain ⟨b, _, rfl⟩ := hu
      rfl

theorem owns_one (w : World) (s : ByteArray) : (w.alloc (.cells #[.string s] 9)).ownsRow w.heap.size 9 1 (.slice (some ⟨w.heap.size, 0, none⟩) 1 1) 1 [.string s] :=
  ⟨by simp, Or.inr ⟨w.heap.size, 1, #[.string s], rfl, Nat.le_refl _, RowAt.new _ _ _, Nat.le_refl _, by unfold maxLen; omega, by simp, by simp⟩⟩

theorem joinTo_cons (s : ByteArray) (ss : List ByteArray) : joinTo (s :: ss) (s :: ss).length = s.data.toList ++ joinTo ss ss.length := by
  unfold joinTo
  simp

/-- What stays while the outer sum is reckoned. -/
def MacC (w : World) (p q : Nat) (y : Nat → Nat) (w' : World) : Prop := Below p w w' ∧ RowAt w' q 43 (rowOf 32 (w8 y)) ∧ ∃ f, RowAt w' p 43 (rowOf 32 (w8 f))

theorem MacC.after {w w1 w2 : World} {p q : Nat} {y : Nat → Nat} (hb : Below w1.heap.size w1 w2) (h : MacC w p q y w1) : MacC w p q y w2 := by
  obtain ⟨h1, h2, f, h3⟩ := h
  exact ⟨h1.trans (hb.mono (Nat.le_of_lt h3.lt)), h2.below hb h2.lt, f, h3.below hb h3.lt⟩

theorem MacC.store {w w1 : World} {p q : Nat} {y : Nat → Nat} (z : Nat → Nat) (hpq : p ≠ q) (h : MacC w p q y w1) : MacC w p q y (w1.setRow p (rowOf 32 (w8 z))) := by
  obtain ⟨h1, h2, f, h3⟩ := h
  exact ⟨below_setRow' h1 (Nat.le_refl _) _, h2.setRowOther _ _ hpq.symm, z, h3.setRow _⟩


set_option maxHeartbeats 1000000 in
set_option maxRecDepth 8000 in
theorem mac_any (key : ByteArray) (hm : key.size ≤ 100000) (a : Option Addr) (c : Nat) (hac : a = none → c = 0) (ss : List ByteArray) (hl : ss.length ≤ 1000) (hz : Hid ((joinTo ss ss.length).length ≤ 500000)) (w : World) (hk : Hid (KRow w)) (hs : Hid (Sees w a ss)) :
    Calls Tryz.prog 20 #[.string key, .slice a ss.length c] w fun e w' => e = .returned (.agg (rowOf 32 (w8 (macN key.data.toList (joinTo ss ss.length))))) ∧ Below w.heap.size w w' := by
  obtain ⟨i0, hi, hz0, hz1, hz2⟩ := info_parts Tryz.info9
  have E : Hid (macN key.data.toList (joinTo ss ss.length) = sumN (mixL (blockN key.data.toList) 92 ++ listB 32 (sumN (mixL (blockN key.data.toList) 54 ++ joinTo ss ss.length)))) := rfl
  have hB := Lib.hid (blockN_bytes key.data.toList)
  go_enter Tryz.func20, Tryz.ntmps20
  go_wp2_with fail
  rw [← z8_32]
  have r0 : Hid (RowAt (w.alloc (.cells (rowOf 32 (w8 zeroN)) 43)) w.heap.size 43 (rowOf 32 (w8 zeroN))) := RowAt.new _ _ _
  have b0 : Below w.heap.size w (w.alloc (.cells (rowOf 32 (w8 zeroN)) 43)) := (Below.refl _ _).alloc (Nat.le_refl _) _
  generalize w.alloc (.cells (rowOf 32 (w8 zeroN)) 43) = w0 at *
  refine (blockKeyOf_any key hm w0 (hk.out.below b0 hk.out.1 b0.size)).mono ?_
  rintro e w1 ⟨rfl, hb1⟩
  replace r0 : Hid (RowAt w1 w.heap.size 43 (rowOf 32 (w8 zeroN))) := r0.out.below hb1 r0.out.lt
  replace b0 : Below w.heap.size w w1 := b0.trans (hb1.mono b0.size)
  clear hb1
  generalize blockN key.data.toList = B at *
  have l54 : (mixL B 54).length = 64 := listB_length _ _
  have l92 : (mixL B 92).length = 64 := listB_length _ _
  have L54 := Lib.hid l54
  have L92 := Lib.hid l92
  clear l54 l92
  go_wp2_with fail
  refine (mixed_any B hB 54 (by decide) _).mono ?_
  rintro e w2 ⟨rfl, hb2⟩
  replace r0 : Hid (RowAt w2 w.heap.size 43 (rowOf 32 (w8 zeroN))) := r0.out.below hb2 r0.out.lt
  replace b0 : Below w.heap.size w w2 := b0.trans (hb2.mono b0.size)
  clear hb2
  have hs2 : Hid (Sees (w2.alloc (.cells #[.string (bs (mixL B 54))] 9)) a ss) := (hs.out.below b0 (Nat.le_refl _)).below ((Below.refl _ _).alloc (Nat.le_refl w2.heap.size) _) (Nat.le_refl _)
  go_wp2_with (at_builtin; refine wpList_append_strs rfl _ _ rfl _ 1 [.string (bs (mixL B 54))] rfl (owns_one w2 _) a c ss hac rfl hs2.out (by simp) (by omega) ?_)
  intro v' w3 hown hb3
  have hown' : w3.ownsRow w2.heap.size 9 1 v' (1 + ss.length) ((bs (mixL B 54) :: ss).map Value.string) := hown
  obtain ⟨hlen, g, cap, rfl, hse⟩ := own_sees hown' (by omega)
  have hb4 : Below w2.heap.size w2 w3 := ((Below.refl _ _).alloc (Nat.le_refl w2.heap.size) _).trans hb3
  replace r0 : Hid (RowAt w3 w.heap.size 43 (rowOf 32 (w8 zeroN))) := r0.out.below hb4 r0.out.lt
  replace b0 : Below w.heap.size w w3 := b0.trans (hb4.mono b0.size)
  have hj := Lib.hid (joinTo_cons (bs (mixL B 54)) ss)
  have S1 := Lib.hid (sum_any (some ⟨g, 0, none⟩) cap (bs (mixL B 54) :: ss) (by simp; omega) (by
    have h1 := hz.out
    have h2 := L54.out
    unfold Hid
    rw [hj.out, List.length_append]
    show (mixL B 54).length + _ ≤ _
    omega) w3 (hk.out.below b0 hk.out.1 b0.size) hse)
  rw [hj.out, hlen] at S1
  clear hb3 hb4 hown hown' hse hs2 hj hlen hs
  go_wp2_with fail
  refine S1.out.mono ?_
  rintro e w4 ⟨rfl, hb4⟩
  replace r0 : Hid (RowAt w4 w.heap.size 43 (rowOf 32 (w8 zeroN))) := r0.out.below hb4 r0.out.lt
  replace b0 : Below w.heap.size w w4 := b0.trans (hb4.mono b0.size)
  clear hb4 S1
  have E2 : Hid (sumN ((bs (mixL B 54)).data.toList ++ joinTo ss ss.length) = sumN (mixL B 54 ++ joinTo ss ss.length)) := rfl
  rw [E2.out]
  clear E2
  have hY := Lib.hid (sumN_bytes (mixL B 54 ++ joinTo ss ss.length))
  generalize sumN (mixL B 54 ++ joinTo ss ss.length) = y at *
  have hpq : w.heap.size < w4.heap.size := r0.out.lt
  go_wp2_with (refine wpList_store_row rfl 43 _ _ rfl w4.heap.size (rowOf 32 (w8 y)) rfl rfl 43 _ (RowAt.new _ _ _) (info_hash _) (by rw [rowOf_size]; rfl) (rowOf_cells8 _ _) ?_; rw [World.setRow_alloc_new]; have r1 := Lib.hid (RowAt.new w4 43 (rowOf 32 (w8 y))); replace r0 := Lib.hid (r0.out.alloc (.cells (rowOf 32 (w8 y)) 43)); replace b0 := b0.alloc b0.size (.cells (rowOf 32 (w8 y)) 43); generalize w4.alloc _ = w5 at *; generalize w4.heap.size = q at *)
  simp only [Act.put]
  have sl := run_slice_all (P := Tryz.prog) Tryz.underlying43 sz8 q
  have cv : Hid (∀ w', RowAt w' q 43 (rowOf 32 (w8 y)) → (convert 45 9 (.slice (some ⟨q, 0, none⟩) 32 32)).run Tryz.prog w' = .ok (.string (bs (listB 32 y))) w') :=
    fun w' hr => block_string hY.out Tryz.underlying45 Tryz.underlying5 Tryz.underlying9 hr
  have hj : Hid (joinTo [bs (mixL B 92), bs (listB 32 y)] 2 = mixL B 92 ++ listB 32 y) := by
    have := joinTo_cons (bs (mixL B 92)) [bs (listB 32 y)]
    rw [joinTo_cons (bs (listB 32 y)) []] at this
    unfold Hid
    rw [show joinTo [] [].length = [] from rfl, List.append_nil] at this
    exact this
  have M1 : Hid (∀ w', Calls Tryz.prog 34 #[.agg (rowOf 64 (w8 B)), .int .u8 92] w' fun e w'' => e = .returned (.string (bs (mixL B 92))) ∧ Below w'.heap.size w' w'') := fun w' => mixed_any B hB 92 (by decide) w'
  have S2 : Hid (∀ w' p, Below w.heap.size w w' → RowAt w' p 9 ([bs (mixL B 92), bs (listB 32 y)].map Value.string).toArray → Calls Tryz.prog 35 #[.slice (some ⟨p, 0, none⟩) 2 2] w' fun e w'' => e = .returned (.agg (rowOf 32 (w8 (sumN (mixL B 92 ++ listB 32 y))))) ∧ Below w'.heap.size w' w'') := by
    intro w' p hb hr
    have h := sum_any (some ⟨p, 0, none⟩) 2 [bs (mixL B 92), bs (listB 32 y)] (by simp) (by
      unfold Hid
      show (joinTo [bs (mixL B 92), bs (listB 32 y)] 2).length ≤ _
      rw [hj.out, List.length_append, L92.out, listB_length]
      decide) w' (hk.out.below hb hk.out.1 hb.size) (sees_row hr)
    rw [show [bs (mixL B 92), bs (listB 32 y)].length = 2 from rfl, hj.out] at h
    exact h
  generalize sumN (mixL B 92 ++ listB 32 y) = z at *
  generalize bs (mixL B 92) = m9 at *
  generalize bs (listB 32 y) = h9 at *
  have HC : MacC w w.heap.size q y w5.drew := ⟨b0.drew, r1.out, zeroN, r0.out⟩
  clear hj hB L54 L92 b0 r0 r1 hY hac hl hz
  refine wp_region_firm (MacC w w.heap.size q y) [eqv (.func (.func 34) #[.agg (rowOf 64 (w8 B))] #[]), eqv (.string m9), eqv (.slice (some ⟨q, 0, none⟩) 32 32), eqv (.string h9), seesv [m9, h9], eqv (.agg (rowOf 32 (w8 z))), rowv w.heap.size 43 (rowOf 32 (w8 z))] (by kernel_rfl) (by kernel_rfl) HC
    (.cons (steady_eqv _) (.cons (steady_eqv _) (.cons (steady_eqv _) (.cons (steady_eqv _) (.cons (steady_seesv _) (.cons (steady_eqv _) (.cons (steady_rowv _ _ _) .nil))))))) w.heap.size (rowOf 32 (w8 z))
    (fun w' hC => by
      obtain ⟨_, _, f, h3⟩ := hC
      exact .cons (fun _ h => h) (.cons (fun _ h => h) (.cons (fun _ h => h) (.cons (fun _ h => h) (.cons (fun _ h => seesv_firm h3 (by decide) h) (.cons (fun _ h => h) (.cons (fun _ _ => h3.setRow _) (.nil _ _))))))))
    ?_
  intro R hR hF
  refine wpRely_cons (fun w' hC hf => ?_) (fun v0 => ?_)
  · exact grows_eqv (by rfl) hC (by go_simp)
  simp only [Act.put, List.setIfInBounds_toArray, List.set_cons_succ, List.set_cons_zero]
  refine wpRely_cons (fun w' hC hf => ?_) (fun v1 => ?_)
  · obtain ⟨rfl, _⟩ := hf
    exact grows_calls hR (fun _ _ hb h => h.after hb) hC (by rfl) (by go_simp) (M1.out w')
  simp only [Act.put, List.setIfInBounds_toArray, List.set_cons_succ, List.set_cons_zero]
  refine wpRely_cons (fun w' hC hf => ?_) (fun v2 => ?_)
  · exact grows_eqv (by rfl) hC (by go_simp)
  simp only [Act.put, List.setIfInBounds_toArray, List.set_cons_succ, List.set_cons_zero]
  refine wpRely_cons (fun w' hC hf => ?_) (fun v3 => ?_)
  · obtain ⟨rfl, _⟩ := hf
    have cw := cv.out w' hC.2.1
    exact grows_eqv (by rfl) hC (by go_simp)
  simp only [Act.put, List.setIfInBounds_toArray, List.set_cons_succ, List.set_cons_zero]
  refine wpRely_cons (fun w' hC hf => ?_) (fun v4 => ?_)
  · obtain ⟨rfl, rfl, _⟩ := hf
    exact grows_strs hR (fun _ _ hb h => h.after hb) hC (by rfl) (by go_simp)
  simp only [Act.put, List.setIfInBounds_toArray, List.set_cons_succ, List.set_cons_zero]
  refine wpRely_cons (fun w' hC hf => ?_) (fun v5 => ?_)
  · obtain ⟨⟨p, rfl, hp⟩, _⟩ := hf
    exact grows_calls hR (fun _ _ hb h => h.after hb) hC (by rfl) (by go_simp) (S2.out w' p hC.1 hp)
  simp only [Act.put, List.setIfInBounds_toArray, List.set_cons_succ, List.set_cons_zero]
  refine wpRely_cons (fun w' hC hf => ?_) (fun v6 => ?_)
  · obtain ⟨rfl, _⟩ := hf
    obtain ⟨f, h3⟩ := hC.2.2
    exact grows_store (by rfl) rfl rfl rfl h3 (info_hash _) (by rw [rowOf_size, rowOf_size]) (rowOf_cells8 _ _) (MacC.store z (by omega) hC) (hF w' hC)
  simp only [Act.put]
  refine wpRely_nil fun w9 hC hf => ?_
  obtain ⟨_, _, _, _, _, _, h6, _⟩ := hf
  have b9 := hC.1
  clear M1 S2 cv hC hF
  go_wp2
  refine bodyPost_ret (v := .agg (rowOf 32 (w8 z))) ?_ rfl ⟨by rw [E.out], b9⟩
  exact results_cell_row Tryz.results20 _ _ w.heap.size 43 (rowOf 32 (w8 z)) (0, 0) _ rfl h6 Tryz.underlying43 rfl (info_hash _)

end Go.Proofs.YtacekpjkgkkekaaGreatDoor
/-
  Contracts: the document's mixed, Short, Mac.
-/
namespace Go.Proofs.YtacekpjkgkkekaaGreatDoor
open Go.RowKit

theorem ofNat_bv (n : Nat) (h : n < 256) : Value.int .u8 ((n : Nat) : Int) = bv (UInt8.ofNat n) := by
  unfold bv
  rw [UInt8.toNat_ofNat', Nat.mod_eq_of_lt h]

theorem news_one (w : World) (x : Value) (t : TypeId) : ∀ j u, [x][j]? = some u → (w.alloc (.cells #[x] t)).cell? ((⟨w.heap.size, 0, none⟩ : Addr).add j) = some u := by
  intro j u hj
  match j, hj with
  | 0, hj => simp at hj; subst hj; simp [Addr.add]
theorem one_byte (n : Int) : ∀ u ∈ [Value.int .u8 n], u.oneCell' = true := by
  intro u hu
  simp at hu
  subst hu
  rfl

set_option maxHeartbeats 400000 in
set_option maxRecDepth 8000 in
theorem refMixed_any (key : ByteArray) (c : Nat) (hc : c < 256) (w : World) :
    Calls Tryz.prog 40 #[.string key, .int .u8 (c : Int)] w fun e w' => e = .returned (.string (bs (mixL (byteL key.data.toList) c))) ∧ Below w.heap.size w w' := by
  obtain ⟨i0, hi, hz0, hz1, hz2⟩ := info_parts Tryz.info5
  have hB := Lib.hid (byteL_bytes key.data.toList)
  obtain ⟨f, hf⟩ : ∃ f, xorN (byteL key.data.toList) c = f := ⟨_, rfl⟩
  have hfb : Hid (Bytes f) := by rw [← hf]; exact xorN_bytes hB.out hc
  have E : Hid (mixL (byteL key.data.toList) c = listB 64 f) := by unfold Hid mixL; rw [hf]
  have HF := Lib.hid hf
  clear hf
  have hL : key.data.toList.length = key.size := by simp
  have HL := Lib.hid hL
  clear hL
  go_enter Tryz.func40, Tryz.ntmps40
  go_wp2
  go_loopw [5, 6] (fun v i wr => ∃ j : Nat, j ≤ 64 ∧ i = .int .i64 j ∧ wr.ownsRow w.heap.size 5 1 v j ((listB j f).map bv) ∧ Below w.heap.size w wr)
    (fun _ i _ => 64 - (intOf i).toNat)
  case atStart => exact ⟨0, by omega, rfl, World.ownsRow_made _ _ _ (Nat.le_refl _) (by unfold maxLen; omega) (by simp), (Below.refl _ _).alloc (Nat.le_refl _) _⟩
  case round =>
    obtain ⟨j, hj, rfl, hown, hbl⟩ := hrel
    have hsz := hbl.size
    by_cases hlt : j < 64
    · have hfj := hfb.out j
      by_cases hk : j < key.size
      · have hkI : (j : Int) < (key.size : Int) := by omega
        have e1 : Hid (bits .xor .u8 ((key[j]'hk).toNat : Int) (c : Int) = ((f j : Nat) : Int)) := by
          unfold Hid
          rw [byteL_get key j hk, u8_xor_nat _ _ (hB.out j) hc, ← HF.out]
          rfl
        go_wp2_with (at_builtin; refine wpList_append_own _ rfl _ _ 45 rfl w.heap.size 5 i0 (.int .u8 0) 1 1 Tryz.underlying45 hi hz0 hz1 hz2 rfl (by decide) _ _ _ rfl (hown.alloc _) ⟨wr.heap.size, 0, none⟩ 1 1 [.int .u8 (bits .xor .u8 ((key[j]'hk).toNat : Int) (c : Int))] rfl rfl (news_one _ _ _) (one_byte _) (by unfold maxLen; omega) (by omega) (by simp; omega) ?_)
        · intro v' w1 hown' hgrow _
          have hown2 : w1.ownsRow w.heap.size 5 1 v' (j + 1) ((listB (j + 1) f).map bv) := by
            rw [listB_succ, List.map_append, List.map_singleton, ← ofNat_bv _ hfj, ← e1.out]
            exact hown'
          have hbl2 : Below w.heap.size w w1 := (hbl.alloc (by omega) _).grown hgrow (by simp; omega) (fun g hg => (hown.lt g hg).1)
          clear hown' hgrow hown hbl
          go_wp2
          go_roundw
          case rel => exact ⟨j + 1, by omega, by go_num, hown2, hbl2⟩
          case measure => simp [intOf]; omega
      · have hkI : ¬ (j : Int) < (key.size : Int) := by omega
        have e1 : Hid (f j = c) := by
          unfold Hid
          rw [← HF.out]
          unfold xorN
          rw [byteL_none _ _ (by rw [HL.out]; omega), Nat.zero_xor]
        have dk : decide (j < key.size) = false := decide_eq_false hk
        go_wp2_with (at_builtin; refine wpList_append_own _ rfl _ _ 45 rfl w.heap.size 5 i0 (.int .u8 0) 1 1 Tryz.underlying45 hi hz0 hz1 hz2 rfl (by decide) _ _ _ rfl (hown.alloc _) ⟨wr.heap.size, 0, none⟩ 1 1 [.int .u8 (c : Int)] rfl rfl (news_one _ _ _) (one_byte _) (by unfold maxLen; omega) (by omega) (by simp; omega) ?_)
        · intro v' w1 hown' hgrow _
          have hown2 : w1.ownsRow w.heap.size 5 1 v' (j + 1) ((listB (j + 1) f).map bv) := by
            rw [listB_succ, List.map_append, List.map_singleton, ← ofNat_bv _ hfj, e1.out]
            exact hown'
          have hbl2 : Below w.heap.size w w1 := (hbl.alloc (by omega) _).grown hgrow (by simp; omega) (fun g hg => (hown.lt g hg).1)
          clear hown' hgrow hown hbl
          go_wp2
          go_roundw
          case rel => exact ⟨j + 1, by omega, by go_num, hown2, hbl2⟩
          case measure => simp [intOf]; omega
    · have : j = 64 := by omega
      subst this
      have hcv := own_string (P := Tryz.prog) (src := 45) (dst := 9) (listB 64 f) Tryz.underlying45 Tryz.underlying5 Tryz.underlying9 hown
      go_wp2
      go_ret
      exact ⟨by rw [E.out]; rfl, hbl⟩

set_option maxHeartbeats 400000 in
set_option maxRecDepth 8000 in
theorem refShort_any (f : Nat → Nat) (w : World) :
    Calls Tryz.prog 38 #[.agg (rowOf 32 (w8 f))] w fun e w' => e = .returned (.agg (rowOf 16 (w8 f))) ∧ Below w.heap.size w w' := by
  go_enter Tryz.func38, Tryz.ntmps38
  go_wp2_with (refine wpList_store_row rfl 23 _ _ rfl (w.heap.size + 1 + 1) (rowOf 16 (w8 zeroN)) rfl rfl 23 _ (row_new2 w _ _ _ _) (info_key _) (by rw [rowOf_size]; rfl) (rowOf_cells8 _ _) ?_)
  rw [← z8_16]
  obtain ⟨w1, hw1⟩ : ∃ w1, World.setRow (((w.alloc (.cells (rowOf 32 (w8 f)) 43)).alloc (.cells (rowOf 16 (w8 zeroN)) 23)).alloc (.cells (rowOf 16 (w8 zeroN)) 23)) (w.heap.size + 1 + 1) (rowOf 16 (w8 zeroN)) = w1 := ⟨_, rfl⟩
  have tr := Lib.hid (three_rows w (rowOf 32 (w8 f)) (rowOf 16 (w8 zeroN)) (rowOf 16 (w8 zeroN)) (rowOf 16 (w8 zeroN)) 43 23 23)
  rw [hw1] at tr
  rw [hw1]
  clear hw1
  obtain ⟨r0', r1', r2', b0⟩ := tr.out
  have r0 := Lib.hid r0'
  have r1 := Lib.hid r1'
  have r2 := Lib.hid r2'
  clear r0' r1' r2' tr
  go_loopw [4] (fun i wr => ∃ j : Nat, j ≤ 16 ∧ i = .int .i64 j ∧ Hid (RowAt wr (w.heap.size + 1 + 1) 23 (rowOf 16 (w8 (part f zeroN j)))) ∧ Below (w.heap.size + 1 + 1) w1 wr)
    (fun i _ => 16 - (intOf i).toNat)
  case atStart => exact ⟨0, by omega, rfl, by rw [part_zero]; exact r2, Below.refl _ _⟩
  case round =>
    obtain ⟨j, hj, rfl, hr, hbl⟩ := hrel
    by_cases hlt : j < 16
    · have c0 := (r0.out.below hbl (by omega)).cell j (by omega)
      have c2 := hr.out.cell j hlt
      have f2 := hr.out.free j
      unfold w8 at c0
      have e3 : Hid ((rowOf 16 (w8 (part f zeroN j))).setIfInBounds j (.int .u8 ((f j : Nat) : Int)) = rowOf 16 (w8 (part f zeroN (j + 1)))) := by
        unfold Hid; rw [rowOf_upd8, part_upd]
      go_wp2
      go_roundw
      case rel => exact ⟨j + 1, by omega, by go_num, (hr.out.set j _).congr e3.out, hbl.setCell (Nat.le_refl _) _⟩
      case measure => simp [intOf]; omega
    · have : j = 16 := by omega
      subst this
      have hr2 : Hid (RowAt wr (w.heap.size + 1 + 1) 23 (rowOf 16 (w8 f))) := hr.out.congr (rowOf_congr fun k hk => by unfold w8; rw [part_below _ _ _ _ hk])
      have hq : Hid (RowAt wr (w.heap.size + 1) 23 (rowOf 16 (w8 zeroN))) := r1.out.below hbl (by omega)
      clear hr
      go_wp2_with (first | (refine wpList_load_row rfl 23 _ rfl (w.heap.size + 1 + 1) rfl 23 _ (0, 0) _ hr2.out Tryz.underlying23 rfl (info_key _) ?_) | (refine wpList_store_row rfl 23 _ _ rfl (w.heap.size + 1) (rowOf 16 (w8 f)) rfl rfl 23 _ hq.out (info_key _) (by rw [rowOf_size, rowOf_size]) (rowOf_cells8 _ _) ?_))
      refine bodyPost_ret (v := .agg (rowOf 16 (w8 f))) ?_ rfl ⟨rfl, below_setRow' (b0.trans (hbl.mono (by omega))) (by omega) _⟩
      exact results_cell_row Tryz.results38 _ _ (w.heap.size + 1) 23 (rowOf 16 (w8 f)) (0, 0) _ rfl (hq.out.setRow _) Tryz.underlying23 rfl (info_key _)

end Go.Proofs.YtacekpjkgkkekaaGreatDoor
/-
  Contract: the document's Mac.
-/
namespace Go.Proofs.YtacekpjkgkkekaaGreatDoor
open Go.RowKit

theorem blockN_short (key : List UInt8) (h : key.length ≤ 64) : byteL key = blockN key := by unfold blockN; rw [if_pos h]
theorem blockN_long (key : List UInt8) (h : ¬ key.length ≤ 64) : byteL (listB 32 (sumN key)) = blockN key := by
  funext j
  rw [byteL_listB _ _ (sumN_bytes key)]
  unfold blockN
  rw [if_neg h]

set_option maxHeartbeats 1000000 in
set_option maxRecDepth 8000 in
theorem refMac_short (key : ByteArray) (hk : key.size ≤ 64) (s : ByteArray) (hs : s.size ≤ 90000) (w : World) :
    Calls Tryz.prog 27 #[.string key, .string s] w fun e w' => e = .returned (.agg (rowOf 32 (w8 (macN key.data.toList s.data.toList)))) ∧ Below w.heap.size w w' := by
  have hL : key.data.toList.length = key.size := by simp
  have d : decide ((64 : Int) < (key.size : Int)) = false := decide_eq_false (by omega)
  have HB := Lib.hid (blockN_short key.data.toList (by omega))
  clear hL
  have r0 : Hid (RowAt (w.alloc (.cells (rowOf 32 (w8 zeroN)) 43)) w.heap.size 43 (rowOf 32 (w8 zeroN))) := RowAt.new _ _ _
  have b0 : Below w.heap.size w (w.alloc (.cells (rowOf 32 (w8 zeroN)) 43)) := (Below.refl _ _).alloc (Nat.le_refl _) _
  rw [z8_32] at r0 b0
  go_enter Tryz.func27, Tryz.ntmps27
  have l54 : (mixL (byteL key.data.toList) 54).length = 64 := listB_length _ _
  have l92 : (mixL (byteL key.data.toList) 92).length = 64 := listB_length _ _
  have s54 : (bs (mixL (byteL key.data.toList) 54)).size = 64 := by rw [bs_size, l54]
  have s92 : (bs (mixL (byteL key.data.toList) 92)).size = 64 := by rw [bs_size, l92]
  have E54 : Hid ((bs (mixL (byteL key.data.toList) 54) ++ s).data.toList = mixL (blockN key.data.toList) 54 ++ s.data.toList) := by unfold Hid; rw [bs_append, HB.out]; rfl
  have z54 : (bs (mixL (byteL key.data.toList) 54) ++ s).size ≤ 100000 := by rw [ByteArray.size_append]; omega
  have M92 : Hid (∀ w', Calls Tryz.prog 40 #[.string key, .int .u8 92] w' fun e w'' => e = .returned (.string (bs (mixL (byteL key.data.toList) 92))) ∧ Below w'.heap.size w' w'') := fun w' => refMixed_any key 92 (by decide) w'
  have E92 : Hid (∀ y, (bs (mixL (byteL key.data.toList) 92) ++ bs (listB 32 y)).data.toList = mixL (blockN key.data.toList) 92 ++ listB 32 y) := by intro y; rw [bs_append, HB.out]; rfl
  clear HB l54 l92
  go_wp2_with fail
  refine (refMixed_any key 54 (by decide) _).mono ?_
  rw [← z8_32] at r0 b0
  rintro e w2 ⟨rfl, hb2⟩
  replace r0 : Hid (RowAt w2 w.heap.size 43 (rowOf 32 (w8 zeroN))) := r0.out.below hb2 r0.out.lt
  replace b0 : Below w.heap.size w w2 := b0.trans (hb2.mono b0.size)
  clear hb2
  generalize bs (mixL (byteL key.data.toList) 54) = m5 at *
  generalize bs (mixL (byteL key.data.toList) 92) = m9 at *
  have ns : ¬ 9223372036854775807 < m5.size + s.size := by omega
  go_wp2_with fail
  refine (refSum_any (m5 ++ s) z54 _).mono ?_
  rintro e w4 ⟨rfl, hb4⟩
  replace r0 : Hid (RowAt w4 w.heap.size 43 (rowOf 32 (w8 zeroN))) := r0.out.below hb4 r0.out.lt
  replace b0 : Below w.heap.size w w4 := b0.trans (hb4.mono b0.size)
  clear hb4 ns
  rw [E54.out]
  have hY := Lib.hid (sumN_bytes (mixL (blockN key.data.toList) 54 ++ s.data.toList))
  have E : Hid (macN key.data.toList s.data.toList = sumN (mixL (blockN key.data.toList) 92 ++ listB 32 (sumN (mixL (blockN key.data.toList) 54 ++ s.data.toList)))) := rfl
  generalize sumN (mixL (blockN key.data.toList) 54 ++ s.data.toList) = y at *
  have hpq : w.heap.size < w4.heap.size := r0.out.lt
  go_wp2_with (refine wpList_store_row rfl 43 _ _ rfl w4.heap.size (rowOf 32 (w8 y)) rfl rfl 43 _ (RowAt.new _ _ _) (info_hash _) (by rw [rowOf_size]; rfl) (rowOf_cells8 _ _) ?_; rw [World.setRow_alloc_new]; have r1 := Lib.hid (RowAt.new w4 43 (rowOf 32 (w8 y))); replace r0 := Lib.hid (r0.out.alloc (.cells (rowOf 32 (w8 y)) 43)); replace b0 := b0.alloc b0.size (.cells (rowOf 32 (w8 y)) 43); generalize w4.alloc _ = w5 at *; generalize w4.heap.size = q at *)
  simp only [Act.put]
  have sl := run_slice_all (P := Tryz.prog) Tryz.underlying43 sz8 q
  have cv : Hid (∀ w', RowAt w' q 43 (rowOf 32 (w8 y)) → (convert 45 9 (.slice (some ⟨q, 0, none⟩) 32 32)).run Tryz.prog w' = .ok (.string (bs (listB 32 y))) w') :=
    fun w' hr => block_string hY.out Tryz.underlying45 Tryz.underlying5 Tryz.underlying9 hr
  have s32 : (bs (listB 32 y)).size = 32 := by rw [bs_size, listB_length]
  have S2 : Hid (∀ w', Calls Tryz.prog 39 #[.string (m9 ++ bs (listB 32 y))] w' fun e w'' => e = .returned (.agg (rowOf 32 (w8 (sumN (mixL (blockN key.data.toList) 92 ++ listB 32 y))))) ∧ Below w'.heap.size w' w'') := by
    intro w'
    have h := refSum_any (m9 ++ bs (listB 32 y)) (by rw [ByteArray.size_append]; omega) w'
    rw [E92.out] at h
    exact h
  generalize sumN (mixL (blockN key.data.toList) 92 ++ listB 32 y) = z at *
  generalize bs (listB 32 y) = h9 at *
  have ns : ¬ 9223372036854775807 < m9.size + h9.size := by omega
  have HC : MacC w w.heap.size q y w5.drew := ⟨b0.drew, r1.out, zeroN, r0.out⟩
  clear b0 r0 r1 hY E92 E54
  refine wp_region_firm (MacC w w.heap.size q y) [eqv (.string key), eqv (.string m9), eqv (.slice (some ⟨q, 0, none⟩) 32 32), eqv (.string h9), eqv (.string (m9 ++ h9)), eqv (.agg (rowOf 32 (w8 z))), rowv w.heap.size 43 (rowOf 32 (w8 z))] (by kernel_rfl) (by kernel_rfl) HC
    (.cons (steady_eqv _) (.cons (steady_eqv _) (.cons (steady_eqv _) (.cons (steady_eqv _) (.cons (steady_eqv _) (.cons (steady_eqv _) (.cons (steady_rowv _ _ _) .nil))))))) w.heap.size (rowOf 32 (w8 z))
    (fun w' hC => by
      obtain ⟨_, _, f, h3⟩ := hC
      exact .cons (fun _ h => h) (.cons (fun _ h => h) (.cons (fun _ h => h) (.cons (fun _ h => h) (.cons (fun _ h => h) (.cons (fun _ h => h) (.cons (fun _ _ => h3.setRow _) (.nil _ _))))))))
    ?_
  intro R hR hF
  refine wpRely_cons (fun w' hC hf => ?_) (fun v0 => ?_)
  · exact grows_eqv (by rfl) hC (by go_simp)
  simp only [Act.put, List.setIfInBounds_toArray, List.set_cons_succ, List.set_cons_zero]
  refine wpRely_cons (fun w' hC hf => ?_) (fun v1 => ?_)
  · obtain ⟨rfl, _⟩ := hf
    exact grows_calls hR (fun _ _ hb h => h.after hb) hC (by rfl) (by go_simp) (M92.out w')
  simp only [Act.put, List.setIfInBounds_toArray, List.set_cons_succ, List.set_cons_zero]
  refine wpRely_cons (fun w' hC hf => ?_) (fun v2 => ?_)
  · exact grows_eqv (by rfl) hC (by go_simp)
  simp only [Act.put, List.setIfInBounds_toArray, List.set_cons_succ, List.set_cons_zero]
  refine wpRely_cons (fun w' hC hf => ?_) (fun v3 => ?_)
  · obtain ⟨rfl, _⟩ := hf
    have cw := cv.out w' hC.2.1
    exact grows_eqv (by rfl) hC (by go_simp)
  simp only [Act.put, List.setIfInBounds_toArray, List.set_cons_succ, List.set_cons_zero]
  refine wpRely_cons (fun w' hC hf => ?_) (fun v4 => ?_)
  · obtain ⟨rfl, rfl, _⟩ := hf
    exact grows_eqv (by rfl) hC (by go_simp)
  simp only [Act.put, List.setIfInBounds_toArray, List.set_cons_succ, List.set_cons_zero]
  refine wpRely_cons (fun w' hC hf => ?_) (fun v5 => ?_)
  · obtain ⟨rfl, _⟩ := hf
    exact grows_calls hR (fun _ _ hb h => h.after hb) hC (by rfl) (by go_simp) (S2.out w')
  simp only [Act.put, List.setIfInBounds_toArray, List.set_cons_succ, List.set_cons_zero]
  refine wpRely_cons (fun w' hC hf => ?_) (fun v6 => ?_)
  · obtain ⟨rfl, _⟩ := hf
    obtain ⟨f, h3⟩ := hC.2.2
    exact grows_store (by rfl) rfl rfl rfl h3 (info_hash _) (by rw [rowOf_size, rowOf_size]) (rowOf_cells8 _ _) (MacC.store z (by omega) hC) (hF w' hC)
  simp only [Act.put]
  refine wpRely_nil fun w9 hC hf => ?_
  obtain ⟨_, _, _, _, _, _, h6, _⟩ := hf
  have b9 := hC.1
  clear M92 S2 cv hC hF ns
  go_wp2
  refine bodyPost_ret (v := .agg (rowOf 32 (w8 z))) ?_ rfl ⟨by rw [E.out], b9⟩
  exact results_cell_row Tryz.results27 _ _ w.heap.size 43 (rowOf 32 (w8 z)) (0, 0) _ rfl h6 Tryz.underlying43 rfl (info_hash _)

set_option maxHeartbeats 1000000 in
set_option maxRecDepth 8000 in
theorem refMac_long (key : ByteArray) (hk : 64 < key.size) (hk2 : key.size ≤ 90000) (s : ByteArray) (hs : s.size ≤ 90000) (w : World) :
    Calls Tryz.prog 27 #[.string key, .string s] w fun e w' => e = .returned (.agg (rowOf 32 (w8 (macN key.data.toList s.data.toList)))) ∧ Below w.heap.size w w' := by
  have hL : key.data.toList.length = key.size := by simp
  have d : decide ((64 : Int) < (key.size : Int)) = true := decide_eq_true (by omega)
  have HB' := Lib.hid (blockN_long key.data.toList (by omega))
  clear hL
  have r0 : Hid (RowAt (w.alloc (.cells (rowOf 32 (w8 zeroN)) 43)) w.heap.size 43 (rowOf 32 (w8 zeroN))) := RowAt.new _ _ _
  have b0 : Below w.heap.size w (w.alloc (.cells (rowOf 32 (w8 zeroN)) 43)) := (Below.refl _ _).alloc (Nat.le_refl _) _
  rw [z8_32] at r0 b0
  go_enter Tryz.func27, Tryz.ntmps27
  go_wp2_with fail
  refine (refSum_any key (by omega) _).mono ?_
  rw [← z8_32] at r0 b0
  rintro e w1 ⟨rfl, hb1⟩
  replace r0 : Hid (RowAt w1 w.heap.size 43 (rowOf 32 (w8 zeroN))) := r0.out.below hb1 r0.out.lt
  replace b0 : Below w.heap.size w w1 := b0.trans (hb1.mono b0.size)
  clear hb1
  have hU := Lib.hid (sumN_bytes key.data.toList)
  generalize sumN key.data.toList = u at *
  go_wp2_with (refine wpList_store_row rfl 43 _ _ rfl w1.heap.size (rowOf 32 (w8 u)) rfl rfl 43 _ (RowAt.new _ _ _) (info_hash _) (by rw [rowOf_size]; rfl) (rowOf_cells8 _ _) ?_; rw [World.setRow_alloc_new]; have r1 := Lib.hid (RowAt.new w1 43 (rowOf 32 (w8 u))); replace r0 := Lib.hid (r0.out.alloc (.cells (rowOf 32 (w8 u)) 43)); replace b0 := b0.alloc b0.size (.cells (rowOf 32 (w8 u)) 43); generalize w1.alloc _ = w3 at *; generalize w1.heap.size = q1 at *; have sl1 := run_slice_all (P := Tryz.prog) Tryz.underlying43 sz8 q1; have cv1 : (convert 45 9 (.slice (some ⟨q1, 0, none⟩) 32 32)).run Tryz.prog w3 = .ok (.string (bs (listB 32 u))) w3 := block_string hU.out Tryz.underlying45 Tryz.underlying5 Tryz.underlying9 r1.out; have HB : Hid (byteL (bs (listB 32 u)).data.toList = blockN key.data.toList) := HB'.out; generalize bs (listB 32 u) = key2 at *; clear r1 HB' hU)
  have l54 : (mixL (byteL key2.data.toList) 54).length = 64 := listB_length _ _
  have l92 : (mixL (byteL key2.data.toList) 92).length = 64 := listB_length _ _
  have s54 : (bs (mixL (byteL key2.data.toList) 54)).size = 64 := by rw [bs_size, l54]
  have s92 : (bs (mixL (byteL key2.data.toList) 92)).size = 64 := by rw [bs_size, l92]
  have E54 : Hid ((bs (mixL (byteL key2.data.toList) 54) ++ s).data.toList = mixL (blockN key.data.toList) 54 ++ s.data.toList) := by unfold Hid; rw [bs_append, HB.out]; rfl
  have z54 : (bs (mixL (byteL key2.data.toList) 54) ++ s).size ≤ 100000 := by rw [ByteArray.size_append]; omega
  have M92 : Hid (∀ w', Calls Tryz.prog 40 #[.string key2, .int .u8 92] w' fun e w'' => e = .returned (.string (bs (mixL (byteL key2.data.toList) 92))) ∧ Below w'.heap.size w' w'') := fun w' => refMixed_any key2 92 (by decide) w'
  have E92 : Hid (∀ y, (bs (mixL (byteL key2.data.toList) 92) ++ bs (listB 32 y)).data.toList = mixL (blockN key.data.toList) 92 ++ listB 32 y) := by intro y; rw [bs_append, HB.out]; rfl
  clear HB l54 l92
  refine (refMixed_any key2 54 (by decide) _).mono ?_
  rintro e w2 ⟨rfl, hb2⟩
  replace r0 : Hid (RowAt w2 w.heap.size 43 (rowOf 32 (w8 zeroN))) := r0.out.below hb2 r0.out.lt
  replace b0 : Below w.heap.size w w2 := b0.trans (hb2.mono b0.size)
  clear hb2
  generalize bs (mixL (byteL key2.data.toList) 54) = m5 at *
  generalize bs (mixL (byteL key2.data.toList) 92) = m9 at *
  have ns : ¬ 9223372036854775807 < m5.size + s.size := by omega
  go_wp2_with fail
  refine (refSum_any (m5 ++ s) z54 _).mono ?_
  rintro e w4 ⟨rfl, hb4⟩
  replace r0 : Hid (RowAt w4 w.heap.size 43 (rowOf 32 (w8 zeroN))) := r0.out.below hb4 r0.out.lt
  replace b0 : Below w.heap.size w w4 := b0.trans (hb4.mono b0.size)
  clear hb4 ns
  rw [E54.out]
  have hY := Lib.hid (sumN_bytes (mixL (blockN key.data.toList) 54 ++ s.data.toList))
  have E : Hid (macN key.data.toList s.data.toList = sumN (mixL (blockN key.data.toList) 92 ++ listB 32 (sumN (mixL (blockN key.data.toList) 54 ++ s.data.toList)))) := rfl
  generalize sumN (mixL (blockN key.data.toList) 54 ++ s.data.toList) = y at *
  have hpq : w.heap.size < w4.heap.size := r0.out.lt
  go_wp2_with (refine wpList_store_row rfl 43 _ _ rfl w4.heap.size (rowOf 32 (w8 y)) rfl rfl 43 _ (RowAt.new _ _ _) (info_hash _) (by rw [rowOf_size]; rfl) (rowOf_cells8 _ _) ?_; rw [World.setRow_alloc_new]; have r1 := Lib.hid (RowAt.new w4 43 (rowOf 32 (w8 y))); replace r0 := Lib.hid (r0.out.alloc (.cells (rowOf 32 (w8 y)) 43)); replace b0 := b0.alloc b0.size (.cells (rowOf 32 (w8 y)) 43); generalize w4.alloc _ = w5 at *; generalize w4.heap.size = q at *)
  simp only [Act.put]
  have sl := run_slice_all (P := Tryz.prog) Tryz.underlying43 sz8 q
  have cv : Hid (∀ w', RowAt w' q 43 (rowOf 32 (w8 y)) → (convert 45 9 (.slice (some ⟨q, 0, none⟩) 32 32)).run Tryz.prog w' = .ok (.string (bs (listB 32 y))) w') :=
    fun w' hr => block_string hY.out Tryz.underlying45 Tryz.underlying5 Tryz.underlying9 hr
  have s32 : (bs (listB 32 y)).size = 32 := by rw [bs_size, listB_length]
  have S2 : Hid (∀ w', Calls Tryz.prog 39 #[.string (m9 ++ bs (listB 32 y))] w' fun e w'' => e = .returned (.agg (rowOf 32 (w8 (sumN (mixL (blockN key.data.toList) 92 ++ listB 32 y))))) ∧ Below w'.heap.size w' w'') := by
    intro w'
    have h := refSum_any (m9 ++ bs (listB 32 y)) (by rw [ByteArray.size_append]; omega) w'
    rw [E92.out] at h
    exact h
  generalize sumN (mixL (blockN key.data.toList) 92 ++ listB 32 y) = z at *
  generalize bs (listB 32 y) = h9 at *
  have ns : ¬ 9223372036854775807 < m9.size + h9.size := by omega
  have HC : MacC w w.heap.size q y w5.drew := ⟨b0.drew, r1.out, zeroN, r0.out⟩
  clear b0 r0 r1 hY E92 E54
  refine wp_region_firm (MacC w w.heap.size q y) [eqv (.string key2), eqv (.string m9), eqv (.slice (some ⟨q, 0, none⟩) 32 32), eqv (.string h9), eqv (.string (m9 ++ h9)), eqv (.agg (rowOf 32 (w8 z))), rowv w.heap.size 43 (rowOf 32 (w8 z))] (by kernel_rfl) (by kernel_rfl) HC
    (.cons (steady_eqv _) (.cons (steady_eqv _) (.cons (steady_eqv _) (.cons (steady_eqv _) (.cons (steady_eqv _) (.cons (steady_eqv _) (.cons (steady_rowv _ _ _) .nil))))))) w.heap.size (rowOf 32 (w8 z))
    (fun w' hC => by
      obtain ⟨_, _, f, h3⟩ := hC
      exact .cons (fun _ h => h) (.cons (fun _ h => h) (.cons (fun _ h => h) (.cons (fun _ h => h) (.cons (fun _ h => h) (.cons (fun _ h => h) (.cons (fun _ _ => h3.setRow _) (.nil _ _))))))))
    ?_
  intro R hR hF
  refine wpRely_cons (fun w' hC hf => ?_) (fun v0 => ?_)
  · exact grows_eqv (by rfl) hC (by go_simp)
  simp only [Act.put, List.setIfInBounds_toArray, List.set_cons_succ, List.set_cons_zero]
  refine wpRely_cons (fun w' hC hf => ?_) (fun v1 => ?_)
  · obtain ⟨rfl, _⟩ := hf
    exact grows_calls hR (fun _ _ hb h => h.after hb) hC (by rfl) (by go_simp) (M92.out w')
  simp only [Act.put, List.setIfInBounds_toArray, List.set_cons_succ, List.set_cons_zero]
  refine wpRely_cons (fun w' hC hf => ?_) (fun v2 => ?_)
  · exact grows_eqv (by rfl) hC (by go_simp)
  simp only [Act.put, List.setIfInBounds_toArray, List.set_cons_succ, List.set_cons_zero]
  refine wpRely_cons (fun w' hC hf => ?_) (fun v3 => ?_)
  · obtain ⟨rfl, _⟩ := hf
    have cw := cv.out w' hC.2.1
    exact grows_eqv (by rfl) hC (by go_simp)
  simp only [Act.put, List.setIfInBounds_toArray, List.set_cons_succ, List.set_cons_zero]
  refine wpRely_cons (fun w' hC hf => ?_) (fun v4 => ?_)
  · obtain ⟨rfl, rfl, _⟩ := hf
    exact grows_eqv (by rfl) hC (by go_simp)
  simp only [Act.put, List.setIfInBounds_toArray, List.set_cons_succ, List.set_cons_zero]
  refine wpRely_cons (fun w' hC hf => ?_) (fun v5 => ?_)
  · obtain ⟨rfl, _⟩ := hf
    exact grows_calls hR (fun _ _ hb h => h.after hb) hC (by rfl) (by go_simp) (S2.out w')
  simp only [Act.put, List.setIfInBounds_toArray, List.set_cons_succ, List.set_cons_zero]
  refine wpRely_cons (fun w' hC hf => ?_) (fun v6 => ?_)
  · obtain ⟨rfl, _⟩ := hf
    obtain ⟨f, h3⟩ := hC.2.2
    exact grows_store (by rfl) rfl rfl rfl h3 (info_hash _) (by rw [rowOf_size, rowOf_size]) (rowOf_cells8 _ _) (MacC.store z (by omega) hC) (hF w' hC)
  simp only [Act.put]
  refine wpRely_nil fun w9 hC hf => ?_
  obtain ⟨_, _, _, _, _, _, h6, _⟩ := hf
  have b9 := hC.1
  clear M92 S2 cv hC hF ns
  go_wp2
  refine bodyPost_ret (v := .agg (rowOf 32 (w8 z))) ?_ rfl ⟨by rw [E.out], b9⟩
  exact results_cell_row Tryz.results27 _ _ w.heap.size 43 (rowOf 32 (w8 z)) (0, 0) _ rfl h6 Tryz.underlying43 rfl (info_hash _)

theorem refMac_any (key : ByteArray) (hk : key.size ≤ 90000) (s : ByteArray) (hs : s.size ≤ 90000) (w : World) :
    Calls Tryz.prog 27 #[.string key, .string s] w fun e w' => e = .returned (.agg (rowOf 32 (w8 (macN key.data.toList s.data.toList)))) ∧ Below w.heap.size w w' := by
  by_cases h : key.size ≤ 64
  · exact refMac_short key h s hs w
  · exact refMac_long key (by omega) hk s hs w

end Go.Proofs.YtacekpjkgkkekaaGreatDoor
/-
  A number in eight bytes.
-/
namespace Go.Proofs.YtacekpjkgkkekaaGreatDoor
open Go.RowKit

theorem numS_8 (n : Nat) (hn : n < 18446744073709551616) : numS (n : Int) 8 = bs (numB 8 n) ∧ numE (n : Int) 8 = 0 := by
  have h : (1 : Int) ≤ 8 ∧ (8 : Int) ≤ 8 ∧ fitsB (n : Int) 8 = true := ⟨by decide, by decide, fits_8 _ (by omega)⟩
  unfold numS numE
  rw [if_pos h, if_pos h]
  exact ⟨rfl, rfl⟩

end Go.Proofs.YtacekpjkgkkekaaGreatDoor
/-
  Contracts: Derive, the document's Derive, Same, shown.
-/
namespace Go.Proofs.YtacekpjkgkkekaaGreatDoor
open Go.RowKit

/-- The byte of how long a text is. -/
def lenB (label : ByteArray) : ByteArray := bs (listB 1 fun _ => label.size % 256)

theorem lenB_data (label : ByteArray) : (lenB label).data.toList = [UInt8.ofNat (label.size % 256)] := rfl
theorem lenB_size (label : ByteArray) : (lenB label).size = 1 := rfl

/-- The bytes of a key that is derived. -/
def deriveN (k : Nat → Nat) (label : ByteArray) (n : Nat) : Nat → Nat := macN (listB 16 k) ((lenB label).data.toList ++ (label.data.toList ++ numB 8 n))

theorem len_mod (n : Nat) : ((n : Int) % 256) = ((n % 256 : Nat) : Int) := rfl

theorem joinTo_three (a b c : ByteArray) : joinTo [a, b, c] 3 = a.data.toList ++ (b.data.toList ++ c.data.toList) := by simp [joinTo]

theorem len_bytes (n : Nat) : Bytes (fun _ => n % 256) := fun _ => Nat.mod_lt _ (by decide)

set_option maxHeartbeats 1000000 in
set_option maxRecDepth 8000 in
theorem derive_any (k : Nat → Nat) (hkb : Hid (Bytes k)) (label : ByteArray) (hl : label.size ≤ 100000) (n : Nat) (hn : Hid (n < 18446744073709551616)) (w : World) (hk : Hid (KRow w)) :
    Calls Tryz.prog 19 #[.agg (rowOf 16 (w8 k)), .string label, .int .u64 (n : Int)] w fun e w' => e = .returned (.agg (rowOf 16 (w8 (deriveN k label n)))) ∧ Below w.heap.size w w' := by
  have hL : label.data.toList.length = label.size := by simp
  have HL := Lib.hid hL
  have a0 : Hid (RowAt (((w.alloc (.cells (rowOf 16 (w8 k)) 23)).alloc (.cells (rowOf 16 (w8 zeroN)) 23)).alloc (.cells #[.int .u8 ((label.size : Int) % 256)] 5)) w.heap.size 23 (rowOf 16 (w8 k))) := ((RowAt.new _ _ _).alloc _).alloc _
  have a1 : Hid (RowAt (((w.alloc (.cells (rowOf 16 (w8 k)) 23)).alloc (.cells (rowOf 16 (w8 zeroN)) 23)).alloc (.cells #[.int .u8 ((label.size : Int) % 256)] 5)) (w.heap.size + 1) 23 (rowOf 16 (w8 zeroN))) := row_new1 w _ _ _ _
  have a2 : RowAt (((w.alloc (.cells (rowOf 16 (w8 k)) 23)).alloc (.cells (rowOf 16 (w8 zeroN)) 23)).alloc (.cells #[.int .u8 ((label.size : Int) % 256)] 5)) (w.heap.size + 1 + 1) 5 (rowOf 1 (w8 fun _ => label.size % 256)) := row_new2 w _ _ _ _
  have b0 : Below w.heap.size w (((w.alloc (.cells (rowOf 16 (w8 k)) 23)).alloc (.cells (rowOf 16 (w8 zeroN)) 23)).alloc (.cells #[.int .u8 ((label.size : Int) % 256)] 5)) := (((Below.refl _ _).alloc (Nat.le_refl _) _).alloc (by simp) _).alloc (by simp; omega) _
  have cv : (convert 45 9 (.slice (some ⟨w.heap.size + 1 + 1, 0, none⟩) 1 1)).run Tryz.prog _ = .ok (.string (lenB label)) _ := block_string (len_bytes label.size) Tryz.underlying45 Tryz.underlying5 Tryz.underlying9 a2
  clear a2 hL
  rw [z8_16] at a0 a1 b0 cv
  go_enter Tryz.func19, Tryz.ntmps19
  go_wp2_with fail
  rw [← z8_16] at a0 a1 b0
  rw [← z8_16]
  generalize ((w.alloc (.cells (rowOf 16 (w8 k)) 23)).alloc (.cells (rowOf 16 (w8 zeroN)) 23)).alloc (.cells #[.int .u8 ((label.size : Int) % 256)] 5) = w1 at *
  clear cv
  refine (number_yes (n : Int) 8 (by omega) (by have := hn.out; unfold Hid; omega) (by decide) (by decide) (fits_8 _ (by have := hn.out; omega)) w1).mono ?_
  rintro e w2 ⟨rfl, hb2⟩
  replace a0 : Hid (RowAt w2 w.heap.size 23 (rowOf 16 (w8 k))) := a0.out.below hb2 a0.out.lt
  replace a1 : Hid (RowAt w2 (w.heap.size + 1) 23 (rowOf 16 (w8 zeroN))) := a1.out.below hb2 a1.out.lt
  replace b0 : Below w.heap.size w w2 := b0.trans (hb2.mono b0.size)
  clear hb2
  have e8 : bs (numB (8 : Int).toNat (n : Int).toNat) = bs (numB 8 n) := rfl
  rw [e8]
  clear e8
  have sl := run_slice_all (P := Tryz.prog) Tryz.underlying23 sz8 w.heap.size
  have cv : (convert 45 9 (.slice (some ⟨w.heap.size, 0, none⟩) 16 16)).run Tryz.prog w2 = .ok (.string (bs (listB 16 k))) w2 := block_string hkb.out Tryz.underlying45 Tryz.underlying5 Tryz.underlying9 a0.out
  have E : Hid (deriveN k label n = macN (listB 16 k) ((lenB label).data.toList ++ (label.data.toList ++ numB 8 n))) := rfl
  have b3 : Below w2.heap.size w2 (w2.alloc (.cells #[.string (lenB label), .string label, .string (bs (numB 8 n))] 9)) := (Below.refl _ _).alloc (Nat.le_refl _) _
  have r3 : Hid (RowAt (w2.alloc (.cells #[.string (lenB label), .string label, .string (bs (numB 8 n))] 9)) w2.heap.size 9 ([lenB label, label, bs (numB 8 n)].map Value.string).toArray) := RowAt.new w2 9 _
  replace b0 := b0.trans (b3.mono b0.size)
  replace a1 := Lib.hid (a1.out.below b3 a1.out.lt)
  have M := Lib.hid (mac_any (bs (listB 16 k)) (by rw [bs_size, listB_length]; decide) (some ⟨w2.heap.size, 0, none⟩) 3 (fun h => by cases h) [lenB label, label, bs (numB 8 n)] (by simp) (by
    unfold Hid
    show (joinTo [lenB label, label, bs (numB 8 n)] 3).length ≤ _
    rw [joinTo_three, List.length_append, List.length_append]
    show 1 + (_ + (numB 8 n).length) ≤ _
    rw [numB_length, HL.out]
    omega) _ (hk.out.below b0 hk.out.1 b0.size) (sees_row r3.out))
  rw [show [lenB label, label, bs (numB 8 n)].length = 3 from rfl, joinTo_three] at M
  have E2 : Hid (macN (bs (listB 16 k)).data.toList ((lenB label).data.toList ++ (label.data.toList ++ (bs (numB 8 n)).data.toList)) = deriveN k label n) := rfl
  rw [E2.out] at M
  clear E2 E b3 r3 HL hk hn hkb
  generalize lenB label = lb at *
  generalize bs (numB 8 n) = nb at *
  generalize bs (listB 16 k) = kb at *
  obtain ⟨z, hz⟩ : ∃ z, deriveN k label n = z := ⟨_, rfl⟩
  rw [hz] at M
  have HZ := Lib.hid hz
  clear hz
  go_wp2_with fail
  generalize w2.alloc (.cells #[.string lb, .string label, .string nb] 9) = w3 at *
  refine M.out.mono ?_
  rintro e w4 ⟨rfl, hb4⟩
  replace a1 : Hid (RowAt w4 (w.heap.size + 1) 23 (rowOf 16 (w8 zeroN))) := a1.out.below hb4 a1.out.lt
  replace b0 : Below w.heap.size w w4 := b0.trans (hb4.mono b0.size)
  clear hb4 M cv sl a0
  go_wp2_with fail
  refine (short_any z w4).mono ?_
  rintro e w5 ⟨rfl, hb5⟩
  replace a1 : Hid (RowAt w5 (w.heap.size + 1) 23 (rowOf 16 (w8 zeroN))) := a1.out.below hb5 a1.out.lt
  replace b0 : Below w.heap.size w w5 := b0.trans (hb5.mono b0.size)
  clear hb5
  go_wp2_with (refine wpList_store_row rfl 23 _ _ rfl (w.heap.size + 1) (rowOf 16 (w8 z)) rfl rfl 23 _ a1.out (info_key _) (by rw [rowOf_size, rowOf_size]) (rowOf_cells8 _ _) ?_)
  refine bodyPost_ret (v := .agg (rowOf 16 (w8 z))) ?_ rfl ⟨by rw [HZ.out], below_setRow' b0 (by omega) _⟩
  exact results_cell_row Tryz.results19 _ _ (w.heap.size + 1) 23 (rowOf 16 (w8 z)) (0, 0) _ rfl (a1.out.setRow _) Tryz.underlying23 rfl (info_key _)

/-- What stays while the document's key is derived. -/
def DerC (w : World) (p : Nat) (k : Nat → Nat) (w' : World) : Prop := Below p w w' ∧ RowAt w' p 23 (rowOf 16 (w8 k)) ∧ ∃ f, RowAt w' (p + 1) 23 (rowOf 16 (w8 f))

theorem DerC.after {w w1 w2 : World} {p : Nat} {k : Nat → Nat} (hb : Below w1.heap.size w1 w2) (h : DerC w p k w1) : DerC w p k w2 := by
  obtain ⟨h1, h2, f, h3⟩ := h
  exact ⟨h1.trans (hb.mono (Nat.le_of_lt h2.lt)), h2.below hb h2.lt, f, h3.below hb h3.lt⟩

theorem DerC.store {w w1 : World} {p : Nat} {k : Nat → Nat} (z : Nat → Nat) (h : DerC w p k w1) : DerC w p k (w1.setRow (p + 1) (rowOf 16 (w8 z))) := by
  obtain ⟨h1, h2, f, h3⟩ := h
  exact ⟨below_setRow' h1 (by omega) _, h2.setRowOther _ _ (by omega), z, h3.setRow _⟩

set_option maxHeartbeats 1000000 in
set_option maxRecDepth 8000 in
theorem refDerive_any (k : Nat → Nat) (hkb : Hid (Bytes k)) (label : ByteArray) (hl : label.size ≤ 80000) (n : Nat) (hn : Hid (n < 18446744073709551616)) (w : World) :
    Calls Tryz.prog 26 #[.agg (rowOf 16 (w8 k)), .string label, .int .u64 (n : Int)] w fun e w' => e = .returned (.agg (rowOf 16 (w8 (deriveN k label n)))) ∧ Below w.heap.size w w' := by
  have a0 : Hid (RowAt ((w.alloc (.cells (rowOf 16 (w8 k)) 23)).alloc (.cells (rowOf 16 (w8 zeroN)) 23)) w.heap.size 23 (rowOf 16 (w8 k))) := (RowAt.new _ _ _).alloc _
  have a1 : Hid (RowAt ((w.alloc (.cells (rowOf 16 (w8 k)) 23)).alloc (.cells (rowOf 16 (w8 zeroN)) 23)) (w.heap.size + 1) 23 (rowOf 16 (w8 zeroN))) := row_second w _ _ _
  have b0 : Below w.heap.size w ((w.alloc (.cells (rowOf 16 (w8 k)) 23)).alloc (.cells (rowOf 16 (w8 zeroN)) 23)) := ((Below.refl _ _).alloc (Nat.le_refl _) _).alloc (by simp) _
  go_enter Tryz.func26, Tryz.ntmps26
  go_wp2_with fail
  rw [← z8_16]
  generalize (w.alloc (.cells (rowOf 16 (w8 k)) 23)).alloc (.cells (rowOf 16 (w8 zeroN)) 23) = w1 at *
  have N := Lib.hid (refNumber_any (n : Int) 8 (by omega) (by have := hn.out; unfold Hid; omega) w1)
  rw [(numS_8 n hn.out).1, (numS_8 n hn.out).2] at N
  refine N.out.mono ?_
  rintro e w2 ⟨rfl, hb2⟩
  replace a0 : Hid (RowAt w2 w.heap.size 23 (rowOf 16 (w8 k))) := a0.out.below hb2 a0.out.lt
  replace a1 : Hid (RowAt w2 (w.heap.size + 1) 23 (rowOf 16 (w8 zeroN))) := a1.out.below hb2 a1.out.lt
  replace b0 : Below w.heap.size w w2 := b0.trans (hb2.mono b0.size)
  clear hb2 N
  have nz : (bs (numB 8 n)).size = 8 := by rw [bs_size, numB_length]
  have kz : (bs (listB 16 k)).size = 16 := by rw [bs_size, listB_length]
  have lz := lenB_size label
  have E1 : Hid ((lenB label ++ label ++ bs (numB 8 n)).data.toList = (lenB label).data.toList ++ (label.data.toList ++ numB 8 n)) := by unfold Hid; rw [bs_append, bs_append, List.append_assoc]; rfl
  have M : Hid (∀ w', Calls Tryz.prog 27 #[.string (bs (listB 16 k)), .string (lenB label ++ label ++ bs (numB 8 n))] w' fun e w'' => e = .returned (.agg (rowOf 32 (w8 (deriveN k label n)))) ∧ Below w'.heap.size w' w'') := by
    intro w'
    have h := refMac_any (bs (listB 16 k)) (by omega) (lenB label ++ label ++ bs (numB 8 n)) (by rw [ByteArray.size_append, ByteArray.size_append]; omega) w'
    rw [E1.out] at h
    exact h
  obtain ⟨z, hz⟩ : ∃ z, deriveN k label n = z := ⟨_, rfl⟩
  rw [hz] at M
  have HZ := Lib.hid hz
  clear hz E1
  have Sh : Hid (∀ w', Calls Tryz.prog 38 #[.agg (rowOf 32 (w8 z))] w' fun e w'' => e = .returned (.agg (rowOf 16 (w8 z))) ∧ Below w'.heap.size w' w'') := fun w' => refShort_any z w'
  have sl := run_slice_all (P := Tryz.prog) Tryz.underlying23 sz8 w.heap.size
  have cv : Hid (∀ w', RowAt w' w.heap.size 23 (rowOf 16 (w8 k)) → (convert 45 9 (.slice (some ⟨w.heap.size, 0, none⟩) 16 16)).run Tryz.prog w' = .ok (.string (bs (listB 16 k))) w') :=
    fun w' hr => block_string hkb.out Tryz.underlying45 Tryz.underlying5 Tryz.underlying9 hr
  have cl : Hid (∀ w' q, RowAt w' q 5 #[.int .u8 ((label.size : Int) % 256)] → (convert 45 9 (.slice (some ⟨q, 0, none⟩) 1 1)).run Tryz.prog w' = .ok (.string (lenB label)) w') :=
    fun w' q hr => block_string (n := 1) (len_bytes label.size) Tryz.underlying45 Tryz.underlying5 Tryz.underlying9 hr
  have n1 : ¬ 9223372036854775807 < (lenB label).size + label.size := by omega
  have n2 : ¬ 9223372036854775807 < (lenB label ++ label).size + (bs (numB 8 n)).size := by rw [ByteArray.size_append]; omega
  clear nz kz lz
  generalize lenB label = lb at *
  generalize bs (numB 8 n) = nb at *
  generalize bs (listB 16 k) = kb at *
  generalize hlb : lb ++ label = lb2 at *
  generalize hlb3 : lb2 ++ nb = lb3 at *
  have HC : DerC w w.heap.size k w2.drew := ⟨b0.drew, a0.out, zeroN, a1.out⟩
  clear b0 a0 a1 hkb hn
  go_wp2
  refine wp_region_firm (DerC w w.heap.size k) [eqv (.slice (some ⟨w.heap.size, 0, none⟩) 16 16), eqv (.string kb), eqv (.string label), eqv (.int .i64 (label.size : Int)), eqv (.int .u8 ((label.size : Int) % 256)), heldv 5 1 #[.int .u8 ((label.size : Int) % 256)], eqv (.string lb), eqv (.string label), eqv (.string lb2), eqv (.string nb), eqv (.string lb3), eqv (.agg (rowOf 32 (w8 z))), eqv (.agg (rowOf 16 (w8 z))), rowv (w.heap.size + 1) 23 (rowOf 16 (w8 z))] (by kernel_rfl) (by kernel_rfl) HC
    (.cons (steady_eqv _) (.cons (steady_eqv _) (.cons (steady_eqv _) (.cons (steady_eqv _) (.cons (steady_eqv _) (.cons (steady_heldv _ _ _) (.cons (steady_eqv _) (.cons (steady_eqv _) (.cons (steady_eqv _) (.cons (steady_eqv _) (.cons (steady_eqv _) (.cons (steady_eqv _) (.cons (steady_eqv _) (.cons (steady_rowv _ _ _) .nil)))))))))))))) (w.heap.size + 1) (rowOf 16 (w8 z))
    (fun w' hC => by
      obtain ⟨_, _, f, h3⟩ := hC
      exact .cons (fun _ h => h) (.cons (fun _ h => h) (.cons (fun _ h => h) (.cons (fun _ h => h) (.cons (fun _ h => h) (.cons (fun _ h => heldv_firm h3 (by decide) h) (.cons (fun _ h => h) (.cons (fun _ h => h) (.cons (fun _ h => h) (.cons (fun _ h => h) (.cons (fun _ h => h) (.cons (fun _ h => h) (.cons (fun _ h => h) (.cons (fun _ _ => h3.setRow _) (.nil _ _)))))))))))))))
    ?_
  intro R hR hF
  refine wpRely_cons (fun w' hC hf => ?_) (fun v0 => ?_)
  · exact grows_eqv (by rfl) hC (by go_simp)
  simp only [Act.put, List.setIfInBounds_toArray, List.set_cons_succ, List.set_cons_zero]
  refine wpRely_cons (fun w' hC hf => ?_) (fun v1 => ?_)
  · obtain ⟨rfl, _⟩ := hf
    have cw := cv.out w' hC.2.1
    exact grows_eqv (by rfl) hC (by go_simp)
  simp only [Act.put, List.setIfInBounds_toArray, List.set_cons_succ, List.set_cons_zero]
  refine wpRely_cons (fun w' hC hf => ?_) (fun v2 => ?_)
  · exact grows_eqv (by rfl) hC (by go_simp)
  simp only [Act.put, List.setIfInBounds_toArray, List.set_cons_succ, List.set_cons_zero]
  refine wpRely_cons (fun w' hC hf => ?_) (fun v3 => ?_)
  · obtain ⟨rfl, _⟩ := hf
    exact grows_eqv (by rfl) hC (by go_simp)
  simp only [Act.put, List.setIfInBounds_toArray, List.set_cons_succ, List.set_cons_zero]
  refine wpRely_cons (fun w' hC hf => ?_) (fun v4 => ?_)
  · obtain ⟨rfl, _⟩ := hf
    exact grows_eqv (by rfl) hC (by go_simp; rw [IntKind.wrap_u8])
  simp only [Act.put, List.setIfInBounds_toArray, List.set_cons_succ, List.set_cons_zero]
  refine wpRely_cons (fun w' hC hf => ?_) (fun v5 => ?_)
  · obtain ⟨rfl, _⟩ := hf
    exact grows_held hR (fun _ _ hb h => h.after hb) hC (by rfl) (by go_simp)
  simp only [Act.put, List.setIfInBounds_toArray, List.set_cons_succ, List.set_cons_zero]
  refine wpRely_cons (fun w' hC hf => ?_) (fun v6 => ?_)
  · obtain ⟨⟨q, rfl, hq⟩, _⟩ := hf
    have cw := cl.out w' q hq
    exact grows_eqv (by rfl) hC (by go_simp)
  simp only [Act.put, List.setIfInBounds_toArray, List.set_cons_succ, List.set_cons_zero]
  refine wpRely_cons (fun w' hC hf => ?_) (fun v7 => ?_)
  · exact grows_eqv (by rfl) hC (by go_simp)
  simp only [Act.put, List.setIfInBounds_toArray, List.set_cons_succ, List.set_cons_zero]
  refine wpRely_cons (fun w' hC hf => ?_) (fun v8 => ?_)
  · obtain ⟨rfl, rfl, _⟩ := hf
    exact grows_eqv (by rfl) hC (by go_simp)
  simp only [Act.put, List.setIfInBounds_toArray, List.set_cons_succ, List.set_cons_zero]
  refine wpRely_cons (fun w' hC hf => ?_) (fun v9 => ?_)
  · exact grows_eqv (by rfl) hC (by go_simp)
  simp only [Act.put, List.setIfInBounds_toArray, List.set_cons_succ, List.set_cons_zero]
  refine wpRely_cons (fun w' hC hf => ?_) (fun v10 => ?_)
  · obtain ⟨rfl, rfl, _⟩ := hf
    exact grows_eqv (by rfl) hC (by go_simp)
  simp only [Act.put, List.setIfInBounds_toArray, List.set_cons_succ, List.set_cons_zero]
  refine wpRely_cons (fun w' hC hf => ?_) (fun v11 => ?_)
  · obtain ⟨rfl, rfl, _⟩ := hf
    exact grows_calls hR (fun _ _ hb h => h.after hb) hC (by rfl) (by go_simp) (M.out w')
  simp only [Act.put, List.setIfInBounds_toArray, List.set_cons_succ, List.set_cons_zero]
  refine wpRely_cons (fun w' hC hf => ?_) (fun v12 => ?_)
  · obtain ⟨rfl, _⟩ := hf
    exact grows_calls hR (fun _ _ hb h => h.after hb) hC (by rfl) (by go_simp) (Sh.out w')
  simp only [Act.put, List.setIfInBounds_toArray, List.set_cons_succ, List.set_cons_zero]
  refine wpRely_cons (fun w' hC hf => ?_) (fun v13 => ?_)
  · obtain ⟨rfl, _⟩ := hf
    obtain ⟨f, h3⟩ := hC.2.2
    exact grows_store (by rfl) rfl rfl rfl h3 (info_key _) (by rw [rowOf_size, rowOf_size]) (rowOf_cells8 _ _) (DerC.store z hC) (hF w' hC)
  simp only [Act.put]
  refine wpRely_nil fun w9 hC hf => ?_
  obtain ⟨_, _, _, _, _, _, _, _, _, _, _, _, _, h6, _⟩ := hf
  have b9 := hC.1
  clear M Sh cv cl hC hF n1 n2 hlb hlb3
  go_wp2
  refine bodyPost_ret (v := .agg (rowOf 16 (w8 z))) ?_ rfl ⟨by rw [HZ.out], b9⟩
  exact results_cell_row Tryz.results26 _ _ (w.heap.size + 1) 23 (rowOf 16 (w8 z)) (0, 0) _ rfl h6 Tryz.underlying23 rfl (info_key _)

end Go.Proofs.YtacekpjkgkkekaaGreatDoor
/-
  Layer 6's answers as plain functions: what a text is, sealed, and what bytes open to.
-/
namespace Go.Proofs.YtacekpjkgkkekaaGreatDoor
open Go.RowKit

def hideL : ByteArray := ⟨#[104, 105, 100, 101]⟩
def tagL : ByteArray := ⟨#[116, 97, 103]⟩

/-- The key that hides, and the key that closes. -/
def hkN (k : Nat → Nat) : Nat → Nat := deriveN k hideL 0
def tkN (k : Nat → Nat) : Nat → Nat := deriveN k tagL 0
theorem hkN_bytes (k : Nat → Nat) : Bytes (hkN k) := macN_bytes _ _
theorem tkN_bytes (k : Nat → Nat) : Bytes (tkN k) := macN_bytes _ _

/-- A text, hidden. -/
def hideS (key : Nat → Nat) (nonce : Nat) (s : ByteArray) : ByteArray := bs (listB s.size (hideN key nonce 0 s))
theorem hideS_size (key : Nat → Nat) (nonce : Nat) (s : ByteArray) : (hideS key nonce s).size = s.size := bs_listB_size _ _
theorem hideS_twice {key : Nat → Nat} (hk : Byt key) (nonce : Nat) (s : ByteArray) : hideS key nonce (hideS key nonce s) = s := by
  have h := hide_twice hk nonce 0 s
  unfold hideS
  rw [bs_listB_size]
  exact h

/-- The bytes of a tag: its whole sum, and the first 16 of it. -/
def tagN (key : Nat → Nat) (kind : Nat) (s : ByteArray) : Nat → Nat := macN (listB 16 key) (UInt8.ofNat kind :: s.data.toList)
def tagS (key : Nat → Nat) (kind : Nat) (s : ByteArray) : ByteArray := bs (listB 16 (tagN key kind s))
theorem tagN_bytes (key : Nat → Nat) (kind : Nat) (s : ByteArray) : Bytes (tagN key kind s) := macN_bytes _ _
theorem tagS_size (key : Nat → Nat) (kind : Nat) (s : ByteArray) : (tagS key kind s).size = 16 := bs_listB_size _ _

/-- What is ahead of the tag; a text, sealed. -/
def aheadS (k : Nat → Nat) (nonce : Nat) (s : ByteArray) : ByteArray := bs (numB 8 nonce) ++ hideS (hkN k) nonce s
def sealS (k : Nat → Nat) (nonce kind : Nat) (s : ByteArray) : ByteArray := aheadS k nonce s ++ tagS (tkN k) kind (aheadS k nonce s)

theorem num8_size (n : Nat) : (bs (numB 8 n)).size = 8 := by rw [bs_size, numB_length]
theorem aheadS_size (k : Nat → Nat) (nonce : Nat) (s : ByteArray) : (aheadS k nonce s).size = s.size + 8 := by
  unfold aheadS
  rw [ByteArray.size_append, num8_size, hideS_size]
  omega
theorem sealS_size (k : Nat → Nat) (nonce kind : Nat) (s : ByteArray) : (sealS k nonce kind s).size = s.size + 24 := by
  unfold sealS
  rw [ByteArray.size_append, tagS_size, aheadS_size]

/-- What opens bytes: all but the last 16, and those. -/
def headS (s : ByteArray) : ByteArray := s.extract 0 (s.size - 16)
def tailS (s : ByteArray) : ByteArray := s.extract (s.size - 16) s.size

/-- The number in the first eight bytes, and what is behind it. -/
def numOf (s : ByteArray) : Nat := numV (s.data.toList.take 8)
def restOf (s : ByteArray) : ByteArray := bs (s.data.toList.drop 8)

theorem numOf_lt (s : ByteArray) : numOf s < 18446744073709551616 := by
  refine Nat.lt_of_lt_of_le (numV_lt _) ?_
  have h : (s.data.toList.take 8).length ≤ 8 := by rw [List.length_take]; omega
  exact Nat.pow_le_pow_right (by decide) h

theorem headS_size (s : ByteArray) : (headS s).size = s.size - 16 := by
  unfold headS
  rw [ByteArray.size_extract]
  omega
theorem restOf_size (s : ByteArray) : (restOf s).size = s.size - 8 := by
  unfold restOf
  rw [bs_size, List.length_drop]
  simp

theorem ext_ahead (a b : ByteArray) (h : b.size = 16) : headS (a ++ b) = a ∧ tailS (a ++ b) = b := by
  have hz : (a ++ b).size = a.size + 16 := by rw [ByteArray.size_append, h]
  have la : a.data.toList.length = a.size := by simp
  have lb : b.data.toList.length = b.size := by simp
  constructor
  · apply ba_ext
    unfold headS
    rw [hz, show a.size + 16 - 16 = a.size by omega, ba_take, ByteArray.data_append, Array.toList_append, ← la, List.take_left]
  · apply ba_ext
    unfold tailS
    rw [hz, show a.size + 16 - 16 = a.size by omega, ByteArray.data_extract, ByteArray.data_append, Array.toList_extract, Array.toList_append, List.extract_eq_take_drop, ← la, List.drop_left]
    rw [show a.data.toList.length + 16 - a.data.toList.length = b.data.toList.length by omega, List.take_length]

theorem sealS_head (k : Nat → Nat) (nonce kind : Nat) (s : ByteArray) : headS (sealS k nonce kind s) = aheadS k nonce s := (ext_ahead _ _ (tagS_size _ _ _)).1
theorem sealS_tail (k : Nat → Nat) (nonce kind : Nat) (s : ByteArray) : tailS (sealS k nonce kind s) = tagS (tkN k) kind (aheadS k nonce s) := (ext_ahead _ _ (tagS_size _ _ _)).2

theorem ahead_num (k : Nat → Nat) (nonce : Nat) (h : nonce < 18446744073709551616) (s : ByteArray) : numOf (aheadS k nonce s) = nonce := by
  unfold numOf aheadS
  rw [ByteArray.data_append, Array.toList_append]
  have hl : (bs (numB 8 nonce)).data.toList = numB 8 nonce := rfl
  rw [hl, List.take_append_of_le_length (by rw [numB_length]; exact Nat.le_refl _), List.take_of_length_le (by rw [numB_length]; exact Nat.le_refl _)]
  exact numV_numB 8 nonce (by omega)
theorem ahead_rest (k : Nat → Nat) (nonce : Nat) (s : ByteArray) : restOf (aheadS k nonce s) = hideS (hkN k) nonce s := by
  unfold restOf aheadS
  rw [ByteArray.data_append, Array.toList_append]
  have hl : (bs (numB 8 nonce)).data.toList = numB 8 nonce := rfl
  rw [hl, List.drop_left' (numB_length 8 nonce), bs_data]

/-- What was sealed opens. -/
theorem open_sealed (k : Nat → Nat) (nonce : Nat) (h : nonce < 18446744073709551616) (s : ByteArray) : hideS (hkN k) (numOf (aheadS k nonce s)) (restOf (aheadS k nonce s)) = s := by
  rw [ahead_num k nonce h, ahead_rest]
  exact hideS_twice (hkN_bytes k) nonce s

end Go.Proofs.YtacekpjkgkkekaaGreatDoor
/-
  Contracts: keysOf, and its closure; Size.
-/
namespace Go.Proofs.YtacekpjkgkkekaaGreatDoor
open Go.RowKit

/-- The closure over the key that lies in block p. -/
def keyFn (p : Nat) : Value := .func (.func 18) #[] #[.pointer (some ⟨p, 0, none⟩)]

theorem keysOf_any (k : Nat → Nat) (w : World) :
    Calls Tryz.prog 9 #[.agg (rowOf 16 (w8 k))] w fun e w' => e = .returned (keyFn w.heap.size) ∧ RowAt w' w.heap.size 23 (rowOf 16 (w8 k)) ∧ Below w.heap.size w w' := by
  have r0 : Hid (RowAt (w.alloc (.cells (rowOf 16 (w8 k)) 23)) w.heap.size 23 (rowOf 16 (w8 k))) := RowAt.new _ _ _
  have b0 : Below w.heap.size w (w.alloc (.cells (rowOf 16 (w8 k)) 23)) := (Below.refl _ _).alloc (Nat.le_refl _) _
  go_enter Tryz.func9, Tryz.ntmps9
  go_wp2
  go_ret
  exact ⟨rfl, r0.out, b0⟩

set_option maxHeartbeats 1000000 in
set_option maxRecDepth 8000 in
theorem keyFn_any (k : Nat → Nat) (hkb : Hid (Bytes k)) (label : ByteArray) (hl : label.size ≤ 1000) (p : Nat) (w : World) (hk : Hid (KRow w)) (hr : Hid (RowAt w p 23 (rowOf 16 (w8 k)))) :
    Calls Tryz.prog 18 #[.string label, .pointer (some ⟨p, 0, none⟩)] w fun e w' => e = .returned (.agg (rowOf 16 (w8 (deriveN k label 0)))) ∧ Below w.heap.size w w' := by
  have a1 : Hid (RowAt (w.alloc (.cells (rowOf 16 (w8 zeroN)) 23)) w.heap.size 23 (rowOf 16 (w8 zeroN))) := RowAt.new _ _ _
  have a0 : Hid (RowAt (w.alloc (.cells (rowOf 16 (w8 zeroN)) 23)) p 23 (rowOf 16 (w8 k))) := hr.out.alloc _
  have b0 : Below w.heap.size w (w.alloc (.cells (rowOf 16 (w8 zeroN)) 23)) := (Below.refl _ _).alloc (Nat.le_refl _) _
  have D : Hid (∀ w', KRow w' → Calls Tryz.prog 19 #[.agg (rowOf 16 (w8 k)), .string label, .int .u64 0] w' fun e w'' => e = .returned (.agg (rowOf 16 (w8 (deriveN k label 0)))) ∧ Below w'.heap.size w' w'') :=
    fun w' h => derive_any k hkb label (by omega) 0 (by unfold Hid; decide) w' h
  have hk0 : Hid (KRow (w.alloc (.cells (rowOf 16 (w8 zeroN)) 23))) := hk.out.below b0 hk.out.1 b0.size
  generalize deriveN k label 0 = z at *
  clear hk hkb hr
  rw [z8_16] at a0 a1 b0 hk0
  go_enter Tryz.func18, Tryz.ntmps18
  go_wp2_with (refine wpList_load_row rfl 23 _ rfl p rfl 23 (rowOf 16 (w8 k)) (0, 0) _ a0.out Tryz.underlying23 rfl (info_key _) ?_)
  rw [← z8_16] at a0 a1 b0 hk0
  rw [← z8_16]
  generalize w.alloc (.cells (rowOf 16 (w8 zeroN)) 23) = w1 at *
  refine (D.out w1 hk0.out).mono ?_
  rintro e w2 ⟨rfl, hb2⟩
  replace a1 := Lib.hid (a1.out.below hb2 a1.out.lt)
  replace b0 := b0.trans (hb2.mono b0.size)
  clear hb2 D a0 hk0
  go_wp2_with (refine wpList_store_row rfl 23 _ _ rfl w.heap.size (rowOf 16 (w8 z)) rfl rfl 23 _ a1.out (info_key _) (by rw [rowOf_size, rowOf_size]) (rowOf_cells8 _ _) ?_)
  refine bodyPost_ret (v := .agg (rowOf 16 (w8 z))) ?_ rfl ⟨rfl, below_setRow' b0 (Nat.le_refl _) _⟩
  exact results_cell_row Tryz.results18 _ _ w.heap.size 23 (rowOf 16 (w8 z)) (0, 0) _ rfl (a1.out.setRow _) Tryz.underlying23 rfl (info_key _)

/-- How many bytes n have, sealed. -/
def sizeI (n : Int) : Int := if 0 ≤ n ∧ n ≤ 1000 then n + 24 else 0

theorem boxSize_any (n : Int) (w : World) :
    Calls Tryz.prog 8 #[.int .i64 n] w fun e w' => e = .returned (.int .i64 (sizeI n)) ∧ w' = w := by
  unfold sizeI
  by_cases h : 0 ≤ n ∧ n ≤ 1000
  · rw [if_pos h]
    obtain ⟨h1, h2⟩ := h
    go_enter Tryz.func8, Tryz.ntmps8
    go_wp2
    go_ret
    exact ⟨rfl, rfl⟩
  · rw [if_neg h]
    by_cases h1 : n < 0
    · clear h
      go_enter Tryz.func8, Tryz.ntmps8
      go_wp2
      go_ret
      exact ⟨rfl, rfl⟩
    · have h2 : 1000 < n := by omega
      clear h
      go_enter Tryz.func8, Tryz.ntmps8
      go_wp2
      go_ret
      exact ⟨rfl, rfl⟩

end Go.Proofs.YtacekpjkgkkekaaGreatDoor
/-
  A region that draws its order, where all that is told of the values is what they are: calls may turn what the class lets turn.
-/
namespace Go.Proofs.YtacekpjkgkkekaaGreatDoor
open Go.RowKit

/-- Told of the values alone. -/
def Flat (R : List Pred) : Prop := ∀ i v w w', predAt R i v w → predAt R i v w'

theorem Flat.nil : Flat [] := fun i v w w' h => by cases i <;> exact h
theorem Flat.cons {V : Value} {R : List Pred} (hR : Flat R) : Flat (eqv V :: R) := fun i v w w' hr => by
  cases i with
  | zero => exact hr
  | succ i => exact hR i v w w' hr

section
variable {P : Program} {ops : Array Oper} {C : World → Prop} {R : List Pred} {a0 : Act}

theorem wp_region_flat {id : Nat} {Q : Exit → Act → World → Prop} {w : World} {l : List Oper} (C : World → Prop) (rs : List Pred) (hm : P.follows .mixedOrders = true) (hB : relyB l.toArray = true) (hC : C w.drew) (hst : Flat rs)
    (h : ∀ R, Flat R → wpRely P l.toArray C R (fun a w => Q .normal a w) l rs [] a0) : (Code.region id l.toArray true).wp P Q a0 w :=
  wp_region_rely C rs hm hB hC (h rs hst)

/-- A new variable, above B. -/
def freshv (B : Nat) (t : TypeId) (cs : Array Value) : Pred := fun v w => ∃ q, v = .pointer (some ⟨q, 0, none⟩) ∧ B ≤ q ∧ RowAt w q t cs

theorem steady_freshv (B : Nat) (t : TypeId) (cs : Array Value) : ∀ v w w', Below w.heap.size w w' → freshv B t cs v w → freshv B t cs v w' := by
  rintro v w w' hb ⟨q, hv, hq, hr⟩
  exact ⟨q, hv, hq, hr.below hb hr.lt⟩

theorem grows_fresh {o : Oper} {a : Act} {w : World} {B : Nat} {t : TypeId} {cs : Array Value} (hR : Steady R) (hCs : ∀ w w', Below w.heap.size w w' → C w → C w') (hC : C w) (hw : Region.wanted o (yielded ops a.tmps) = true)
    (hv : (execOp a.eval o).run P w = .ok (.value (.pointer (some ⟨w.heap.size, 0, none⟩))) (w.alloc (.cells cs t))) (hB : B ≤ w.heap.size) :
    growsAt P ops o a w fun v w' => C w' ∧ freshv B t cs v w' ∧ Keeps R w w' :=
  have b : Below w.heap.size w (w.alloc (.cells cs t)) := (Below.refl _ _).alloc (Nat.le_refl _) _
  grows_new hw hv ⟨w.heap.size, rfl, hB, RowAt.new _ _ _⟩ (hCs _ _ b hC) fun i v h => hR i v _ _ b h

/-- A call that hands back this value and stays in the class. -/
theorem grows_flat {o : Oper} {a : Act} {w : World} {V : Value} {f : FuncId} {args : Array Value} (hR : Flat R) (hw : Region.wanted o (yielded ops a.tmps) = true) (hv : (execOp a.eval o).run P w = .ok (.enter f args) w)
    (hc : Calls P f args w fun e w' => e = .returned V ∧ C w') : growsAt P ops o a w fun v w' => C w' ∧ eqv V v w' ∧ Keeps R w w' :=
  grows_call hw hv (hc.mono fun _ w' ⟨he, hC⟩ => ⟨V, he, hC, rfl, fun i v h => hR i v w w' h⟩)
end

end Go.Proofs.YtacekpjkgkkekaaGreatDoor
/-
  Contract: tagOf.
-/
namespace Go.Proofs.YtacekpjkgkkekaaGreatDoor
open Go.RowKit

section
variable {P : Program} {ty e : TypeId} {n : Nat}
/-- The first h bytes of an array in a block of its own. -/
theorem run_slice_h (hu : P.underlying ty = some (.array n e)) (hs : (P.info? e).map (·.size) = some 1) (g : Nat) (h : Int) (h' : Nat) (eh : h = h') (h2 : h' ≤ n) (h3 : 0 < n) (w : World) :
    (Instr.sliceAt ty (.pointer (some ⟨g, 0, none⟩)) none (some (.int .i64 h)) none).run P w = .ok (.slice (some ⟨g, 0, none⟩) h' n) w := by
  subst eh
  have hn : P.arrayLen ty = n := by simp [Program.arrayLen, hu]
  have he : P.elem ty = e := by simp [Program.elem, hu]
  have ht : P.underlying ty = some (.array (P.arrayLen ty) (P.elem ty)) := by rw [hn, he, hu]
  rw [run_sliceAt_array_h w ty _ ht .i64 _ (by omega) (by omega), he, sizeOf_one hs, hn]
  have : n ≠ 0 := by omega
  simp [slicedAt, Result.andThen, this, Addr.add]
end

/-- The first m bytes of a row, as a text. -/
theorem block_head {P : Program} {w : World} {t e src dst : TypeId} {g n m cap : Nat} {f : Nat → Nat} (hf : Bytes f) (hm : m ≤ n) (hs : P.underlying src = some (.slice e)) (he : P.underlying e = some (.int .u8)) (hd : P.underlying dst = some .string)
    (h : RowAt w g t (rowOf n (w8 f))) : (convert src dst (.slice (some ⟨g, 0, none⟩) m cap)).run P w = .ok (.string (bs (listB m f))) w := by
  have := run_convert_bytes_back (P := P) w src dst e ⟨g, 0, none⟩ cap (listB m f) hs he hd (fun j hj => ?_)
  · rw [listB_length] at this
    exact this
  · rw [listB_length] at hj
    have ha : (⟨g, 0, none⟩ : Addr).add j = ⟨g, j, none⟩ := by unfold Addr.add; split <;> simp_all
    have hx : (listB m f)[j]'(by rw [listB_length]; exact hj) = UInt8.ofNat (f j) := by simp [listB]
    rw [ha, h.cell j (by omega), hx, UInt8.toNat_ofNat', Nat.mod_eq_of_lt (hf j)]
    rfl

/-- What stays while a tag is made: the key lies in block p. -/
structure BoxC (w : World) (p : Nat) (k : Nat → Nat) (w' : World) : Prop where
  rest : Below p w w'
  row : RowAt w' p 23 (rowOf 16 (w8 k))

theorem BoxC.after {w w1 w2 : World} {p : Nat} {k : Nat → Nat} (hb : Below w1.heap.size w1 w2) (h : BoxC w p k w1) : BoxC w p k w2 := ⟨h.rest.trans (hb.mono (Nat.le_of_lt h.row.lt)), h.row.below hb h.row.lt⟩

/-- A byte as a text. -/
def kindS (b : Nat) : ByteArray := bs (listB 1 fun _ => b)
theorem kindS_data (b : Nat) : (kindS b).data.toList = [UInt8.ofNat b] := rfl
theorem kindS_size (b : Nat) : (kindS b).size = 1 := rfl

theorem tag_join (b : Nat) (s : ByteArray) : joinTo [kindS b, s] 2 = UInt8.ofNat b :: s.data.toList := by simp [joinTo, kindS_data]

/-- The tag of a byte and a text, by a key in its bytes. -/
theorem tagMac (k : Nat → Nat) (kind : Nat) (s : ByteArray) (hs : s.size ≤ 100000) (q : Nat) (w : World) (hk : KRow w) (hr : RowAt w q 9 ([kindS kind, s].map Value.string).toArray) :
    Calls Tryz.prog 20 #[.string (bs (listB 16 k)), .slice (some ⟨q, 0, none⟩) 2 2] w fun e w' => e = .returned (.agg (rowOf 32 (w8 (tagN k kind s)))) ∧ Below w.heap.size w w' := by
  have hL : s.data.toList.length = s.size := by simp
  have M := mac_any (bs (listB 16 k)) (by rw [bs_size, listB_length]; decide) (some ⟨q, 0, none⟩) 2 (fun h => by cases h) [kindS kind, s] (by simp) (by
    unfold Hid
    show (joinTo [kindS kind, s] 2).length ≤ _
    rw [tag_join, List.length_cons, hL]
    omega) w hk (sees_row hr)
  rw [show [kindS kind, s].length = 2 from rfl, tag_join] at M
  exact M

theorem kind_bytes {b : Nat} (h : b < 256) : Bytes (fun _ => b) := fun _ => h

set_option maxHeartbeats 1000000 in
set_option maxRecDepth 8000 in
theorem tagOf_any (k : Nat → Nat) (hkb : Hid (Bytes k)) (kind : Nat) (hkd : Hid (kind < 256)) (s : ByteArray) (hs : s.size ≤ 100000) (w : World) (hk : Hid (KRow w)) :
    Calls Tryz.prog 11 #[.agg (rowOf 16 (w8 k)), .int .u8 (kind : Int), .string s] w fun e w' => e = .returned (.string (tagS k kind s)) ∧ Below w.heap.size w w' := by
  have r0 : Hid (RowAt (w.alloc (.cells (rowOf 16 (w8 k)) 23)) w.heap.size 23 (rowOf 16 (w8 k))) := RowAt.new _ _ _
  have b0 : Below w.heap.size w (w.alloc (.cells (rowOf 16 (w8 k)) 23)) := (Below.refl _ _).alloc (Nat.le_refl _) _
  have HC : BoxC w w.heap.size k (w.alloc (.cells (rowOf 16 (w8 k)) 23)).drew := ⟨b0.drew, r0.out.drew⟩
  have sl := run_slice_all (P := Tryz.prog) Tryz.underlying23 sz8 w.heap.size
  have cv : Hid (∀ w', RowAt w' w.heap.size 23 (rowOf 16 (w8 k)) → (convert 45 9 (.slice (some ⟨w.heap.size, 0, none⟩) 16 16)).run Tryz.prog w' = .ok (.string (bs (listB 16 k))) w') :=
    fun w' hr => block_string hkb.out Tryz.underlying45 Tryz.underlying5 Tryz.underlying9 hr
  have M : Hid (∀ w' q, Below w.heap.size w w' → RowAt w' q 9 ([kindS kind, s].map Value.string).toArray → Calls Tryz.prog 20 #[.string (bs (listB 16 k)), .slice (some ⟨q, 0, none⟩) 2 2] w' fun e w'' => e = .returned (.agg (rowOf 32 (w8 (tagN k kind s)))) ∧ Below w'.heap.size w' w'') :=
    fun w' q hb hr => tagMac k kind s hs q w' (hk.out.below hb hk.out.1 hb.size) hr
  have hZ := Lib.hid (tagN_bytes k kind s)
  have E : Hid (tagS k kind s = bs (listB 16 (tagN k kind s))) := rfl
  generalize tagN k kind s = z at *
  clear r0 b0 hk hkb hs
  go_enter Tryz.func11, Tryz.ntmps11
  go_wp2
  refine wp_region_rely_tail 9 (BoxC w w.heap.size k) [eqv (.slice (some ⟨w.heap.size, 0, none⟩) 16 16), eqv (.string (bs (listB 16 k))), eqv (.int .u8 (kind : Int)), heldv 5 1 (rowOf 1 (w8 fun _ => kind)), eqv (.string (kindS kind)), eqv (.string s), seesv [kindS kind, s], eqv (.agg (rowOf 32 (w8 z))), freshv (w.heap.size + 1) 43 (rowOf 32 (w8 zeroN))] (by kernel_rfl) (by kernel_rfl) HC
    (.cons (steady_eqv _) (.cons (steady_eqv _) (.cons (steady_eqv _) (.cons (steady_heldv _ _ _) (.cons (steady_eqv _) (.cons (steady_eqv _) (.cons (steady_seesv _) (.cons (steady_eqv _) (.cons (steady_freshv _ _ _) .nil))))))))) ?_
  intro R hR
  simp only [List.take_succ_cons, List.take_zero, List.drop_succ_cons, List.drop_zero]
  refine wpRely_cons (fun w' hC hf => ?_) (fun v0 => ?_)
  · (repeat (first | (obtain ⟨rfl, hf⟩ := hf) | (obtain ⟨⟨q, rfl, hq⟩, hf⟩ := hf) | (obtain ⟨_, hf⟩ := hf)))
    exact grows_eqv (by rfl) hC (by go_simp)
  simp only [Act.put, List.setIfInBounds_toArray, List.set_cons_succ, List.set_cons_zero, List.nil_append]
  refine wpRely_cons (fun w' hC hf => ?_) (fun v1 => ?_)
  · (repeat (first | (obtain ⟨rfl, hf⟩ := hf) | (obtain ⟨⟨q, rfl, hq⟩, hf⟩ := hf) | (obtain ⟨_, hf⟩ := hf)))
    have cw := cv.out w' hC.row
    exact grows_eqv (by rfl) hC (by go_simp)
  simp only [Act.put, List.setIfInBounds_toArray, List.set_cons_succ, List.set_cons_zero, List.nil_append, List.cons_append]
  refine wpRely_cons (fun w' hC hf => ?_) (fun v2 => ?_)
  · (repeat (first | (obtain ⟨rfl, hf⟩ := hf) | (obtain ⟨⟨q, rfl, hq⟩, hf⟩ := hf) | (obtain ⟨_, hf⟩ := hf)))
    exact grows_eqv (by rfl) hC (by go_simp)
  simp only [Act.put, List.setIfInBounds_toArray, List.set_cons_succ, List.set_cons_zero, List.nil_append, List.cons_append]
  refine wpRely_cons (fun w' hC hf => ?_) (fun v3 => ?_)
  · (repeat (first | (obtain ⟨rfl, hf⟩ := hf) | (obtain ⟨⟨q, rfl, hq⟩, hf⟩ := hf) | (obtain ⟨_, hf⟩ := hf)))
    exact grows_held hR (fun _ _ hb h => h.after hb) hC (by rfl) (by go_simp; rfl)
  simp only [Act.put, List.setIfInBounds_toArray, List.set_cons_succ, List.set_cons_zero, List.nil_append, List.cons_append]
  refine wpRely_cons (fun w' hC hf => ?_) (fun v4 => ?_)
  · (repeat (first | (obtain ⟨rfl, hf⟩ := hf) | (obtain ⟨⟨q, rfl, hq⟩, hf⟩ := hf) | (obtain ⟨_, hf⟩ := hf)))
    have cw : (convert 45 9 (.slice (some ⟨q, 0, none⟩) 1 1)).run Tryz.prog w' = .ok (.string (kindS kind)) w' := block_string (kind_bytes hkd.out) Tryz.underlying45 Tryz.underlying5 Tryz.underlying9 hq
    exact grows_eqv (by rfl) hC (by go_simp)
  simp only [Act.put, List.setIfInBounds_toArray, List.set_cons_succ, List.set_cons_zero, List.nil_append, List.cons_append]
  refine wpRely_cons (fun w' hC hf => ?_) (fun v5 => ?_)
  · (repeat (first | (obtain ⟨rfl, hf⟩ := hf) | (obtain ⟨⟨q, rfl, hq⟩, hf⟩ := hf) | (obtain ⟨_, hf⟩ := hf)))
    exact grows_eqv (by rfl) hC (by go_simp)
  simp only [Act.put, List.setIfInBounds_toArray, List.set_cons_succ, List.set_cons_zero, List.nil_append, List.cons_append]
  refine wpRely_cons (fun w' hC hf => ?_) (fun v6 => ?_)
  · (repeat (first | (obtain ⟨rfl, hf⟩ := hf) | (obtain ⟨⟨q, rfl, hq⟩, hf⟩ := hf) | (obtain ⟨_, hf⟩ := hf)))
    exact grows_strs hR (fun _ _ hb h => h.after hb) hC (by rfl) (by go_simp)
  simp only [Act.put, List.setIfInBounds_toArray, List.set_cons_succ, List.set_cons_zero, List.nil_append, List.cons_append]
  refine wpRely_cons (fun w' hC hf => ?_) (fun v7 => ?_)
  · (repeat (first | (obtain ⟨rfl, hf⟩ := hf) | (obtain ⟨⟨q, rfl, hq⟩, hf⟩ := hf) | (obtain ⟨_, hf⟩ := hf)))
    exact grows_calls hR (fun _ _ hb h => h.after hb) hC (by rfl) (by go_simp) (M.out w' q hC.rest hq)
  simp only [Act.put, List.setIfInBounds_toArray, List.set_cons_succ, List.set_cons_zero, List.nil_append, List.cons_append]
  refine wpRely_cons (fun w' hC hf => ?_) (fun v8 => ?_)
  · (repeat (first | (obtain ⟨rfl, hf⟩ := hf) | (obtain ⟨⟨q, rfl, hq⟩, hf⟩ := hf) | (obtain ⟨_, hf⟩ := hf)))
    exact grows_fresh hR (fun _ _ hb h => h.after hb) hC (by rfl) (by rw [z8_32]; go_simp) (by have := hC.row.lt; omega)
  simp only [Act.put, List.setIfInBounds_toArray, List.set_cons_succ, List.set_cons_zero, List.nil_append, List.cons_append]
  refine wpRely_nil fun w9 hC hf => ?_
  obtain ⟨_, _, _, _, _, _, _, rfl, ⟨l, rfl, hq, hr⟩, _⟩ := hf
  have b9 : Below w.heap.size w (w9.setRow l (rowOf 32 (w8 z))) := below_setRow' hC.rest (by omega) _
  have r9 : RowAt (w9.setRow l (rowOf 32 (w8 z))) l 43 (rowOf 32 (w8 z)) := hr.setRow _
  clear hC HC M cv sl
  refine wpList_store_row rfl 43 _ _ rfl l (rowOf 32 (w8 z)) rfl rfl 43 _ hr (info_hash _) (by rw [rowOf_size, rowOf_size]) (rowOf_cells8 _ _) ?_
  generalize World.setRow _ _ _ = w5 at *
  have sl := run_slice_h (P := Tryz.prog) Tryz.underlying43 sz8 l 16 16 rfl (by decide) (by decide) w5
  have cv : (convert 45 9 (.slice (some ⟨l, 0, none⟩) 16 32)).run Tryz.prog w5 = .ok (.string (bs (listB 16 z))) w5 := block_head hZ.out (by decide) Tryz.underlying45 Tryz.underlying5 Tryz.underlying9 r9
  clear hr r9
  go_wp2
  go_ret
  exact ⟨by rw [E.out]; rfl, b9⟩

end Go.Proofs.YtacekpjkgkkekaaGreatDoor
/-
  Contract: Seal.
-/
namespace Go.Proofs.YtacekpjkgkkekaaGreatDoor
open Go.RowKit

/-- What layer 6 calls, as contracts in all worlds that have the numbers K. -/
theorem keyHide (k : Nat → Nat) (hkb : Hid (Bytes k)) (p : Nat) (w : World) (hk : KRow w) (hr : RowAt w p 23 (rowOf 16 (w8 k))) :
    Calls Tryz.prog 18 #[.string ⟨#[104, 105, 100, 101]⟩, .pointer (some ⟨p, 0, none⟩)] w fun e w' => e = .returned (.agg (rowOf 16 (w8 (hkN k)))) ∧ Below w.heap.size w w' :=
  keyFn_any k hkb hideL (by decide) p w hk hr

theorem keyTag (k : Nat → Nat) (hkb : Hid (Bytes k)) (p : Nat) (w : World) (hk : KRow w) (hr : RowAt w p 23 (rowOf 16 (w8 k))) :
    Calls Tryz.prog 18 #[.string ⟨#[116, 97, 103]⟩, .pointer (some ⟨p, 0, none⟩)] w fun e w' => e = .returned (.agg (rowOf 16 (w8 (tkN k)))) ∧ Below w.heap.size w w' :=
  keyFn_any k hkb tagL (by decide) p w hk hr

theorem number8 (n : Nat) (h : n < 18446744073709551616) (w : World) :
    Calls Tryz.prog 17 #[.int .u64 (n : Int), .int .i64 8] w fun e w' => e = .returned (.tuple #[.string (bs (numB 8 n)), .int .i64 0]) ∧ Below w.heap.size w w' := by
  have := number_yes (n : Int) 8 (by omega) (by unfold Hid; omega) (by decide) (by decide) (fits_8 _ (by omega)) w
  exact this

theorem seal_no (k : Nat → Nat) (nonce kind : Nat) (s : ByteArray) (hs : 1000 < s.size) (w : World) :
    Calls Tryz.prog 7 #[.agg (rowOf 16 (w8 k)), .int .u64 (nonce : Int), .int .u8 (kind : Int), .string s] w fun e w' => e = .returned (.string (bs [])) ∧ Below w.heap.size w w' := by
  have hz : (1000 : Int) < (s.size : Int) := by omega
  go_enter Tryz.func7, Tryz.ntmps7
  go_wp2
  go_ret
  exact ⟨rfl, (Below.refl _ _).alloc (Nat.le_refl _) _⟩

set_option maxHeartbeats 1000000 in
set_option maxRecDepth 8000 in
theorem seal_yes (k : Nat → Nat) (hkb : Hid (Bytes k)) (nonce : Nat) (hn : Hid (nonce < 18446744073709551616)) (kind : Nat) (hkd : Hid (kind < 256)) (s : ByteArray) (hs : s.size ≤ 1000) (w : World) (hk : Hid (KRow w)) :
    Calls Tryz.prog 7 #[.agg (rowOf 16 (w8 k)), .int .u64 (nonce : Int), .int .u8 (kind : Int), .string s] w fun e w' => e = .returned (.string (sealS k nonce kind s)) ∧ Below w.heap.size w w' := by
  have r0 : Hid (RowAt (w.alloc (.cells (rowOf 16 (w8 k)) 23)) w.heap.size 23 (rowOf 16 (w8 k))) := RowAt.new _ _ _
  have b0 : Below w.heap.size w (w.alloc (.cells (rowOf 16 (w8 k)) 23)) := (Below.refl _ _).alloc (Nat.le_refl _) _
  have hz : ¬ (1000 : Int) < (s.size : Int) := by omega
  have KH := Lib.hid (keyHide k hkb)
  have KT := Lib.hid (keyTag k hkb)
  have NU := Lib.hid (number8 nonce hn.out)
  have CR : Hid (∀ w', Calls Tryz.prog 13 #[.agg (rowOf 16 (w8 (hkN k))), .int .u64 (nonce : Int), .string s] w' fun e w'' => e = .returned (.string (hideS (hkN k) nonce s)) ∧ Below w'.heap.size w' w'') :=
    fun w' => crypt_yes (hkN k) (hkN_bytes k) nonce hn s (by omega) w'
  have TG : Hid (∀ w', KRow w' → Calls Tryz.prog 11 #[.agg (rowOf 16 (w8 (tkN k))), .int .u8 (kind : Int), .string (bs (numB 8 nonce) ++ hideS (hkN k) nonce s)] w' fun e w'' => e = .returned (.string (tagS (tkN k) kind (aheadS k nonce s))) ∧ Below w'.heap.size w' w'') :=
    fun w' h => tagOf_any (tkN k) (tkN_bytes k) kind hkd (aheadS k nonce s) (by rw [aheadS_size]; omega) w' h
  have E : Hid (sealS k nonce kind s = (bs (numB 8 nonce) ++ hideS (hkN k) nonce s) ++ tagS (tkN k) kind (aheadS k nonce s)) := rfl
  have z1 : (bs (numB 8 nonce)).size = 8 := num8_size _
  have z2 : (hideS (hkN k) nonce s).size = s.size := hideS_size _ _ _
  have z3 : (tagS (tkN k) kind (aheadS k nonce s)).size = 16 := tagS_size _ _ _
  have z4 : (bs (numB 8 nonce) ++ hideS (hkN k) nonce s).size = s.size + 8 := by rw [ByteArray.size_append]; omega
  generalize tagS (tkN k) kind (aheadS k nonce s) = tg at *
  generalize hideS (hkN k) nonce s = hd at *
  generalize bs (numB 8 nonce) = nb at *
  generalize hkN k = hk1 at *
  generalize tkN k = tk1 at *
  generalize sealS k nonce kind s = sl at *
  clear hkb hn hkd
  go_enter Tryz.func7, Tryz.ntmps7
  go_wp2_with (refine wpList_load_row rfl 23 _ rfl w.heap.size rfl 23 (rowOf 16 (w8 k)) (0, 0) _ r0.out Tryz.underlying23 rfl (info_key _) ?_)
  generalize w.alloc (.cells (rowOf 16 (w8 k)) 23) = w1 at *
  refine (keysOf_any k w1).mono ?_
  rintro e w2 ⟨rfl, r2, hb2⟩
  have l2 := b0.size
  generalize w1.heap.size = p at *
  replace r2 := Lib.hid r2
  replace b0 := b0.trans (hb2.mono l2)
  clear hb2 r0
  unfold keyFn
  go_wp2_with fail
  refine (NU.out w2).mono ?_
  rintro e w3 ⟨rfl, hb3⟩
  replace r2 := Lib.hid (r2.out.below hb3 r2.out.lt)
  replace b0 := b0.trans (hb3.mono b0.size)
  clear hb3 NU
  go_wp2_with fail
  refine (KH.out p w3 (hk.out.below b0 hk.out.1 b0.size) r2.out).mono ?_
  rintro e w4 ⟨rfl, hb4⟩
  replace r2 := Lib.hid (r2.out.below hb4 r2.out.lt)
  replace b0 := b0.trans (hb4.mono b0.size)
  clear hb4 KH
  go_wp2_with fail
  refine (CR.out w4).mono ?_
  rintro e w5 ⟨rfl, hb5⟩
  replace r2 := Lib.hid (r2.out.below hb5 r2.out.lt)
  replace b0 := b0.trans (hb5.mono b0.size)
  clear hb5 CR
  go_wp2_with fail
  refine (KT.out p w5 (hk.out.below b0 hk.out.1 b0.size) r2.out).mono ?_
  rintro e w6 ⟨rfl, hb6⟩
  replace b0 := b0.trans (hb6.mono b0.size)
  clear hb6 KT r2
  go_wp2_with fail
  refine (TG.out w6 (hk.out.below b0 hk.out.1 b0.size)).mono ?_
  rintro e w7 ⟨rfl, hb7⟩
  replace b0 := b0.trans (hb7.mono b0.size)
  clear hb7 TG
  go_wp2
  go_ret
  exact ⟨by rw [E.out]; rfl, b0⟩

end Go.Proofs.YtacekpjkgkkekaaGreatDoor
