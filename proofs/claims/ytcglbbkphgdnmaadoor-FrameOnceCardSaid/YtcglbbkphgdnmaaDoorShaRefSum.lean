/-
  Contract: the document's Sum.
-/
import Derived.Test.YtcglbbkphgdnmaaDoorShaSum
namespace Go.Proofs.YtcglbbkphgdnmaaDoor
open Go.RowKit

theorem row_second (w : World) (o : Obj) (t : TypeId) (cs : Array Value) : RowAt ((w.alloc o).alloc (.cells cs t (0, 0))) (w.heap.size + 1) t cs := by
  have h := RowAt.new (w.alloc o) t cs
  rw [World.size_alloc] at h
  exact h

theorem two_rows (w : World) (c1 c2 ds : Array Value) (t1 t2 : TypeId) :
    RowAt (((w.alloc (.cells c1 t1)).alloc (.cells c2 t2)).setRow (w.heap.size + 1) ds) w.heap.size t1 c1 ∧
    RowAt (((w.alloc (.cells c1 t1)).alloc (.cells c2 t2)).setRow (w.heap.size + 1) ds) (w.heap.size + 1) t2 ds ∧
    Below w.heap.size w (((w.alloc (.cells c1 t1)).alloc (.cells c2 t2)).setRow (w.heap.size + 1) ds) :=
  ⟨((RowAt.new _ _ _).alloc _).setRowOther _ _ (by omega), (row_second w _ _ _).setRow _, below_setRow' (((Below.refl _ _).alloc (Nat.le_refl _) _).alloc (by simp) _) (by omega) _⟩

theorem bs_append (a b : ByteArray) : (a ++ b).data.toList = a.data.toList ++ b.data.toList := by simp

theorem foldN_cut (T : List UInt8) (k : Nat) : stepN (foldN T k) (byteL ((T.drop (64 * k)).take 64)) = foldN T (k + 1) := by
  show _ = stepN (foldN T k) _
  exact stepN_congr _ fun j hj => by rw [byteL_take _ _ _ hj, byteL_drop]

set_option maxHeartbeats 1000000 in
set_option maxRecDepth 8000 in
theorem refSum_any (s : ByteArray) (hm : s.size ≤ 100000) (w : World) :
    Calls Tryd.prog 16 #[.string s] w fun e w' => e = .returned (.agg (rowOf 32 (w8 (sumN s.data.toList)))) ∧ Below w.heap.size w w' := by
  have hS : s.data.toList.length = s.size := by simp
  have E : Hid (sumN s.data.toList = hashN (foldN (s.data.toList ++ fillL s.size) ((s.data.toList ++ fillL s.size).length / 64))) := by unfold Hid sumN; rw [hS]
  obtain ⟨A, hA⟩ : ∃ A, s.data.toList ++ fillL s.size = A := ⟨_, rfl⟩
  have hA64 : A.length % 64 = 0 := by rw [← hA, ← hS]; exact full_length _
  have hAl : A.length ≤ 200000 := by
    rw [← hA, List.length_append, fillL_length, hS]
    unfold fillZ
    omega
  rw [hA] at E
  have HA := Lib.hid hA
  obtain ⟨m, hm2⟩ : ∃ m, A.length / 64 = m := ⟨_, rfl⟩
  have hAm : A.length = 64 * m := by omega
  rw [hm2] at E
  clear hA hm2 hA64 hS
  go_enter Tryd.func16, Tryd.ntmps16
  go_wp2_with (refine wpList_store_row rfl 73 _ _ rfl (w.heap.size + 1) (rowOf 8 (w64 firstN)) rfl rfl 73 _ (row_second w _ _ _) (info_d8 _) (by rw [rowOf_size]; rfl) (rowOf_cells64 _ _) ?_; rw [← z64_8, ← z8_32, ← first_row64]; have tr := Lib.hid (two_rows w (rowOf 32 (w8 zeroN)) (rowOf 8 (w64 zeroN)) (rowOf 8 (w64 firstN)) 44 73); generalize World.setRow _ _ _ = w1 at *)
  have r0 := Lib.hid tr.out.1
  have r1 := Lib.hid tr.out.2.1
  have b0 := tr.out.2.2
  clear tr
  refine (refFill_any s.size (by omega) _).mono ?_
  rintro e w2 ⟨rfl, hb2⟩
  replace r0 : Hid (RowAt w2 w.heap.size 44 (rowOf 32 (w8 zeroN))) := r0.out.below hb2 r0.out.lt
  replace r1 : Hid (RowAt w2 (w.heap.size + 1) 73 (rowOf 8 (w64 firstN))) := r1.out.below hb2 r1.out.lt
  replace b0 : Below w.heap.size w w2 := b0.trans (hb2.mono b0.size)
  have sA : Hid ((s ++ bs (fillL s.size)).data.toList = A) := by unfold Hid; rw [bs_append]; exact HA.out
  have zA : (s ++ bs (fillL s.size)).size = 64 * m := by
    rw [← hAm, ← sA.out]
    simp
  have fz : (bs (fillL s.size)).size ≤ 100 := by
    show (fillL s.size).toArray.size ≤ 100
    rw [List.size_toArray, fillL_length]
    unfold fillZ
    omega
  have ns : ¬ 9223372036854775807 < s.size + (bs (fillL s.size)).size := by omega
  clear hb2
  go_wp2
  obtain ⟨q, hq⟩ : ∃ q, w.heap.size + 1 = q := ⟨_, rfl⟩
  rw [hq] at r1
  rw [hq]
  have hq1 : w.heap.size + 1 ≤ q := by omega
  clear hq fz ns
  go_loopw [0] (fun t wr => ∃ (k : Nat) (r : ByteArray), t = .string r ∧ k ≤ m ∧ r.size = 64 * (m - k) ∧ Hid (r.data.toList = A.drop (64 * k)) ∧ Hid (RowAt wr q 73 (rowOf 8 (w64 (foldN A k)))) ∧ Below q w2 wr)
    (fun t _ => match t with | .string r => r.size | _ => 0)
  case atStart => exact ⟨0, _, rfl, by omega, zA, by rw [sA.out]; rfl, r1, Below.refl _ _⟩
  case round =>
    clear r1 sA zA
    obtain ⟨k, r, rfl, hkm, hrz, hr, hv, hbl⟩ := hrel
    by_cases hlt : k < m
    · have rg : (0 : Int) < (r.size : Int) := by omega
      have r64 : (64 : Int) ≤ (r.size : Int) := by omega
      have r64n : 64 ≤ r.size := by omega
      have hW := Lib.hid (foldN_words A k)
      have hcz : (r.extract 0 64).size = 64 := by rw [ByteArray.size_extract]; omega
      have hct : Hid (byteL (r.extract 0 64).data.toList = byteL ((A.drop (64 * k)).take 64)) := by unfold Hid; rw [bytes_take, hr.out]
      have hst : Hid (stepN (foldN A k) (byteL (r.extract 0 64).data.toList) = foldN A (k + 1)) := by unfold Hid; rw [hct.out, foldN_cut]
      have hr2 : Hid ((r.extract 64 r.size).data.toList = A.drop (64 * (k + 1))) := by unfold Hid; rw [bytes_drop, hr.out, List.drop_drop]; congr 1
      have hz2 : (r.extract 64 r.size).size = 64 * (m - (k + 1)) := by rw [ByteArray.size_extract]; omega
      have HZ := Lib.hid hz2
      have HCZ := Lib.hid hcz
      have HRZ := Lib.hid hrz
      clear hz2 hcz hrz hct
      go_wp2
      refine wp_region_still_tail 3 (by kernel_rfl) (by kernel_rfl) ?_
      change wpStill _ _ wr.drew (fun a' => wpList _ _ _ _ a' wr.drew) _ _
      replace hv : Hid (RowAt wr.drew q 73 (rowOf 8 (w64 (foldN A k)))) := hv
      replace hbl : Below q w2 wr.drew := hbl.drew
      generalize wr.drew = w5 at *
      simp only [List.take_succ_cons, List.take_zero, List.drop_succ_cons, List.drop_zero]
      refine wpStill_load_row rfl 73 _ rfl q rfl 73 _ (0, 0) _ hv.out Tryd.underlying73 rfl (info_d8 _) ?_
      refine wpStill_of_quiet _ _ ?_
      simp only [Act.put, List.setIfInBounds_toArray, List.set_cons_succ, List.set_cons_zero]
      repeat (first | go_big_quiet_skip | (go_big_quiet_want; go_big_quiet_op; go_big_quiet_on))
      refine wpQuiet_nil ?_
      go_wp2_with fail
      refine (refStep_yes _ hW (r.extract 0 64) HCZ.out _).mono ?_
      rintro e w6 ⟨rfl, hb6⟩
      rw [hst.out]
      obtain ⟨y2, hy2⟩ : ∃ y2, foldN A (k + 1) = y2 := ⟨_, rfl⟩
      rw [hy2]
      have HY2 := Lib.hid hy2
      clear hy2
      have hv6 : Hid (RowAt w6 q 73 (rowOf 8 (w64 (foldN A k)))) := hv.out.below hb6 hv.out.lt
      have hbl6 : Below q w2 w6 := hbl.trans (hb6.mono (Nat.le_of_lt hv.out.lt))
      have hv7 := Lib.hid (hv6.out.setRow (rowOf 8 (w64 y2)))
      have hbl7 := below_setRow' hbl6 (Nat.le_refl q) (rowOf 8 (w64 y2))
      clear hb6 hv hbl hbl6 hW hst hr
      go_wp2_with (refine wpList_store_row rfl 73 _ _ rfl q (rowOf 8 (w64 y2)) rfl rfl 73 _ hv6.out (info_d8 _) (by rw [rowOf_size, rowOf_size]) (rowOf_cells64 _ _) ?_; clear hv6; generalize World.setRow _ _ _ = w7 at *)
      go_roundw
      case rel => exact ⟨k + 1, _, rfl, by omega, HZ.out, hr2, by rw [HY2.out]; exact hv7, hbl7⟩
      case measure =>
        show (r.extract 64 r.size).size < r.size
        rw [ByteArray.size_extract]
        omega
    · have : k = m := by omega
      subst this
      have rg : ¬ (0 : Int) < (r.size : Int) := by omega
      have rg0 : decide (0 < r.size) = false := decide_eq_false (by omega)
      have hY := Lib.hid (foldN_words A k)
      obtain ⟨y, hy⟩ : ∃ y, foldN A k = y := ⟨_, rfl⟩
      rw [hy] at hv hY E
      clear hy hr hAm hAl hkm HA
      have q2 : q < wr.heap.size := hv.out.lt
      have hHr : Hid (RowAt wr w.heap.size 44 (rowOf 32 (w8 zeroN))) := r0.out.below hbl (by omega)
      have b3 : Below w.heap.size w wr := b0.trans (hbl.mono (by omega))
      clear r0 b0 hbl
      go_wp2_with (refine wpList_store_row rfl 44 _ _ rfl wr.heap.size (rowOf 32 (w8 zeroN)) rfl rfl 44 _ (RowAt.new _ _ _) (info_hash _) (by rw [rowOf_size]; rfl) (rowOf_cells8 _ _) ?_; rw [World.setRow_alloc_new, ← z8_32])
      have r9 : Hid (RowAt (wr.alloc (.cells (rowOf 32 (w8 zeroN)) 44)) wr.heap.size 44 (rowOf 32 (w8 (part (hashN y) zeroN (4 * 0))))) := by rw [part_zero]; exact RowAt.new _ _ _
      replace hv := Lib.hid (hv.out.alloc (.cells (rowOf 32 (w8 zeroN)) 44))
      replace hHr := Lib.hid (hHr.out.alloc (.cells (rowOf 32 (w8 zeroN)) 44))
      replace b3 := b3.alloc b3.size (.cells (rowOf 32 (w8 zeroN)) 44)
      generalize wr.alloc (.cells (rowOf 32 (w8 zeroN)) 44) = w3 at *
      generalize wr.heap.size = p at *
      clear rg rg0
      go_loopw [5] (fun i wr => ∃ j : Nat, j ≤ 8 ∧ i = .int .i64 j ∧ Hid (RowAt wr p 44 (rowOf 32 (w8 (part (hashN y) zeroN (4 * j))))) ∧ Below p w3 wr)
        (fun i _ => 8 - (intOf i).toNat)
      case atStart => exact ⟨0, by omega, rfl, r9, Below.refl _ _⟩
      case round =>
        clear r9
        obtain ⟨i, hi, rfl, hr, hbl⟩ := hrel
        by_cases hlt : i < 8
        · have hr0 : Hid (RowAt wr p 44 (rowOf 32 (w8 (part (hashN y) zeroN (4 * i + 0))))) := hr
          clear hr
          have hd : decide ((i : Int) < 8) = true := decide_eq_true (by omega)
          go_wp2
          go_loopw [6] (fun t wr => ∃ j : Nat, j ≤ 4 ∧ t = .int .i64 j ∧ Hid (RowAt wr p 44 (rowOf 32 (w8 (part (hashN y) zeroN (4 * i + j))))) ∧ Below p w3 wr)
            (fun t _ => 4 - (intOf t).toNat)
          case atStart => exact ⟨0, by omega, rfl, hr0, hbl⟩
          case round =>
            clear hr0 hbl
            obtain ⟨j, hj, rfl, hr, hbl⟩ := hrel
            by_cases hlt2 : j < 4
            · have cy := (hv.out.below hbl q2).cell i hlt
              unfold w64 at cy
              have ly := hY.out i
              obtain ⟨k4, hk4⟩ : ∃ k4, 4 * i + j = k4 := ⟨_, rfl⟩
              have e4 : 4 * (i : Int) + (j : Int) = (k4 : Int) := by omega
              obtain ⟨c, hc⟩ : ∃ c, 24 - 8 * j = c := ⟨_, rfl⟩
              have ec : (24 : Int) - 8 * (j : Int) = (c : Int) := by omega
              have lk : k4 < 32 := by omega
              rw [hk4] at hr
              have c4 := hr.out.cell k4 lk
              have f4 := hr.out.free k4
              have R := Lib.hid (fun w => right_any (y i) c (by omega) (by omega) w)
              have hx : y i / 2 ^ c ≤ y i := Nat.div_le_self _ _
              have EX : Hid (((y i / 2 ^ c : Nat) : Int) % 256 = ((hashN y k4 : Nat) : Int)) := by
                unfold Hid hashN
                rw [← hk4, ← hc, show (4 * i + j) / 4 = i by omega, show (4 * i + j) % 4 = j by omega]
                simp
              have e3 : Hid ((rowOf 32 (w8 (part (hashN y) zeroN k4))).setIfInBounds k4 (.int .u8 ((hashN y k4 : Nat) : Int)) = rowOf 32 (w8 (part (hashN y) zeroN (4 * i + (j + 1))))) := by
                unfold Hid
                rw [rowOf_upd8, part_upd, ← hk4, Nat.add_assoc]
              have hP := Lib.hid q2
              clear hc hk4
              go_wp2_with fail
              refine (R.out _).mono ?_
              rintro e w5 ⟨rfl, rfl⟩
              generalize y i / 2 ^ c = x at *
              clear R
              go_wp2
              go_roundw
              case rel => exact ⟨j + 1, by omega, by go_num, by rw [EX.out]; exact (hr.out.set k4 _).congr e3.out, hbl.setCell (Nat.le_refl _) _⟩
              case measure => simp [intOf]; omega
            · have : j = 4 := by omega
              subst this
              have hr4 : Hid (RowAt wr p 44 (rowOf 32 (w8 (part (hashN y) zeroN (4 * (i + 1)))))) := hr
              clear hr
              go_wp2
              go_roundw
              case rel => exact ⟨i + 1, by omega, by go_num, hr4, hbl⟩
              case measure => simp [intOf]; omega
        · have : i = 8 := by omega
          subst this
          have hr2 : Hid (RowAt wr p 44 (rowOf 32 (w8 (hashN y)))) := hr.out.congr (rowOf_congr fun k hk => by unfold w8; rw [part_below _ _ _ _ (by omega)])
          have hq : Hid (RowAt wr w.heap.size 44 (rowOf 32 (w8 zeroN))) := hHr.out.below hbl (by omega)
          clear hr
          generalize hashN y = z at *
          go_wp2_with (first | (refine wpList_load_row rfl 44 _ rfl p rfl 44 _ (0, 0) _ hr2.out Tryd.underlying44 rfl (info_hash _) ?_) | (refine wpList_store_row rfl 44 _ _ rfl w.heap.size (rowOf 32 (w8 z)) rfl rfl 44 _ hq.out (info_hash _) (by rw [rowOf_size, rowOf_size]) (rowOf_cells8 _ _) ?_))
          refine bodyPost_ret (v := .agg (rowOf 32 (w8 z))) ?_ rfl ⟨by rw [E.out], below_setRow' (b3.trans (hbl.mono (by omega))) (Nat.le_refl _) _⟩
          exact results_cell_row Tryd.results16 _ _ w.heap.size 44 (rowOf 32 (w8 z)) (0, 0) _ rfl (hq.out.setRow _) Tryd.underlying44 rfl (info_hash _)

end Go.Proofs.YtcglbbkphgdnmaaDoor
