/-
  Contract: the document's Mac.
-/
import Derived.Test.YtedmdojmgccclaaDoorMacRef
namespace Go.Proofs.YtedmdojmgccclaaDoor
open Go.RowKit

theorem blockN_short (key : List UInt8) (h : key.length ≤ 64) : byteL key = blockN key := by unfold blockN; rw [if_pos h]
theorem blockN_long (key : List UInt8) (h : ¬ key.length ≤ 64) : byteL (listB 32 (sumN key)) = blockN key := by
  funext j
  rw [byteL_listB _ _ (sumN_bytes key)]
  unfold blockN
  rw [if_neg h]

set_option maxHeartbeats 1000000 in
set_option maxRecDepth 8000 in
theorem refMac_short (key : ByteArray) (hk : key.size ≤ 64) (s : ByteArray) (hs : s.size ≤ 90000) (w : World) :
    Calls Tryd.prog 28 #[.string key, .string s] w fun e w' => e = .returned (.agg (rowOf 32 (w8 (macN key.data.toList s.data.toList)))) ∧ Below w.heap.size w w' := by
  have hL : key.data.toList.length = key.size := by simp
  have d : decide ((64 : Int) < (key.size : Int)) = false := decide_eq_false (by omega)
  have HB := Lib.hid (blockN_short key.data.toList (by omega))
  clear hL
  have r0 : Hid (RowAt (w.alloc (.cells (rowOf 32 (w8 zeroN)) 59)) w.heap.size 59 (rowOf 32 (w8 zeroN))) := RowAt.new _ _ _
  have b0 : Below w.heap.size w (w.alloc (.cells (rowOf 32 (w8 zeroN)) 59)) := (Below.refl _ _).alloc (Nat.le_refl _) _
  rw [z8_32] at r0 b0
  go_enter Tryd.func28, Tryd.ntmps28
  have l54 : (mixL (byteL key.data.toList) 54).length = 64 := listB_length _ _
  have l92 : (mixL (byteL key.data.toList) 92).length = 64 := listB_length _ _
  have s54 : (bs (mixL (byteL key.data.toList) 54)).size = 64 := by rw [bs_size, l54]
  have s92 : (bs (mixL (byteL key.data.toList) 92)).size = 64 := by rw [bs_size, l92]
  have E54 : Hid ((bs (mixL (byteL key.data.toList) 54) ++ s).data.toList = mixL (blockN key.data.toList) 54 ++ s.data.toList) := by unfold Hid; rw [bs_append, HB.out]; rfl
  have z54 : (bs (mixL (byteL key.data.toList) 54) ++ s).size ≤ 100000 := by rw [ByteArray.size_append]; omega
  have M92 : Hid (∀ w', Calls Tryd.prog 37 #[.string key, .int .u8 92] w' fun e w'' => e = .returned (.string (bs (mixL (byteL key.data.toList) 92))) ∧ Below w'.heap.size w' w'') := fun w' => refMixed_any key 92 (by decide) w'
  have E92 : Hid (∀ y, (bs (mixL (byteL key.data.toList) 92) ++ bs (listB 32 y)).data.toList = mixL (blockN key.data.toList) 92 ++ listB 32 y) := by intro y; rw [bs_append, HB.out]; rfl
  clear HB l54 l92
  go_wp2_with fail
  refine (refMixed_any key 54 (by decide) _).mono ?_
  rw [← z8_32] at r0 b0
  rintro e w2 ⟨rfl, hb2⟩
  replace r0 : Hid (RowAt w2 w.heap.size 59 (rowOf 32 (w8 zeroN))) := r0.out.below hb2 r0.out.lt
  replace b0 : Below w.heap.size w w2 := b0.trans (hb2.mono b0.size)
  clear hb2
  generalize bs (mixL (byteL key.data.toList) 54) = m5 at *
  generalize bs (mixL (byteL key.data.toList) 92) = m9 at *
  have ns : ¬ 9223372036854775807 < m5.size + s.size := by omega
  go_wp2_with fail
  refine (refSum_any (m5 ++ s) z54 _).mono ?_
  rintro e w4 ⟨rfl, hb4⟩
  replace r0 : Hid (RowAt w4 w.heap.size 59 (rowOf 32 (w8 zeroN))) := r0.out.below hb4 r0.out.lt
  replace b0 : Below w.heap.size w w4 := b0.trans (hb4.mono b0.size)
  clear hb4 ns
  rw [E54.out]
  have hY := Lib.hid (sumN_bytes (mixL (blockN key.data.toList) 54 ++ s.data.toList))
  have E : Hid (macN key.data.toList s.data.toList = sumN (mixL (blockN key.data.toList) 92 ++ listB 32 (sumN (mixL (blockN key.data.toList) 54 ++ s.data.toList)))) := rfl
  generalize sumN (mixL (blockN key.data.toList) 54 ++ s.data.toList) = y at *
  have hpq : w.heap.size < w4.heap.size := r0.out.lt
  go_wp2_with (refine wpList_store_row rfl 59 _ _ rfl w4.heap.size (rowOf 32 (w8 y)) rfl rfl 59 _ (RowAt.new _ _ _) (info_hash _) (by rw [rowOf_size]; rfl) (rowOf_cells8 _ _) ?_; rw [World.setRow_alloc_new]; have r1 := Lib.hid (RowAt.new w4 59 (rowOf 32 (w8 y))); replace r0 := Lib.hid (r0.out.alloc (.cells (rowOf 32 (w8 y)) 59)); replace b0 := b0.alloc b0.size (.cells (rowOf 32 (w8 y)) 59); generalize w4.alloc _ = w5 at *; generalize w4.heap.size = q at *)
  simp only [Act.put]
  have sl := run_slice_all (P := Tryd.prog) Tryd.underlying59 sz8 q
  have cv : Hid (∀ w', RowAt w' q 59 (rowOf 32 (w8 y)) → (convert 54 9 (.slice (some ⟨q, 0, none⟩) 32 32)).run Tryd.prog w' = .ok (.string (bs (listB 32 y))) w') :=
    fun w' hr => block_string hY.out Tryd.underlying54 Tryd.underlying5 Tryd.underlying9 hr
  have s32 : (bs (listB 32 y)).size = 32 := by rw [bs_size, listB_length]
  have S2 : Hid (∀ w', Calls Tryd.prog 36 #[.string (m9 ++ bs (listB 32 y))] w' fun e w'' => e = .returned (.agg (rowOf 32 (w8 (sumN (mixL (blockN key.data.toList) 92 ++ listB 32 y))))) ∧ Below w'.heap.size w' w'') := by
    intro w'
    have h := refSum_any (m9 ++ bs (listB 32 y)) (by rw [ByteArray.size_append]; omega) w'
    rw [E92.out] at h
    exact h
  generalize sumN (mixL (blockN key.data.toList) 92 ++ listB 32 y) = z at *
  generalize bs (listB 32 y) = h9 at *
  have ns : ¬ 9223372036854775807 < m9.size + h9.size := by omega
  have HC : MacC w w.heap.size q y w5.drew := ⟨b0.drew, r1.out, zeroN, r0.out⟩
  clear b0 r0 r1 hY E92 E54
  refine wp_region_firm (MacC w w.heap.size q y) [eqv (.string key), eqv (.string m9), eqv (.slice (some ⟨q, 0, none⟩) 32 32), eqv (.string h9), eqv (.string (m9 ++ h9)), eqv (.agg (rowOf 32 (w8 z))), rowv w.heap.size 59 (rowOf 32 (w8 z))] (by kernel_rfl) (by kernel_rfl) HC
    (.cons (steady_eqv _) (.cons (steady_eqv _) (.cons (steady_eqv _) (.cons (steady_eqv _) (.cons (steady_eqv _) (.cons (steady_eqv _) (.cons (steady_rowv _ _ _) .nil))))))) w.heap.size (rowOf 32 (w8 z))
    (fun w' hC => by
      obtain ⟨_, _, f, h3⟩ := hC
      exact .cons (fun _ h => h) (.cons (fun _ h => h) (.cons (fun _ h => h) (.cons (fun _ h => h) (.cons (fun _ h => h) (.cons (fun _ h => h) (.cons (fun _ _ => h3.setRow _) (.nil _ _))))))))
    ?_
  intro R hR hF
  refine wpRely_cons (fun w' hC hf => ?_) (fun v0 => ?_)
  · exact grows_eqv (by rfl) hC (by go_simp)
  simp only [Act.put, List.setIfInBounds_toArray, List.set_cons_succ, List.set_cons_zero]
  refine wpRely_cons (fun w' hC hf => ?_) (fun v1 => ?_)
  · obtain ⟨rfl, _⟩ := hf
    exact grows_calls hR (fun _ _ hb h => h.after hb) hC (by rfl) (by go_simp) (M92.out w')
  simp only [Act.put, List.setIfInBounds_toArray, List.set_cons_succ, List.set_cons_zero]
  refine wpRely_cons (fun w' hC hf => ?_) (fun v2 => ?_)
  · exact grows_eqv (by rfl) hC (by go_simp)
  simp only [Act.put, List.setIfInBounds_toArray, List.set_cons_succ, List.set_cons_zero]
  refine wpRely_cons (fun w' hC hf => ?_) (fun v3 => ?_)
  · obtain ⟨rfl, _⟩ := hf
    have cw := cv.out w' hC.2.1
    exact grows_eqv (by rfl) hC (by go_simp)
  simp only [Act.put, List.setIfInBounds_toArray, List.set_cons_succ, List.set_cons_zero]
  refine wpRely_cons (fun w' hC hf => ?_) (fun v4 => ?_)
  · obtain ⟨rfl, rfl, _⟩ := hf
    exact grows_eqv (by rfl) hC (by go_simp)
  simp only [Act.put, List.setIfInBounds_toArray, List.set_cons_succ, List.set_cons_zero]
  refine wpRely_cons (fun w' hC hf => ?_) (fun v5 => ?_)
  · obtain ⟨rfl, _⟩ := hf
    exact grows_calls hR (fun _ _ hb h => h.after hb) hC (by rfl) (by go_simp) (S2.out w')
  simp only [Act.put, List.setIfInBounds_toArray, List.set_cons_succ, List.set_cons_zero]
  refine wpRely_cons (fun w' hC hf => ?_) (fun v6 => ?_)
  · obtain ⟨rfl, _⟩ := hf
    obtain ⟨f, h3⟩ := hC.2.2
    exact grows_store (by rfl) rfl rfl rfl h3 (info_hash _) (by rw [rowOf_size, rowOf_size]) (rowOf_cells8 _ _) (MacC.store z (by omega) hC) (hF w' hC)
  simp only [Act.put]
  refine wpRely_nil fun w9 hC hf => ?_
  obtain ⟨_, _, _, _, _, _, h6, _⟩ := hf
  have b9 := hC.1
  clear M92 S2 cv hC hF ns
  go_wp2
  refine bodyPost_ret (v := .agg (rowOf 32 (w8 z))) ?_ rfl ⟨by rw [E.out], b9⟩
  exact results_cell_row Tryd.results28 _ _ w.heap.size 59 (rowOf 32 (w8 z)) (0, 0) _ rfl h6 Tryd.underlying59 rfl (info_hash _)

set_option maxHeartbeats 1000000 in
set_option maxRecDepth 8000 in
theorem refMac_long (key : ByteArray) (hk : 64 < key.size) (hk2 : key.size ≤ 90000) (s : ByteArray) (hs : s.size ≤ 90000) (w : World) :
    Calls Tryd.prog 28 #[.string key, .string s] w fun e w' => e = .returned (.agg (rowOf 32 (w8 (macN key.data.toList s.data.toList)))) ∧ Below w.heap.size w w' := by
  have hL : key.data.toList.length = key.size := by simp
  have d : decide ((64 : Int) < (key.size : Int)) = true := decide_eq_true (by omega)
  have HB' := Lib.hid (blockN_long key.data.toList (by omega))
  clear hL
  have r0 : Hid (RowAt (w.alloc (.cells (rowOf 32 (w8 zeroN)) 59)) w.heap.size 59 (rowOf 32 (w8 zeroN))) := RowAt.new _ _ _
  have b0 : Below w.heap.size w (w.alloc (.cells (rowOf 32 (w8 zeroN)) 59)) := (Below.refl _ _).alloc (Nat.le_refl _) _
  rw [z8_32] at r0 b0
  go_enter Tryd.func28, Tryd.ntmps28
  go_wp2_with fail
  refine (refSum_any key (by omega) _).mono ?_
  rw [← z8_32] at r0 b0
  rintro e w1 ⟨rfl, hb1⟩
  replace r0 : Hid (RowAt w1 w.heap.size 59 (rowOf 32 (w8 zeroN))) := r0.out.below hb1 r0.out.lt
  replace b0 : Below w.heap.size w w1 := b0.trans (hb1.mono b0.size)
  clear hb1
  have hU := Lib.hid (sumN_bytes key.data.toList)
  generalize sumN key.data.toList = u at *
  go_wp2_with (refine wpList_store_row rfl 59 _ _ rfl w1.heap.size (rowOf 32 (w8 u)) rfl rfl 59 _ (RowAt.new _ _ _) (info_hash _) (by rw [rowOf_size]; rfl) (rowOf_cells8 _ _) ?_; rw [World.setRow_alloc_new]; have r1 := Lib.hid (RowAt.new w1 59 (rowOf 32 (w8 u))); replace r0 := Lib.hid (r0.out.alloc (.cells (rowOf 32 (w8 u)) 59)); replace b0 := b0.alloc b0.size (.cells (rowOf 32 (w8 u)) 59); generalize w1.alloc _ = w3 at *; generalize w1.heap.size = q1 at *; have sl1 := run_slice_all (P := Tryd.prog) Tryd.underlying59 sz8 q1; have cv1 : (convert 54 9 (.slice (some ⟨q1, 0, none⟩) 32 32)).run Tryd.prog w3 = .ok (.string (bs (listB 32 u))) w3 := block_string hU.out Tryd.underlying54 Tryd.underlying5 Tryd.underlying9 r1.out; have HB : Hid (byteL (bs (listB 32 u)).data.toList = blockN key.data.toList) := HB'.out; generalize bs (listB 32 u) = key2 at *; clear r1 HB' hU)
  have l54 : (mixL (byteL key2.data.toList) 54).length = 64 := listB_length _ _
  have l92 : (mixL (byteL key2.data.toList) 92).length = 64 := listB_length _ _
  have s54 : (bs (mixL (byteL key2.data.toList) 54)).size = 64 := by rw [bs_size, l54]
  have s92 : (bs (mixL (byteL key2.data.toList) 92)).size = 64 := by rw [bs_size, l92]
  have E54 : Hid ((bs (mixL (byteL key2.data.toList) 54) ++ s).data.toList = mixL (blockN key.data.toList) 54 ++ s.data.toList) := by unfold Hid; rw [bs_append, HB.out]; rfl
  have z54 : (bs (mixL (byteL key2.data.toList) 54) ++ s).size ≤ 100000 := by rw [ByteArray.size_append]; omega
  have M92 : Hid (∀ w', Calls Tryd.prog 37 #[.string key2, .int .u8 92] w' fun e w'' => e = .returned (.string (bs (mixL (byteL key2.data.toList) 92))) ∧ Below w'.heap.size w' w'') := fun w' => refMixed_any key2 92 (by decide) w'
  have E92 : Hid (∀ y, (bs (mixL (byteL key2.data.toList) 92) ++ bs (listB 32 y)).data.toList = mixL (blockN key.data.toList) 92 ++ listB 32 y) := by intro y; rw [bs_append, HB.out]; rfl
  clear HB l54 l92
  refine (refMixed_any key2 54 (by decide) _).mono ?_
  rintro e w2 ⟨rfl, hb2⟩
  replace r0 : Hid (RowAt w2 w.heap.size 59 (rowOf 32 (w8 zeroN))) := r0.out.below hb2 r0.out.lt
  replace b0 : Below w.heap.size w w2 := b0.trans (hb2.mono b0.size)
  clear hb2
  generalize bs (mixL (byteL key2.data.toList) 54) = m5 at *
  generalize bs (mixL (byteL key2.data.toList) 92) = m9 at *
  have ns : ¬ 9223372036854775807 < m5.size + s.size := by omega
  go_wp2_with fail
  refine (refSum_any (m5 ++ s) z54 _).mono ?_
  rintro e w4 ⟨rfl, hb4⟩
  replace r0 : Hid (RowAt w4 w.heap.size 59 (rowOf 32 (w8 zeroN))) := r0.out.below hb4 r0.out.lt
  replace b0 : Below w.heap.size w w4 := b0.trans (hb4.mono b0.size)
  clear hb4 ns
  rw [E54.out]
  have hY := Lib.hid (sumN_bytes (mixL (blockN key.data.toList) 54 ++ s.data.toList))
  have E : Hid (macN key.data.toList s.data.toList = sumN (mixL (blockN key.data.toList) 92 ++ listB 32 (sumN (mixL (blockN key.data.toList) 54 ++ s.data.toList)))) := rfl
  generalize sumN (mixL (blockN key.data.toList) 54 ++ s.data.toList) = y at *
  have hpq : w.heap.size < w4.heap.size := r0.out.lt
  go_wp2_with (refine wpList_store_row rfl 59 _ _ rfl w4.heap.size (rowOf 32 (w8 y)) rfl rfl 59 _ (RowAt.new _ _ _) (info_hash _) (by rw [rowOf_size]; rfl) (rowOf_cells8 _ _) ?_; rw [World.setRow_alloc_new]; have r1 := Lib.hid (RowAt.new w4 59 (rowOf 32 (w8 y))); replace r0 := Lib.hid (r0.out.alloc (.cells (rowOf 32 (w8 y)) 59)); replace b0 := b0.alloc b0.size (.cells (rowOf 32 (w8 y)) 59); generalize w4.alloc _ = w5 at *; generalize w4.heap.size = q at *)
  simp only [Act.put]
  have sl := run_slice_all (P := Tryd.prog) Tryd.underlying59 sz8 q
  have cv : Hid (∀ w', RowAt w' q 59 (rowOf 32 (w8 y)) → (convert 54 9 (.slice (some ⟨q, 0, none⟩) 32 32)).run Tryd.prog w' = .ok (.string (bs (listB 32 y))) w') :=
    fun w' hr => block_string hY.out Tryd.underlying54 Tryd.underlying5 Tryd.underlying9 hr
  have s32 : (bs (listB 32 y)).size = 32 := by rw [bs_size, listB_length]
  have S2 : Hid (∀ w', Calls Tryd.prog 36 #[.string (m9 ++ bs (listB 32 y))] w' fun e w'' => e = .returned (.agg (rowOf 32 (w8 (sumN (mixL (blockN key.data.toList) 92 ++ listB 32 y))))) ∧ Below w'.heap.size w' w'') := by
    intro w'
    have h := refSum_any (m9 ++ bs (listB 32 y)) (by rw [ByteArray.size_append]; omega) w'
    rw [E92.out] at h
    exact h
  generalize sumN (mixL (blockN key.data.toList) 92 ++ listB 32 y) = z at *
  generalize bs (listB 32 y) = h9 at *
  have ns : ¬ 9223372036854775807 < m9.size + h9.size := by omega
  have HC : MacC w w.heap.size q y w5.drew := ⟨b0.drew, r1.out, zeroN, r0.out⟩
  clear b0 r0 r1 hY E92 E54
  refine wp_region_firm (MacC w w.heap.size q y) [eqv (.string key2), eqv (.string m9), eqv (.slice (some ⟨q, 0, none⟩) 32 32), eqv (.string h9), eqv (.string (m9 ++ h9)), eqv (.agg (rowOf 32 (w8 z))), rowv w.heap.size 59 (rowOf 32 (w8 z))] (by kernel_rfl) (by kernel_rfl) HC
    (.cons (steady_eqv _) (.cons (steady_eqv _) (.cons (steady_eqv _) (.cons (steady_eqv _) (.cons (steady_eqv _) (.cons (steady_eqv _) (.cons (steady_rowv _ _ _) .nil))))))) w.heap.size (rowOf 32 (w8 z))
    (fun w' hC => by
      obtain ⟨_, _, f, h3⟩ := hC
      exact .cons (fun _ h => h) (.cons (fun _ h => h) (.cons (fun _ h => h) (.cons (fun _ h => h) (.cons (fun _ h => h) (.cons (fun _ h => h) (.cons (fun _ _ => h3.setRow _) (.nil _ _))))))))
    ?_
  intro R hR hF
  refine wpRely_cons (fun w' hC hf => ?_) (fun v0 => ?_)
  · exact grows_eqv (by rfl) hC (by go_simp)
  simp only [Act.put, List.setIfInBounds_toArray, List.set_cons_succ, List.set_cons_zero]
  refine wpRely_cons (fun w' hC hf => ?_) (fun v1 => ?_)
  · obtain ⟨rfl, _⟩ := hf
    exact grows_calls hR (fun _ _ hb h => h.after hb) hC (by rfl) (by go_simp) (M92.out w')
  simp only [Act.put, List.setIfInBounds_toArray, List.set_cons_succ, List.set_cons_zero]
  refine wpRely_cons (fun w' hC hf => ?_) (fun v2 => ?_)
  · exact grows_eqv (by rfl) hC (by go_simp)
  simp only [Act.put, List.setIfInBounds_toArray, List.set_cons_succ, List.set_cons_zero]
  refine wpRely_cons (fun w' hC hf => ?_) (fun v3 => ?_)
  · obtain ⟨rfl, _⟩ := hf
    have cw := cv.out w' hC.2.1
    exact grows_eqv (by rfl) hC (by go_simp)
  simp only [Act.put, List.setIfInBounds_toArray, List.set_cons_succ, List.set_cons_zero]
  refine wpRely_cons (fun w' hC hf => ?_) (fun v4 => ?_)
  · obtain ⟨rfl, rfl, _⟩ := hf
    exact grows_eqv (by rfl) hC (by go_simp)
  simp only [Act.put, List.setIfInBounds_toArray, List.set_cons_succ, List.set_cons_zero]
  refine wpRely_cons (fun w' hC hf => ?_) (fun v5 => ?_)
  · obtain ⟨rfl, _⟩ := hf
    exact grows_calls hR (fun _ _ hb h => h.after hb) hC (by rfl) (by go_simp) (S2.out w')
  simp only [Act.put, List.setIfInBounds_toArray, List.set_cons_succ, List.set_cons_zero]
  refine wpRely_cons (fun w' hC hf => ?_) (fun v6 => ?_)
  · obtain ⟨rfl, _⟩ := hf
    obtain ⟨f, h3⟩ := hC.2.2
    exact grows_store (by rfl) rfl rfl rfl h3 (info_hash _) (by rw [rowOf_size, rowOf_size]) (rowOf_cells8 _ _) (MacC.store z (by omega) hC) (hF w' hC)
  simp only [Act.put]
  refine wpRely_nil fun w9 hC hf => ?_
  obtain ⟨_, _, _, _, _, _, h6, _⟩ := hf
  have b9 := hC.1
  clear M92 S2 cv hC hF ns
  go_wp2
  refine bodyPost_ret (v := .agg (rowOf 32 (w8 z))) ?_ rfl ⟨by rw [E.out], b9⟩
  exact results_cell_row Tryd.results28 _ _ w.heap.size 59 (rowOf 32 (w8 z)) (0, 0) _ rfl h6 Tryd.underlying59 rfl (info_hash _)

theorem refMac_any (key : ByteArray) (hk : key.size ≤ 90000) (s : ByteArray) (hs : s.size ≤ 90000) (w : World) :
    Calls Tryd.prog 28 #[.string key, .string s] w fun e w' => e = .returned (.agg (rowOf 32 (w8 (macN key.data.toList s.data.toList)))) ∧ Below w.heap.size w w' := by
  by_cases h : key.size ≤ 64
  · exact refMac_short key h s hs w
  · exact refMac_long key (by omega) hk s hs w

end Go.Proofs.YtedmdojmgccclaaDoor
