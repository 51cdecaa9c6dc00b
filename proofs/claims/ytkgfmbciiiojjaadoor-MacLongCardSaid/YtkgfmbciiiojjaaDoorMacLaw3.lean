/-
  The walk of the law MacLong.
-/
import Derived.Test.YtkgfmbciiiojjaaDoorMacSame
namespace Go.Proofs.YtkgfmbciiiojjaaDoor
open Go.RowKit

/-- A tag hangs on the key's block alone. -/
theorem macN_congr {k1 k2 : List UInt8} (h : blockN k1 = blockN k2) (T : List UInt8) : macN k1 T = macN k2 T := by
  unfold macN
  rw [h]

theorem macN_long (key T : List UInt8) (h : ¬ key.length ≤ 64) : macN (listB 32 (sumN key)) T = macN key T :=
  macN_congr (by rw [← blockN_short _ (by rw [listB_length]; decide), blockN_long key h]) T

theorem listB_zero (m : Nat) : listB m zeroN = List.replicate m 0 := by
  apply List.ext_getElem
  · simp [listB]
  · intro j h1 h2
    simp [listB, zeroN]

theorem macN_zeros (key T : List UInt8) (m : Nat) (h : key.length + m ≤ 64) : macN (key ++ listB m zeroN) T = macN key T := by
  refine macN_congr ?_ T
  rw [← blockN_short _ (by rw [List.length_append, listB_length]; exact h), ← blockN_short key (by omega)]
  funext j
  by_cases hj : j < key.length
  · exact byteL_append _ _ _ hj
  · rw [byteL_append_right _ _ _ (by omega), byteL_none key j (by omega), listB_zero]
    unfold byteL
    rw [List.getD_eq_getElem?_getD]
    by_cases h2 : j - key.length < m
    · rw [List.getElem?_replicate, if_pos h2]; rfl
    · rw [List.getElem?_eq_none (by simp; omega)]; rfl

/-- What stays: two sums in their blocks; the rest above. -/
def LongC (w : World) (p q : Nat) (y u : Nat → Nat) (w' : World) : Prop := Below w.heap.size w w' ∧ RowAt w' p 27 (rowOf 32 (w8 y)) ∧ RowAt w' q 27 (rowOf 32 (w8 u))

theorem LongC.after {w w1 w2 : World} {p q : Nat} {y u : Nat → Nat} (hb : Below w1.heap.size w1 w2) (h : LongC w p q y u w1) : LongC w p q y u w2 := ⟨h.1.trans (hb.mono h.1.size), h.2.1.below hb h.2.1.lt, h.2.2.below hb h.2.2.lt⟩

set_option maxHeartbeats 1000000 in
set_option maxRecDepth 8000 in
theorem macLong_long (key : ByteArray) (s : ByteArray) (z : Nat) (hz : z < 256) (z1 : key.size ≤ 300) (z2 : s.size ≤ 300) (h64 : 64 < key.size) (w : World) (hk : KRow w) :
    Calls Tryd.prog 5 #[.string key, .string s, .int .u8 (z : Int)] w fun e w' => e = .returned (.bool true) ∧ Below w.heap.size w w' := by
  have d1 : decide ((300 : Int) < (key.size : Int)) = false := decide_eq_false (by omega)
  have d2 : decide ((300 : Int) < (s.size : Int)) = false := decide_eq_false (by omega)
  have hL : key.data.toList.length = key.size := by simp
  have d3 : decide ((64 : Int) < (key.size : Int)) = true := decide_eq_true (by omega)
  have HE := Lib.hid (macN_long key.data.toList s.data.toList (by omega))
  have HK := Lib.hid hk
  clear hk
  go_enter Tryd.func5, Tryd.ntmps5
  go_wp2_with fail
  refine (shown3_any _ HK).mono ?_
  rintro e w1 ⟨rfl, hb1⟩
  have hb1' : Below w.heap.size w (w1.alloc (.cells #[.string s] 9)) := hb1.alloc hb1.size _
  have M1 := Lib.hid (mac_row key (by omega) s (by omega) w1.heap.size (w1.alloc (.cells #[.string s] 9)) (HK.out.below hb1' HK.out.1 hb1'.size) (RowAt.new w1 9 _))
  generalize hy : macN key.data.toList s.data.toList = y at *
  have HY := Lib.hid hy
  clear hy
  go_wp2_with fail
  refine M1.out.mono ?_
  rintro e w2 ⟨rfl, hb2⟩
  have b2 : Below w.heap.size w w2 := hb1'.trans (hb2.mono hb1'.size)
  clear hb1 hb1' hb2 M1
  go_wp2_with (refine wpList_store_row rfl 27 _ _ rfl w2.heap.size (rowOf 32 (w8 y)) rfl rfl 27 _ (RowAt.new _ _ _) (info_hash _) (by rw [rowOf_size]; rfl) (rowOf_cells8 _ _) ?_; rw [World.setRow_alloc_new]; have r0 := Lib.hid (RowAt.new w2 27 (rowOf 32 (w8 y))); have b3 := b2.alloc b2.size (.cells (rowOf 32 (w8 y)) 27); generalize w2.alloc _ = w3 at *; generalize w2.heap.size = p at *)
  refine (sum_one key (by omega) w3 (HK.out.below b3 HK.out.1 b3.size)).mono ?_
  rintro e w4 ⟨rfl, hb4⟩
  have r1 : Hid (RowAt w4 p 27 (rowOf 32 (w8 y))) := r0.out.below hb4 r0.out.lt
  have b4 : Below w.heap.size w w4 := b3.trans (hb4.mono b3.size)
  clear hb4 b3 r0
  have hU := Lib.hid (sumN_bytes key.data.toList)
  generalize sumN key.data.toList = u at *
  go_wp2_with (refine wpList_store_row rfl 27 _ _ rfl w4.heap.size (rowOf 32 (w8 u)) rfl rfl 27 _ (RowAt.new _ _ _) (info_hash _) (by rw [rowOf_size]; rfl) (rowOf_cells8 _ _) ?_; rw [World.setRow_alloc_new]; have r2 := Lib.hid (RowAt.new w4 27 (rowOf 32 (w8 u))); have b5 := b4.alloc b4.size (.cells (rowOf 32 (w8 u)) 27); have r3 := Lib.hid (r1.out.alloc (.cells (rowOf 32 (w8 u)) 27)); generalize w4.alloc _ = w5 at *; generalize w4.heap.size = q at *)
  simp only [Act.put]
  have sl := run_slice_all (P := Tryd.prog) Tryd.underlying27 sz8 q
  have cv : Hid (∀ w', RowAt w' q 27 (rowOf 32 (w8 u)) → (convert 35 9 (.slice (some ⟨q, 0, none⟩) 32 32)).run Tryd.prog w' = .ok (.string (bs (listB 32 u))) w') :=
    fun w' hr => block_string hU.out Tryd.underlying35 Tryd.underlying5 Tryd.underlying9 hr
  have M2 : Hid (∀ w' p, Below w.heap.size w w' → RowAt w' p 9 ([s].map Value.string).toArray → Calls Tryd.prog 10 #[.string (bs (listB 32 u)), .slice (some ⟨p, 0, none⟩) 1 1] w' fun e w'' => e = .returned (.agg (rowOf 32 (w8 y))) ∧ Below w'.heap.size w' w'') := by
    intro w' p hb hr
    have h := mac_row (bs (listB 32 u)) (by rw [bs_size, listB_length]; decide) s (by omega) p w' (HK.out.below hb HK.out.1 hb.size) hr
    rw [show macN (bs (listB 32 u)).data.toList s.data.toList = y from HE.out] at h
    exact h
  generalize bs (listB 32 u) = h9 at *
  have HC : LongC w p q y u w5.drew := ⟨b5.drew, r3.out, r2.out⟩
  clear b5 r3 r2 b4 r1 hU HE HY HK b2
  refine wp_region_steady (LongC w p q y u) [eqv (.agg (rowOf 32 (w8 y))), eqv (.slice (some ⟨q, 0, none⟩) 32 32), eqv (.string h9), eqv (.string s), seesv [s], eqv (.agg (rowOf 32 (w8 y))), eqv (.bool true), eqv (.bool true)] (by kernel_rfl) (by kernel_rfl) HC
    (.cons (steady_eqv _) (.cons (steady_eqv _) (.cons (steady_eqv _) (.cons (steady_eqv _) (.cons (steady_seesv _) (.cons (steady_eqv _) (.cons (steady_eqv _) (.cons (steady_eqv _) .nil)))))))) ?_
  intro R hR
  refine wpRely_cons (fun w' hC hf => ?_) (fun v0 => ?_)
  · (repeat (first | (obtain ⟨rfl, hf⟩ := hf) | (obtain ⟨⟨q, rfl, hq⟩, hf⟩ := hf) | (obtain ⟨_, hf⟩ := hf)))
    exact grows_load (by rfl) hC rfl rfl (hC.2.1) Tryd.underlying27 rfl (info_hash _)
  simp only [Act.put, List.setIfInBounds_toArray, List.set_cons_succ, List.set_cons_zero, List.nil_append, List.cons_append]
  refine wpRely_cons (fun w' hC hf => ?_) (fun v1 => ?_)
  · (repeat (first | (obtain ⟨rfl, hf⟩ := hf) | (obtain ⟨⟨q, rfl, hq⟩, hf⟩ := hf) | (obtain ⟨_, hf⟩ := hf)))
    exact grows_eqv (by rfl) hC (by go_simp)
  simp only [Act.put, List.setIfInBounds_toArray, List.set_cons_succ, List.set_cons_zero, List.nil_append, List.cons_append]
  refine wpRely_cons (fun w' hC hf => ?_) (fun v2 => ?_)
  · (repeat (first | (obtain ⟨rfl, hf⟩ := hf) | (obtain ⟨⟨q, rfl, hq⟩, hf⟩ := hf) | (obtain ⟨_, hf⟩ := hf)))
    have cw := cv.out w' hC.2.2
    exact grows_eqv (by rfl) hC (by go_simp)
  simp only [Act.put, List.setIfInBounds_toArray, List.set_cons_succ, List.set_cons_zero, List.nil_append, List.cons_append]
  refine wpRely_cons (fun w' hC hf => ?_) (fun v3 => ?_)
  · (repeat (first | (obtain ⟨rfl, hf⟩ := hf) | (obtain ⟨⟨q, rfl, hq⟩, hf⟩ := hf) | (obtain ⟨_, hf⟩ := hf)))
    exact grows_eqv (by rfl) hC (by go_simp)
  simp only [Act.put, List.setIfInBounds_toArray, List.set_cons_succ, List.set_cons_zero, List.nil_append, List.cons_append]
  refine wpRely_cons (fun w' hC hf => ?_) (fun v4 => ?_)
  · (repeat (first | (obtain ⟨rfl, hf⟩ := hf) | (obtain ⟨⟨q, rfl, hq⟩, hf⟩ := hf) | (obtain ⟨_, hf⟩ := hf)))
    exact grows_strs hR (fun _ _ hb h => h.after hb) hC (by rfl) (by go_simp)
  simp only [Act.put, List.setIfInBounds_toArray, List.set_cons_succ, List.set_cons_zero, List.nil_append, List.cons_append]
  refine wpRely_cons (fun w' hC hf => ?_) (fun v5 => ?_)
  · (repeat (first | (obtain ⟨rfl, hf⟩ := hf) | (obtain ⟨⟨q, rfl, hq⟩, hf⟩ := hf) | (obtain ⟨_, hf⟩ := hf)))
    exact grows_calls hR (fun _ _ hb h => h.after hb) hC (by rfl) (by go_simp) (M2.out w' q hC.1 hq)
  simp only [Act.put, List.setIfInBounds_toArray, List.set_cons_succ, List.set_cons_zero, List.nil_append, List.cons_append]
  refine wpRely_cons (fun w' hC hf => ?_) (fun v6 => ?_)
  · (repeat (first | (obtain ⟨rfl, hf⟩ := hf) | (obtain ⟨⟨q, rfl, hq⟩, hf⟩ := hf) | (obtain ⟨_, hf⟩ := hf)))
    exact grows_eqv (by rfl) hC (run_eql_hash y rfl rfl rfl w')
  simp only [Act.put, List.setIfInBounds_toArray, List.set_cons_succ, List.set_cons_zero, List.nil_append, List.cons_append]
  refine wpRely_cons (fun w' hC hf => ?_) (fun v7 => ?_)
  · (repeat (first | (obtain ⟨rfl, hf⟩ := hf) | (obtain ⟨⟨q, rfl, hq⟩, hf⟩ := hf) | (obtain ⟨_, hf⟩ := hf)))
    exact grows_eqv (by rfl) hC (by go_simp)
  simp only [Act.put, List.setIfInBounds_toArray, List.set_cons_succ, List.set_cons_zero, List.nil_append, List.cons_append]
  refine wpRely_nil fun w9 hC hf => ?_
  have b9 := hC.1
  obtain ⟨_, _, _, _, _, _, _, f7, _⟩ := hf
  subst f7
  clear M2 cv hC HC
  go_wp2
  go_ret
  exact ⟨rfl, b9⟩

set_option maxHeartbeats 1000000 in
set_option maxRecDepth 8000 in
theorem macLong_short (key : ByteArray) (s : ByteArray) (z : Nat) (hz : z < 256) (z1 : key.size ≤ 300) (z2 : s.size ≤ 300) (h64 : key.size ≤ 64) (w : World) (hk : KRow w) :
    Calls Tryd.prog 5 #[.string key, .string s, .int .u8 (z : Int)] w fun e w' => e = .returned (.bool true) ∧ Below w.heap.size w w' := by
  have d1 : decide ((300 : Int) < (key.size : Int)) = false := decide_eq_false (by omega)
  have d2 : decide ((300 : Int) < (s.size : Int)) = false := decide_eq_false (by omega)
  have hL : key.data.toList.length = key.size := by simp
  have d3 : decide ((64 : Int) < (key.size : Int)) = false := decide_eq_false (by omega)
  obtain ⟨t, ht⟩ : ∃ t, 64 - key.size = t := ⟨_, rfl⟩
  obtain ⟨m, hm⟩ : ∃ m, min z t = m := ⟨_, rfl⟩
  have ez : Hid (IntKind.i64.wrap (z : Int) = (z : Int)) := IntWalk.i64_in _ (by omega)
  have et : Hid (IntKind.i64.wrap (64 - (key.size : Int)) = (t : Int)) := by
    unfold Hid
    rw [IntWalk.i64_in _ (by omega)]
    omega
  have em : Hid ((if t < z then (t : Int) else (z : Int)) = (m : Int)) := by
    unfold Hid
    split <;> omega
  have hm64 : key.size + m ≤ 64 := by omega
  have HE := Lib.hid (macN_zeros key.data.toList s.data.toList m (by omega))
  clear ht hm
  have HK := Lib.hid hk
  clear hk
  go_enter Tryd.func5, Tryd.ntmps5
  go_wp2_with fail
  refine (shown3_any _ HK).mono ?_
  rintro e w1 ⟨rfl, hb1⟩
  have hb1' : Below w.heap.size w (w1.alloc (.cells #[.string s] 9)) := hb1.alloc hb1.size _
  have M1 := Lib.hid (mac_row key (by omega) s (by omega) w1.heap.size (w1.alloc (.cells #[.string s] 9)) (HK.out.below hb1' HK.out.1 hb1'.size) (RowAt.new w1 9 _))
  generalize hy : macN key.data.toList s.data.toList = y at *
  have HY := Lib.hid hy
  clear hy
  go_wp2_with fail
  refine M1.out.mono ?_
  rintro e w2 ⟨rfl, hb2⟩
  have b2 : Below w.heap.size w w2 := hb1'.trans (hb2.mono hb1'.size)
  clear hb1 hb1' hb2 M1
  go_wp2_with (refine wpList_store_row rfl 27 _ _ rfl w2.heap.size (rowOf 32 (w8 y)) rfl rfl 27 _ (RowAt.new _ _ _) (info_hash _) (by rw [rowOf_size]; rfl) (rowOf_cells8 _ _) ?_; rw [World.setRow_alloc_new]; have r0 := Lib.hid (RowAt.new w2 27 (rowOf 32 (w8 y))); have b3 := b2.alloc b2.size (.cells (rowOf 32 (w8 y)) 27); generalize w2.alloc _ = w3 at *; generalize w2.heap.size = p at *)
  have cv : Hid (∀ w' q, RowAt w' q 5 (rowOf m (w8 zeroN)) → (convert 35 9 (.slice (some ⟨q, 0, none⟩) m m)).run Tryd.prog w' = .ok (.string (bs (listB m zeroN))) w') :=
    fun w' q hr => block_string zero_bytes Tryd.underlying35 Tryd.underlying5 Tryd.underlying9 hr
  have hz8 : (bs (listB m zeroN)).size = m := by rw [bs_size, listB_length]
  have M2 : Hid (∀ w' p, Below w.heap.size w w' → RowAt w' p 9 ([s].map Value.string).toArray → Calls Tryd.prog 10 #[.string (key ++ bs (listB m zeroN)), .slice (some ⟨p, 0, none⟩) 1 1] w' fun e w'' => e = .returned (.agg (rowOf 32 (w8 y))) ∧ Below w'.heap.size w' w'') := by
    intro w' p hb hr
    have h := mac_row (key ++ bs (listB m zeroN)) (by rw [ByteArray.size_append]; omega) s (by omega) p w' (HK.out.below hb HK.out.1 hb.size) hr
    rw [show macN (key ++ bs (listB m zeroN)).data.toList s.data.toList = y by rw [bs_append]; exact HE.out] at h
    exact h
  have ns : ¬ 9223372036854775807 < key.size + (bs (listB m zeroN)).size := by omega
  clear hz8
  generalize bs (listB m zeroN) = h9 at *
  generalize h89 : key ++ h9 = h8 at *
  have HC : LongC w p p y y w3.drew := ⟨b3.drew, r0.out, r0.out⟩
  clear b3 r0 HE HY HK b2
  refine wp_region_steady (LongC w p p y y) [eqv (.agg (rowOf 32 (w8 y))), eqv (.string key), eqv (.int .u8 (z : Int)), eqv (.int .i64 (z : Int)), eqv (.string key), eqv (.int .i64 (key.size : Int)), eqv (.int .i64 (t : Int)), eqv (.int .i64 (m : Int)), heldv 5 m (rowOf m (w8 zeroN)), eqv (.string h9), eqv (.string h8), eqv (.string s), seesv [s], eqv (.agg (rowOf 32 (w8 y))), eqv (.bool true), eqv (.bool true)] (by kernel_rfl) (by kernel_rfl) HC
    (.cons (steady_eqv _) (.cons (steady_eqv _) (.cons (steady_eqv _) (.cons (steady_eqv _) (.cons (steady_eqv _) (.cons (steady_eqv _) (.cons (steady_eqv _) (.cons (steady_eqv _) (.cons (steady_heldv _ _ _) (.cons (steady_eqv _) (.cons (steady_eqv _) (.cons (steady_eqv _) (.cons (steady_seesv _) (.cons (steady_eqv _) (.cons (steady_eqv _) (.cons (steady_eqv _) .nil)))))))))))))))) ?_
  intro R hR
  refine wpRely_cons (fun w' hC hf => ?_) (fun v0 => ?_)
  · (repeat (first | (obtain ⟨rfl, hf⟩ := hf) | (obtain ⟨⟨q, rfl, hq⟩, hf⟩ := hf) | (obtain ⟨_, hf⟩ := hf)))
    exact grows_load (by rfl) hC rfl rfl (hC.2.1) Tryd.underlying27 rfl (info_hash _)
  simp only [Act.put, List.setIfInBounds_toArray, List.set_cons_succ, List.set_cons_zero, List.nil_append, List.cons_append]
  refine wpRely_cons (fun w' hC hf => ?_) (fun v1 => ?_)
  · (repeat (first | (obtain ⟨rfl, hf⟩ := hf) | (obtain ⟨⟨q, rfl, hq⟩, hf⟩ := hf) | (obtain ⟨_, hf⟩ := hf)))
    exact grows_eqv (by rfl) hC (by go_simp)
  simp only [Act.put, List.setIfInBounds_toArray, List.set_cons_succ, List.set_cons_zero, List.nil_append, List.cons_append]
  refine wpRely_cons (fun w' hC hf => ?_) (fun v2 => ?_)
  · (repeat (first | (obtain ⟨rfl, hf⟩ := hf) | (obtain ⟨⟨q, rfl, hq⟩, hf⟩ := hf) | (obtain ⟨_, hf⟩ := hf)))
    exact grows_eqv (by rfl) hC (by go_simp)
  simp only [Act.put, List.setIfInBounds_toArray, List.set_cons_succ, List.set_cons_zero, List.nil_append, List.cons_append]
  refine wpRely_cons (fun w' hC hf => ?_) (fun v3 => ?_)
  · (repeat (first | (obtain ⟨rfl, hf⟩ := hf) | (obtain ⟨⟨q, rfl, hq⟩, hf⟩ := hf) | (obtain ⟨_, hf⟩ := hf)))
    exact grows_eqv (by rfl) hC (by go_simp; rw [ez.out])
  simp only [Act.put, List.setIfInBounds_toArray, List.set_cons_succ, List.set_cons_zero, List.nil_append, List.cons_append]
  refine wpRely_cons (fun w' hC hf => ?_) (fun v4 => ?_)
  · (repeat (first | (obtain ⟨rfl, hf⟩ := hf) | (obtain ⟨⟨q, rfl, hq⟩, hf⟩ := hf) | (obtain ⟨_, hf⟩ := hf)))
    exact grows_eqv (by rfl) hC (by go_simp)
  simp only [Act.put, List.setIfInBounds_toArray, List.set_cons_succ, List.set_cons_zero, List.nil_append, List.cons_append]
  refine wpRely_cons (fun w' hC hf => ?_) (fun v5 => ?_)
  · (repeat (first | (obtain ⟨rfl, hf⟩ := hf) | (obtain ⟨⟨q, rfl, hq⟩, hf⟩ := hf) | (obtain ⟨_, hf⟩ := hf)))
    exact grows_eqv (by rfl) hC (by go_simp)
  simp only [Act.put, List.setIfInBounds_toArray, List.set_cons_succ, List.set_cons_zero, List.nil_append, List.cons_append]
  refine wpRely_cons (fun w' hC hf => ?_) (fun v6 => ?_)
  · (repeat (first | (obtain ⟨rfl, hf⟩ := hf) | (obtain ⟨⟨q, rfl, hq⟩, hf⟩ := hf) | (obtain ⟨_, hf⟩ := hf)))
    exact grows_eqv (by rfl) hC (by go_simp; rw [et.out])
  simp only [Act.put, List.setIfInBounds_toArray, List.set_cons_succ, List.set_cons_zero, List.nil_append, List.cons_append]
  refine wpRely_cons (fun w' hC hf => ?_) (fun v7 => ?_)
  · (repeat (first | (obtain ⟨rfl, hf⟩ := hf) | (obtain ⟨⟨q, rfl, hq⟩, hf⟩ := hf) | (obtain ⟨_, hf⟩ := hf)))
    exact grows_eqv (by rfl) hC (by go_simp; exact em.out)
  simp only [Act.put, List.setIfInBounds_toArray, List.set_cons_succ, List.set_cons_zero, List.nil_append, List.cons_append]
  refine wpRely_cons (fun w' hC hf => ?_) (fun v8 => ?_)
  · (repeat (first | (obtain ⟨rfl, hf⟩ := hf) | (obtain ⟨⟨q, rfl, hq⟩, hf⟩ := hf) | (obtain ⟨_, hf⟩ := hf)))
    exact grows_make hR (fun _ _ hb h => h.after hb) hC (by rfl) rfl rfl rfl (by omega)
  simp only [Act.put, List.setIfInBounds_toArray, List.set_cons_succ, List.set_cons_zero, List.nil_append, List.cons_append]
  refine wpRely_cons (fun w' hC hf => ?_) (fun v9 => ?_)
  · (repeat (first | (obtain ⟨rfl, hf⟩ := hf) | (obtain ⟨⟨q, rfl, hq⟩, hf⟩ := hf) | (obtain ⟨_, hf⟩ := hf)))
    have cw := cv.out w' _ hq
    exact grows_eqv (by rfl) hC (by go_simp)
  simp only [Act.put, List.setIfInBounds_toArray, List.set_cons_succ, List.set_cons_zero, List.nil_append, List.cons_append]
  refine wpRely_cons (fun w' hC hf => ?_) (fun v10 => ?_)
  · (repeat (first | (obtain ⟨rfl, hf⟩ := hf) | (obtain ⟨⟨q, rfl, hq⟩, hf⟩ := hf) | (obtain ⟨_, hf⟩ := hf)))
    exact grows_eqv (by rfl) hC (by go_simp)
  simp only [Act.put, List.setIfInBounds_toArray, List.set_cons_succ, List.set_cons_zero, List.nil_append, List.cons_append]
  refine wpRely_cons (fun w' hC hf => ?_) (fun v11 => ?_)
  · (repeat (first | (obtain ⟨rfl, hf⟩ := hf) | (obtain ⟨⟨q, rfl, hq⟩, hf⟩ := hf) | (obtain ⟨_, hf⟩ := hf)))
    exact grows_eqv (by rfl) hC (by go_simp)
  simp only [Act.put, List.setIfInBounds_toArray, List.set_cons_succ, List.set_cons_zero, List.nil_append, List.cons_append]
  refine wpRely_cons (fun w' hC hf => ?_) (fun v12 => ?_)
  · (repeat (first | (obtain ⟨rfl, hf⟩ := hf) | (obtain ⟨⟨q, rfl, hq⟩, hf⟩ := hf) | (obtain ⟨_, hf⟩ := hf)))
    exact grows_strs hR (fun _ _ hb h => h.after hb) hC (by rfl) (by go_simp)
  simp only [Act.put, List.setIfInBounds_toArray, List.set_cons_succ, List.set_cons_zero, List.nil_append, List.cons_append]
  refine wpRely_cons (fun w' hC hf => ?_) (fun v13 => ?_)
  · (repeat (first | (obtain ⟨rfl, hf⟩ := hf) | (obtain ⟨⟨q, rfl, hq⟩, hf⟩ := hf) | (obtain ⟨_, hf⟩ := hf)))
    exact grows_calls hR (fun _ _ hb h => h.after hb) hC (by rfl) (by go_simp) (M2.out w' q hC.1 hq)
  simp only [Act.put, List.setIfInBounds_toArray, List.set_cons_succ, List.set_cons_zero, List.nil_append, List.cons_append]
  refine wpRely_cons (fun w' hC hf => ?_) (fun v14 => ?_)
  · (repeat (first | (obtain ⟨rfl, hf⟩ := hf) | (obtain ⟨⟨q, rfl, hq⟩, hf⟩ := hf) | (obtain ⟨_, hf⟩ := hf)))
    exact grows_eqv (by rfl) hC (run_eql_hash y rfl rfl rfl w')
  simp only [Act.put, List.setIfInBounds_toArray, List.set_cons_succ, List.set_cons_zero, List.nil_append, List.cons_append]
  refine wpRely_cons (fun w' hC hf => ?_) (fun v15 => ?_)
  · (repeat (first | (obtain ⟨rfl, hf⟩ := hf) | (obtain ⟨⟨q, rfl, hq⟩, hf⟩ := hf) | (obtain ⟨_, hf⟩ := hf)))
    exact grows_eqv (by rfl) hC (by go_simp)
  simp only [Act.put, List.setIfInBounds_toArray, List.set_cons_succ, List.set_cons_zero, List.nil_append, List.cons_append]
  refine wpRely_nil fun w9 hC hf => ?_
  have b9 := hC.1
  obtain ⟨_, _, _, _, _, _, _, _, _, _, _, _, _, _, _, f15, _⟩ := hf
  subst f15
  clear M2 cv hC HC ns h89
  go_wp2
  go_ret
  exact ⟨rfl, b9⟩

set_option maxHeartbeats 400000 in
theorem walk_MacLong (key : ByteArray) (_h1 : key.size ≤ maxLen) (s : ByteArray) (_h2 : s.size ≤ maxLen) (z : Int) (hz : (Lit.int .u8 z).wf = true) (w : World) (hk : KRow w) :
    Calls Tryd.prog 5 #[.string key, .string s, .int .u8 z] w fun e w' => e = .returned (.bool true) ∧ Below w.heap.size w w' := by
  have HK := Lib.hid hk
  clear hk
  obtain ⟨hz0, hz1⟩ := wf_u8 hz
  obtain ⟨z, rfl⟩ := Int.eq_ofNat_of_zero_le hz0
  clear hz
  by_cases h1 : (300 : Int) < (key.size : Int)
  · go_enter Tryd.func5, Tryd.ntmps5
    go_wp2_with fail
    refine (shown3_any _ HK).mono ?_
    rintro e w1 ⟨rfl, hb1⟩
    go_wp2
    go_ret
    exact ⟨rfl, hb1⟩
  have d1 : decide ((300 : Int) < (key.size : Int)) = false := decide_eq_false h1
  by_cases h2 : (300 : Int) < (s.size : Int)
  · go_enter Tryd.func5, Tryd.ntmps5
    go_wp2_with fail
    refine (shown3_any _ HK).mono ?_
    rintro e w1 ⟨rfl, hb1⟩
    go_wp2
    go_ret
    exact ⟨rfl, hb1⟩
  by_cases h64 : key.size ≤ 64
  · exact macLong_short key s z (by omega) (by omega) (by omega) h64 w HK.out
  · exact macLong_long key s z (by omega) (by omega) (by omega) (by omega) w HK.out

end Go.Proofs.YtkgfmbciiiojjaaDoor
