/-
  Contracts: Derive, the document's Derive, Same, shown.
-/
import Derived.Test.YtedmdojmgccclaaDoorMacRefMac
import Derived.Test.YtedmdojmgccclaaDoorNum8
namespace Go.Proofs.YtedmdojmgccclaaDoor
open Go.RowKit

/-- The byte of how long a text is. -/
def lenB (label : ByteArray) : ByteArray := bs (listB 1 fun _ => label.size % 256)

theorem lenB_data (label : ByteArray) : (lenB label).data.toList = [UInt8.ofNat (label.size % 256)] := rfl
theorem lenB_size (label : ByteArray) : (lenB label).size = 1 := rfl

/-- The bytes of a key that is derived. -/
def deriveN (k : Nat → Nat) (label : ByteArray) (n : Nat) : Nat → Nat := macN (listB 16 k) ((lenB label).data.toList ++ (label.data.toList ++ numB 8 n))

theorem len_mod (n : Nat) : ((n : Int) % 256) = ((n % 256 : Nat) : Int) := rfl

theorem joinTo_three (a b c : ByteArray) : joinTo [a, b, c] 3 = a.data.toList ++ (b.data.toList ++ c.data.toList) := by simp [joinTo]

theorem len_bytes (n : Nat) : Bytes (fun _ => n % 256) := fun _ => Nat.mod_lt _ (by decide)

set_option maxHeartbeats 1000000 in
set_option maxRecDepth 8000 in
theorem derive_any (k : Nat → Nat) (hkb : Hid (Bytes k)) (label : ByteArray) (hl : label.size ≤ 100000) (n : Nat) (hn : Hid (n < 18446744073709551616)) (w : World) (hk : Hid (KRow w)) :
    Calls Tryd.prog 19 #[.agg (rowOf 16 (w8 k)), .string label, .int .u64 (n : Int)] w fun e w' => e = .returned (.agg (rowOf 16 (w8 (deriveN k label n)))) ∧ Below w.heap.size w w' := by
  have hL : label.data.toList.length = label.size := by simp
  have HL := Lib.hid hL
  have a0 : Hid (RowAt (((w.alloc (.cells (rowOf 16 (w8 k)) 27)).alloc (.cells (rowOf 16 (w8 zeroN)) 27)).alloc (.cells #[.int .u8 ((label.size : Int) % 256)] 5)) w.heap.size 27 (rowOf 16 (w8 k))) := ((RowAt.new _ _ _).alloc _).alloc _
  have a1 : Hid (RowAt (((w.alloc (.cells (rowOf 16 (w8 k)) 27)).alloc (.cells (rowOf 16 (w8 zeroN)) 27)).alloc (.cells #[.int .u8 ((label.size : Int) % 256)] 5)) (w.heap.size + 1) 27 (rowOf 16 (w8 zeroN))) := row_new1 w _ _ _ _
  have a2 : RowAt (((w.alloc (.cells (rowOf 16 (w8 k)) 27)).alloc (.cells (rowOf 16 (w8 zeroN)) 27)).alloc (.cells #[.int .u8 ((label.size : Int) % 256)] 5)) (w.heap.size + 1 + 1) 5 (rowOf 1 (w8 fun _ => label.size % 256)) := row_new2 w _ _ _ _
  have b0 : Below w.heap.size w (((w.alloc (.cells (rowOf 16 (w8 k)) 27)).alloc (.cells (rowOf 16 (w8 zeroN)) 27)).alloc (.cells #[.int .u8 ((label.size : Int) % 256)] 5)) := (((Below.refl _ _).alloc (Nat.le_refl _) _).alloc (by simp) _).alloc (by simp; omega) _
  have cv : (convert 54 9 (.slice (some ⟨w.heap.size + 1 + 1, 0, none⟩) 1 1)).run Tryd.prog _ = .ok (.string (lenB label)) _ := block_string (len_bytes label.size) Tryd.underlying54 Tryd.underlying5 Tryd.underlying9 a2
  clear a2 hL
  rw [z8_16] at a0 a1 b0 cv
  go_enter Tryd.func19, Tryd.ntmps19
  go_wp2_with fail
  rw [← z8_16] at a0 a1 b0
  rw [← z8_16]
  generalize ((w.alloc (.cells (rowOf 16 (w8 k)) 27)).alloc (.cells (rowOf 16 (w8 zeroN)) 27)).alloc (.cells #[.int .u8 ((label.size : Int) % 256)] 5) = w1 at *
  clear cv
  refine (number_yes (n : Int) 8 (by omega) (by have := hn.out; unfold Hid; omega) (by decide) (by decide) (fits_8 _ (by have := hn.out; omega)) w1).mono ?_
  rintro e w2 ⟨rfl, hb2⟩
  replace a0 : Hid (RowAt w2 w.heap.size 27 (rowOf 16 (w8 k))) := a0.out.below hb2 a0.out.lt
  replace a1 : Hid (RowAt w2 (w.heap.size + 1) 27 (rowOf 16 (w8 zeroN))) := a1.out.below hb2 a1.out.lt
  replace b0 : Below w.heap.size w w2 := b0.trans (hb2.mono b0.size)
  clear hb2
  have e8 : bs (numB (8 : Int).toNat (n : Int).toNat) = bs (numB 8 n) := rfl
  rw [e8]
  clear e8
  have sl := run_slice_all (P := Tryd.prog) Tryd.underlying27 sz8 w.heap.size
  have cv : (convert 54 9 (.slice (some ⟨w.heap.size, 0, none⟩) 16 16)).run Tryd.prog w2 = .ok (.string (bs (listB 16 k))) w2 := block_string hkb.out Tryd.underlying54 Tryd.underlying5 Tryd.underlying9 a0.out
  have E : Hid (deriveN k label n = macN (listB 16 k) ((lenB label).data.toList ++ (label.data.toList ++ numB 8 n))) := rfl
  have b3 : Below w2.heap.size w2 (w2.alloc (.cells #[.string (lenB label), .string label, .string (bs (numB 8 n))] 9)) := (Below.refl _ _).alloc (Nat.le_refl _) _
  have r3 : Hid (RowAt (w2.alloc (.cells #[.string (lenB label), .string label, .string (bs (numB 8 n))] 9)) w2.heap.size 9 ([lenB label, label, bs (numB 8 n)].map Value.string).toArray) := RowAt.new w2 9 _
  replace b0 := b0.trans (b3.mono b0.size)
  replace a1 := Lib.hid (a1.out.below b3 a1.out.lt)
  have M := Lib.hid (mac_any (bs (listB 16 k)) (by rw [bs_size, listB_length]; decide) (some ⟨w2.heap.size, 0, none⟩) 3 (fun h => by cases h) [lenB label, label, bs (numB 8 n)] (by simp) (by
    unfold Hid
    show (joinTo [lenB label, label, bs (numB 8 n)] 3).length ≤ _
    rw [joinTo_three, List.length_append, List.length_append]
    show 1 + (_ + (numB 8 n).length) ≤ _
    rw [numB_length, HL.out]
    omega) _ (hk.out.below b0 hk.out.1 b0.size) (sees_row r3.out))
  rw [show [lenB label, label, bs (numB 8 n)].length = 3 from rfl, joinTo_three] at M
  have E2 : Hid (macN (bs (listB 16 k)).data.toList ((lenB label).data.toList ++ (label.data.toList ++ (bs (numB 8 n)).data.toList)) = deriveN k label n) := rfl
  rw [E2.out] at M
  clear E2 E b3 r3 HL hk hn hkb
  generalize lenB label = lb at *
  generalize bs (numB 8 n) = nb at *
  generalize bs (listB 16 k) = kb at *
  obtain ⟨z, hz⟩ : ∃ z, deriveN k label n = z := ⟨_, rfl⟩
  rw [hz] at M
  have HZ := Lib.hid hz
  clear hz
  go_wp2_with fail
  generalize w2.alloc (.cells #[.string lb, .string label, .string nb] 9) = w3 at *
  refine M.out.mono ?_
  rintro e w4 ⟨rfl, hb4⟩
  replace a1 : Hid (RowAt w4 (w.heap.size + 1) 27 (rowOf 16 (w8 zeroN))) := a1.out.below hb4 a1.out.lt
  replace b0 : Below w.heap.size w w4 := b0.trans (hb4.mono b0.size)
  clear hb4 M cv sl a0
  go_wp2_with fail
  refine (short_any z w4).mono ?_
  rintro e w5 ⟨rfl, hb5⟩
  replace a1 : Hid (RowAt w5 (w.heap.size + 1) 27 (rowOf 16 (w8 zeroN))) := a1.out.below hb5 a1.out.lt
  replace b0 : Below w.heap.size w w5 := b0.trans (hb5.mono b0.size)
  clear hb5
  go_wp2_with (refine wpList_store_row rfl 27 _ _ rfl (w.heap.size + 1) (rowOf 16 (w8 z)) rfl rfl 27 _ a1.out (info_key _) (by rw [rowOf_size, rowOf_size]) (rowOf_cells8 _ _) ?_)
  refine bodyPost_ret (v := .agg (rowOf 16 (w8 z))) ?_ rfl ⟨by rw [HZ.out], below_setRow' b0 (by omega) _⟩
  exact results_cell_row Tryd.results19 _ _ (w.heap.size + 1) 27 (rowOf 16 (w8 z)) (0, 0) _ rfl (a1.out.setRow _) Tryd.underlying27 rfl (info_key _)

/-- What stays while the document's key is derived. -/
def DerC (w : World) (p : Nat) (k : Nat → Nat) (w' : World) : Prop := Below p w w' ∧ RowAt w' p 27 (rowOf 16 (w8 k)) ∧ ∃ f, RowAt w' (p + 1) 27 (rowOf 16 (w8 f))

theorem DerC.after {w w1 w2 : World} {p : Nat} {k : Nat → Nat} (hb : Below w1.heap.size w1 w2) (h : DerC w p k w1) : DerC w p k w2 := by
  obtain ⟨h1, h2, f, h3⟩ := h
  exact ⟨h1.trans (hb.mono (Nat.le_of_lt h2.lt)), h2.below hb h2.lt, f, h3.below hb h3.lt⟩

theorem DerC.store {w w1 : World} {p : Nat} {k : Nat → Nat} (z : Nat → Nat) (h : DerC w p k w1) : DerC w p k (w1.setRow (p + 1) (rowOf 16 (w8 z))) := by
  obtain ⟨h1, h2, f, h3⟩ := h
  exact ⟨below_setRow' h1 (by omega) _, h2.setRowOther _ _ (by omega), z, h3.setRow _⟩

set_option maxHeartbeats 1000000 in
set_option maxRecDepth 8000 in
theorem refDerive_any (k : Nat → Nat) (hkb : Hid (Bytes k)) (label : ByteArray) (hl : label.size ≤ 80000) (n : Nat) (hn : Hid (n < 18446744073709551616)) (w : World) :
    Calls Tryd.prog 20 #[.agg (rowOf 16 (w8 k)), .string label, .int .u64 (n : Int)] w fun e w' => e = .returned (.agg (rowOf 16 (w8 (deriveN k label n)))) ∧ Below w.heap.size w w' := by
  have a0 : Hid (RowAt ((w.alloc (.cells (rowOf 16 (w8 k)) 27)).alloc (.cells (rowOf 16 (w8 zeroN)) 27)) w.heap.size 27 (rowOf 16 (w8 k))) := (RowAt.new _ _ _).alloc _
  have a1 : Hid (RowAt ((w.alloc (.cells (rowOf 16 (w8 k)) 27)).alloc (.cells (rowOf 16 (w8 zeroN)) 27)) (w.heap.size + 1) 27 (rowOf 16 (w8 zeroN))) := row_second w _ _ _
  have b0 : Below w.heap.size w ((w.alloc (.cells (rowOf 16 (w8 k)) 27)).alloc (.cells (rowOf 16 (w8 zeroN)) 27)) := ((Below.refl _ _).alloc (Nat.le_refl _) _).alloc (by simp) _
  go_enter Tryd.func20, Tryd.ntmps20
  go_wp2_with fail
  rw [← z8_16]
  generalize (w.alloc (.cells (rowOf 16 (w8 k)) 27)).alloc (.cells (rowOf 16 (w8 zeroN)) 27) = w1 at *
  have N := Lib.hid (refNumber_any (n : Int) 8 (by omega) (by have := hn.out; unfold Hid; omega) w1)
  rw [(numS_8 n hn.out).1, (numS_8 n hn.out).2] at N
  refine N.out.mono ?_
  rintro e w2 ⟨rfl, hb2⟩
  replace a0 : Hid (RowAt w2 w.heap.size 27 (rowOf 16 (w8 k))) := a0.out.below hb2 a0.out.lt
  replace a1 : Hid (RowAt w2 (w.heap.size + 1) 27 (rowOf 16 (w8 zeroN))) := a1.out.below hb2 a1.out.lt
  replace b0 : Below w.heap.size w w2 := b0.trans (hb2.mono b0.size)
  clear hb2 N
  have nz : (bs (numB 8 n)).size = 8 := by rw [bs_size, numB_length]
  have kz : (bs (listB 16 k)).size = 16 := by rw [bs_size, listB_length]
  have lz := lenB_size label
  have E1 : Hid ((lenB label ++ label ++ bs (numB 8 n)).data.toList = (lenB label).data.toList ++ (label.data.toList ++ numB 8 n)) := by unfold Hid; rw [bs_append, bs_append, List.append_assoc]; rfl
  have M : Hid (∀ w', Calls Tryd.prog 28 #[.string (bs (listB 16 k)), .string (lenB label ++ label ++ bs (numB 8 n))] w' fun e w'' => e = .returned (.agg (rowOf 32 (w8 (deriveN k label n)))) ∧ Below w'.heap.size w' w'') := by
    intro w'
    have h := refMac_any (bs (listB 16 k)) (by omega) (lenB label ++ label ++ bs (numB 8 n)) (by rw [ByteArray.size_append, ByteArray.size_append]; omega) w'
    rw [E1.out] at h
    exact h
  obtain ⟨z, hz⟩ : ∃ z, deriveN k label n = z := ⟨_, rfl⟩
  rw [hz] at M
  have HZ := Lib.hid hz
  clear hz E1
  have Sh : Hid (∀ w', Calls Tryd.prog 27 #[.agg (rowOf 32 (w8 z))] w' fun e w'' => e = .returned (.agg (rowOf 16 (w8 z))) ∧ Below w'.heap.size w' w'') := fun w' => refShort_any z w'
  have sl := run_slice_all (P := Tryd.prog) Tryd.underlying27 sz8 w.heap.size
  have cv : Hid (∀ w', RowAt w' w.heap.size 27 (rowOf 16 (w8 k)) → (convert 54 9 (.slice (some ⟨w.heap.size, 0, none⟩) 16 16)).run Tryd.prog w' = .ok (.string (bs (listB 16 k))) w') :=
    fun w' hr => block_string hkb.out Tryd.underlying54 Tryd.underlying5 Tryd.underlying9 hr
  have cl : Hid (∀ w' q, RowAt w' q 5 #[.int .u8 ((label.size : Int) % 256)] → (convert 54 9 (.slice (some ⟨q, 0, none⟩) 1 1)).run Tryd.prog w' = .ok (.string (lenB label)) w') :=
    fun w' q hr => block_string (n := 1) (len_bytes label.size) Tryd.underlying54 Tryd.underlying5 Tryd.underlying9 hr
  have n1 : ¬ 9223372036854775807 < (lenB label).size + label.size := by omega
  have n2 : ¬ 9223372036854775807 < (lenB label ++ label).size + (bs (numB 8 n)).size := by rw [ByteArray.size_append]; omega
  clear nz kz lz
  generalize lenB label = lb at *
  generalize bs (numB 8 n) = nb at *
  generalize bs (listB 16 k) = kb at *
  generalize hlb : lb ++ label = lb2 at *
  generalize hlb3 : lb2 ++ nb = lb3 at *
  have HC : DerC w w.heap.size k w2.drew := ⟨b0.drew, a0.out, zeroN, a1.out⟩
  clear b0 a0 a1 hkb hn
  go_wp2
  refine wp_region_firm (DerC w w.heap.size k) [eqv (.slice (some ⟨w.heap.size, 0, none⟩) 16 16), eqv (.string kb), eqv (.string label), eqv (.int .i64 (label.size : Int)), eqv (.int .u8 ((label.size : Int) % 256)), heldv 5 1 #[.int .u8 ((label.size : Int) % 256)], eqv (.string lb), eqv (.string label), eqv (.string lb2), eqv (.string nb), eqv (.string lb3), eqv (.agg (rowOf 32 (w8 z))), eqv (.agg (rowOf 16 (w8 z))), rowv (w.heap.size + 1) 27 (rowOf 16 (w8 z))] (by kernel_rfl) (by kernel_rfl) HC
    (.cons (steady_eqv _) (.cons (steady_eqv _) (.cons (steady_eqv _) (.cons (steady_eqv _) (.cons (steady_eqv _) (.cons (steady_heldv _ _ _) (.cons (steady_eqv _) (.cons (steady_eqv _) (.cons (steady_eqv _) (.cons (steady_eqv _) (.cons (steady_eqv _) (.cons (steady_eqv _) (.cons (steady_eqv _) (.cons (steady_rowv _ _ _) .nil)))))))))))))) (w.heap.size + 1) (rowOf 16 (w8 z))
    (fun w' hC => by
      obtain ⟨_, _, f, h3⟩ := hC
      exact .cons (fun _ h => h) (.cons (fun _ h => h) (.cons (fun _ h => h) (.cons (fun _ h => h) (.cons (fun _ h => h) (.cons (fun _ h => heldv_firm h3 (by decide) h) (.cons (fun _ h => h) (.cons (fun _ h => h) (.cons (fun _ h => h) (.cons (fun _ h => h) (.cons (fun _ h => h) (.cons (fun _ h => h) (.cons (fun _ h => h) (.cons (fun _ _ => h3.setRow _) (.nil _ _)))))))))))))))
    ?_
  intro R hR hF
  refine wpRely_cons (fun w' hC hf => ?_) (fun v0 => ?_)
  · exact grows_eqv (by rfl) hC (by go_simp)
  simp only [Act.put, List.setIfInBounds_toArray, List.set_cons_succ, List.set_cons_zero]
  refine wpRely_cons (fun w' hC hf => ?_) (fun v1 => ?_)
  · obtain ⟨rfl, _⟩ := hf
    have cw := cv.out w' hC.2.1
    exact grows_eqv (by rfl) hC (by go_simp)
  simp only [Act.put, List.setIfInBounds_toArray, List.set_cons_succ, List.set_cons_zero]
  refine wpRely_cons (fun w' hC hf => ?_) (fun v2 => ?_)
  · exact grows_eqv (by rfl) hC (by go_simp)
  simp only [Act.put, List.setIfInBounds_toArray, List.set_cons_succ, List.set_cons_zero]
  refine wpRely_cons (fun w' hC hf => ?_) (fun v3 => ?_)
  · obtain ⟨rfl, _⟩ := hf
    exact grows_eqv (by rfl) hC (by go_simp)
  simp only [Act.put, List.setIfInBounds_toArray, List.set_cons_succ, List.set_cons_zero]
  refine wpRely_cons (fun w' hC hf => ?_) (fun v4 => ?_)
  · obtain ⟨rfl, _⟩ := hf
    exact grows_eqv (by rfl) hC (by go_simp; rw [IntKind.wrap_u8])
  simp only [Act.put, List.setIfInBounds_toArray, List.set_cons_succ, List.set_cons_zero]
  refine wpRely_cons (fun w' hC hf => ?_) (fun v5 => ?_)
  · obtain ⟨rfl, _⟩ := hf
    exact grows_held hR (fun _ _ hb h => h.after hb) hC (by rfl) (by go_simp)
  simp only [Act.put, List.setIfInBounds_toArray, List.set_cons_succ, List.set_cons_zero]
  refine wpRely_cons (fun w' hC hf => ?_) (fun v6 => ?_)
  · obtain ⟨⟨q, rfl, hq⟩, _⟩ := hf
    have cw := cl.out w' q hq
    exact grows_eqv (by rfl) hC (by go_simp)
  simp only [Act.put, List.setIfInBounds_toArray, List.set_cons_succ, List.set_cons_zero]
  refine wpRely_cons (fun w' hC hf => ?_) (fun v7 => ?_)
  · exact grows_eqv (by rfl) hC (by go_simp)
  simp only [Act.put, List.setIfInBounds_toArray, List.set_cons_succ, List.set_cons_zero]
  refine wpRely_cons (fun w' hC hf => ?_) (fun v8 => ?_)
  · obtain ⟨rfl, rfl, _⟩ := hf
    exact grows_eqv (by rfl) hC (by go_simp)
  simp only [Act.put, List.setIfInBounds_toArray, List.set_cons_succ, List.set_cons_zero]
  refine wpRely_cons (fun w' hC hf => ?_) (fun v9 => ?_)
  · exact grows_eqv (by rfl) hC (by go_simp)
  simp only [Act.put, List.setIfInBounds_toArray, List.set_cons_succ, List.set_cons_zero]
  refine wpRely_cons (fun w' hC hf => ?_) (fun v10 => ?_)
  · obtain ⟨rfl, rfl, _⟩ := hf
    exact grows_eqv (by rfl) hC (by go_simp)
  simp only [Act.put, List.setIfInBounds_toArray, List.set_cons_succ, List.set_cons_zero]
  refine wpRely_cons (fun w' hC hf => ?_) (fun v11 => ?_)
  · obtain ⟨rfl, rfl, _⟩ := hf
    exact grows_calls hR (fun _ _ hb h => h.after hb) hC (by rfl) (by go_simp) (M.out w')
  simp only [Act.put, List.setIfInBounds_toArray, List.set_cons_succ, List.set_cons_zero]
  refine wpRely_cons (fun w' hC hf => ?_) (fun v12 => ?_)
  · obtain ⟨rfl, _⟩ := hf
    exact grows_calls hR (fun _ _ hb h => h.after hb) hC (by rfl) (by go_simp) (Sh.out w')
  simp only [Act.put, List.setIfInBounds_toArray, List.set_cons_succ, List.set_cons_zero]
  refine wpRely_cons (fun w' hC hf => ?_) (fun v13 => ?_)
  · obtain ⟨rfl, _⟩ := hf
    obtain ⟨f, h3⟩ := hC.2.2
    exact grows_store (by rfl) rfl rfl rfl h3 (info_key _) (by rw [rowOf_size, rowOf_size]) (rowOf_cells8 _ _) (DerC.store z hC) (hF w' hC)
  simp only [Act.put]
  refine wpRely_nil fun w9 hC hf => ?_
  obtain ⟨_, _, _, _, _, _, _, _, _, _, _, _, _, h6, _⟩ := hf
  have b9 := hC.1
  clear M Sh cv cl hC hF n1 n2 hlb hlb3
  go_wp2
  refine bodyPost_ret (v := .agg (rowOf 16 (w8 z))) ?_ rfl ⟨by rw [HZ.out], b9⟩
  exact results_cell_row Tryd.results20 _ _ (w.heap.size + 1) 27 (rowOf 16 (w8 z)) (0, 0) _ rfl h6 Tryd.underlying27 rfl (info_key _)

end Go.Proofs.YtedmdojmgccclaaDoor
