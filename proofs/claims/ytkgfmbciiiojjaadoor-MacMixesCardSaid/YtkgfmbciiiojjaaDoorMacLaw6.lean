/-
  The walk of the law MacDerives.
-/
import Derived.Test.YtkgfmbciiiojjaaDoorMacLaw3
namespace Go.Proofs.YtkgfmbciiiojjaaDoor
open Go.RowKit

theorem ofNat_mod256 (m : Nat) : UInt8.ofNat (m % 256) = UInt8.ofNat m := by
  apply UInt8.toNat_inj.1
  simp

theorem numB_list (k n : Nat) : listB k (fun j => n / 256 ^ j % 256) = numB k n := by
  induction k with
  | zero => rfl
  | succ k ih => rw [listB_succ, ih, numB_snoc, ofNat_mod256]

theorem num_row (n : Nat) (hn : n < 4294967296) : rowOf 8 (w8 fun j => n / 256 ^ j % 256) = #[.int .u8 ((n : Int) % 256), .int .u8 ((n : Int) / 256 % 256), .int .u8 ((n : Int) / 65536 % 256), .int .u8 ((n : Int) / 16777216), .int .u8 0, .int .u8 0, .int .u8 0, .int .u8 0] := by
  have h0 : ((n / 256 ^ 0 % 256 : Nat) : Int) = (n : Int) % 256 := by simp
  have h1 : ((n / 256 ^ 1 % 256 : Nat) : Int) = (n : Int) / 256 % 256 := by simp
  have h2 : ((n / 256 ^ 2 % 256 : Nat) : Int) = (n : Int) / 65536 % 256 := by simp
  have h3 : ((n / 256 ^ 3 % 256 : Nat) : Int) = (n : Int) / 16777216 := by simp; omega
  have h4 : ((n / 256 ^ 4 % 256 : Nat) : Int) = 0 := by simp; omega
  have h5 : ((n / 256 ^ 5 % 256 : Nat) : Int) = 0 := by simp; omega
  have h6 : ((n / 256 ^ 6 % 256 : Nat) : Int) = 0 := by simp; omega
  have h7 : ((n / 256 ^ 7 % 256 : Nat) : Int) = 0 := by simp; omega
  show #[Value.int .u8 ((n / 256 ^ 0 % 256 : Nat) : Int), .int .u8 ((n / 256 ^ 1 % 256 : Nat) : Int), .int .u8 ((n / 256 ^ 2 % 256 : Nat) : Int), .int .u8 ((n / 256 ^ 3 % 256 : Nat) : Int), .int .u8 ((n / 256 ^ 4 % 256 : Nat) : Int), .int .u8 ((n / 256 ^ 5 % 256 : Nat) : Int), .int .u8 ((n / 256 ^ 6 % 256 : Nat) : Int), .int .u8 ((n / 256 ^ 7 % 256 : Nat) : Int)] = _
  rw [h0, h1, h2, h3, h4, h5, h6, h7]

set_option maxHeartbeats 1000000 in
set_option maxRecDepth 8000 in
theorem macDerives_in (k : Nat → Nat) (hkb : Bytes k) (label : ByteArray) (z1 : label.size ≤ 255) (n : Nat) (hn : n < 4294967296) (w : World) (hk : KRow w) :
    Calls Tryd.prog 8 #[.agg (rowOf 16 (w8 k)), .string label, .int .u32 (n : Int)] w fun e w' => e = .returned (.bool true) ∧ Below w.heap.size w w' := by
  have HK := Lib.hid hk
  have HB := Lib.hid hkb
  clear hk hkb
  have d1 : decide ((255 : Int) < (label.size : Int)) = false := decide_eq_false (by omega)
  have b0 : Below w.heap.size w (w.alloc (.cells (rowOf 16 (w8 k)) 23)) := (Below.refl _ _).alloc (Nat.le_refl _) _
  have r0 : Hid (RowAt (w.alloc (.cells (rowOf 16 (w8 k)) 23)) w.heap.size 23 (rowOf 16 (w8 k))) := RowAt.new _ _ _
  have hk0 : Hid (KRow (w.alloc (.cells (rowOf 16 (w8 k)) 23))) := HK.out.below b0 HK.out.1 b0.size
  go_enter Tryd.func8, Tryd.ntmps8
  go_wp2_with fail
  refine (shown3_any _ hk0).mono ?_
  rintro e w1 ⟨rfl, hb1⟩
  have b1 := b0.trans (hb1.mono b0.size)
  have r1 : Hid (RowAt w1 w.heap.size 23 (rowOf 16 (w8 k))) := r0.out.below hb1 r0.out.lt
  clear hb1 b0 r0 hk0
  have e1 : bs (listB 1 fun _ => label.size) = lenB label := by
    unfold lenB
    rw [listB_congr (g := fun _ => label.size % 256) fun _ _ => by omega]
  have cv : (convert 35 9 (.slice (some ⟨w1.heap.size, 0, none⟩) 1 1)).run Tryd.prog (w1.alloc (.cells #[.int .u8 (label.size : Int)] 5)) = .ok (.string (lenB label)) (w1.alloc (.cells #[.int .u8 (label.size : Int)] 5)) := by
    rw [← e1]
    exact block_string (n := 1) (fun _ => by omega) Tryd.underlying35 Tryd.underlying5 Tryd.underlying9 (RowAt.new w1 5 (rowOf 1 (w8 fun _ => label.size)))
  have n1 : ¬ 9223372036854775807 < (lenB label).size + label.size := by rw [lenB_size]; omega
  clear e1
  have r8 : RowAt ((w1.alloc (.cells #[.int .u8 (label.size : Int)] 5)).alloc (.cells (rowOf 8 (w8 fun j => n / 256 ^ j % 256)) 5)) (w1.heap.size + 1) 5 (rowOf 8 (w8 fun j => n / 256 ^ j % 256)) := row_second w1 _ _ _
  have cv2 := block_string (P := Tryd.prog) (cap := 8) (fun j => Nat.mod_lt _ (by decide)) Tryd.underlying35 Tryd.underlying5 Tryd.underlying9 r8
  rw [numB_list, num_row n hn] at cv2
  clear r8
  have n2 : ¬ 9223372036854775807 < (lenB label ++ label).size + (bs (numB 8 n)).size := by rw [ByteArray.size_append, lenB_size, bs_size, numB_length]; omega
  have b2 : Below w1.heap.size w1 ((w1.alloc (.cells #[.int .u8 (label.size : Int)] 5)).alloc (.cells #[.int .u8 ((n : Int) % 256), .int .u8 ((n : Int) / 256 % 256), .int .u8 ((n : Int) / 65536 % 256), .int .u8 ((n : Int) / 16777216), .int .u8 0, .int .u8 0, .int .u8 0, .int .u8 0] 5)) := ((Below.refl _ _).alloc (Nat.le_refl _) _).alloc (by simp) _
  have HC : TagC w w.heap.size k _ := TagC.after b2 ⟨b1, r1.out⟩
  have HN : Hid (n < 18446744073709551616) := by unfold Hid; omega
  have tz : (lenB label ++ label ++ bs (numB 8 n)).size ≤ 1000 := by rw [ByteArray.size_append, ByteArray.size_append, lenB_size, bs_size, numB_length]; omega
  have E1 : Hid ((lenB label ++ label ++ bs (numB 8 n)).data.toList = (lenB label).data.toList ++ (label.data.toList ++ numB 8 n)) := by unfold Hid; rw [bs_append, bs_append, List.append_assoc]; rfl
  have D1 : Hid (∀ w', Below w.heap.size w w' → Calls Tryd.prog 12 #[.agg (rowOf 16 (w8 k)), .string label, .int .u64 (n : Int)] w' fun e w'' => e = .returned (.agg (rowOf 16 (w8 (deriveN k label n)))) ∧ Below w'.heap.size w' w'') :=
    fun w' hb => derive_any k HB label (by omega) n HN w' (HK.out.below hb HK.out.1 hb.size)
  have M1 : Hid (∀ w' p, Below w.heap.size w w' → RowAt w' p 9 ([lenB label ++ label ++ bs (numB 8 n)].map Value.string).toArray → Calls Tryd.prog 10 #[.string (bs (listB 16 k)), .slice (some ⟨p, 0, none⟩) 1 1] w' fun e w'' => e = .returned (.agg (rowOf 32 (w8 (deriveN k label n)))) ∧ Below w'.heap.size w' w'') := by
    intro w' p hb hr
    have h := mac_row (bs (listB 16 k)) (by rw [bs_size, listB_length]; decide) (lenB label ++ label ++ bs (numB 8 n)) (by omega) p w' (HK.out.below hb HK.out.1 hb.size) hr
    rw [E1.out] at h
    exact h
  generalize deriveN k label n = z at *
  have Sh : Hid (∀ w', Calls Tryd.prog 16 #[.agg (rowOf 32 (w8 z))] w' fun e w'' => e = .returned (.agg (rowOf 16 (w8 z))) ∧ Below w'.heap.size w' w'') := fun w' => short_any z w'
  have sl := run_slice_all (P := Tryd.prog) Tryd.underlying23 sz8 w.heap.size
  have ck : Hid (∀ w', RowAt w' w.heap.size 23 (rowOf 16 (w8 k)) → (convert 35 9 (.slice (some ⟨w.heap.size, 0, none⟩) 16 16)).run Tryd.prog w' = .ok (.string (bs (listB 16 k))) w') :=
    fun w' hr => block_string HB.out Tryd.underlying35 Tryd.underlying5 Tryd.underlying9 hr
  have eu : Hid (IntKind.u64.wrap (n : Int) = (n : Int)) := IntWalk.u64_in _ (by omega)
  clear E1 tz HN b2 HK HB b1 r1
  generalize bs (listB 16 k) = kb at *
  generalize bs (numB 8 n) = nb at *
  generalize lenB label = lb at *
  generalize h2 : lb ++ label = lb2 at *
  generalize h3 : lb2 ++ nb = lb3 at *
  go_wp2
  refine wp_region_steady (TagC w w.heap.size k) [eqv (.agg (rowOf 16 (w8 k))), eqv (.string label), eqv (.int .u32 (n : Int)), eqv (.int .u64 (n : Int)), eqv (.agg (rowOf 16 (w8 z))), eqv (.slice (some ⟨w.heap.size, 0, none⟩) 16 16), eqv (.string kb), eqv (.string lb3), seesv [lb3], eqv (.agg (rowOf 32 (w8 z))), eqv (.agg (rowOf 16 (w8 z))), eqv (.bool true), eqv (.bool true)] (by kernel_rfl) (by kernel_rfl) ⟨HC.1.drew, HC.2⟩
    (.cons (steady_eqv _) (.cons (steady_eqv _) (.cons (steady_eqv _) (.cons (steady_eqv _) (.cons (steady_eqv _) (.cons (steady_eqv _) (.cons (steady_eqv _) (.cons (steady_eqv _) (.cons (steady_seesv _) (.cons (steady_eqv _) (.cons (steady_eqv _) (.cons (steady_eqv _) (.cons (steady_eqv _) .nil))))))))))))) ?_
  intro R hR
  refine wpRely_cons (fun w' hC hf => ?_) (fun v0 => ?_)
  · (repeat (first | (obtain ⟨rfl, hf⟩ := hf) | (obtain ⟨⟨q, rfl, hq⟩, hf⟩ := hf) | (obtain ⟨_, hf⟩ := hf)))
    exact grows_load (by rfl) hC rfl rfl (hC.2) Tryd.underlying23 rfl (info_key _)
  simp only [Act.put, List.setIfInBounds_toArray, List.set_cons_succ, List.set_cons_zero, List.nil_append, List.cons_append]
  refine wpRely_cons (fun w' hC hf => ?_) (fun v1 => ?_)
  · (repeat (first | (obtain ⟨rfl, hf⟩ := hf) | (obtain ⟨⟨q, rfl, hq⟩, hf⟩ := hf) | (obtain ⟨_, hf⟩ := hf)))
    exact grows_eqv (by rfl) hC (by go_simp)
  simp only [Act.put, List.setIfInBounds_toArray, List.set_cons_succ, List.set_cons_zero, List.nil_append, List.cons_append]
  refine wpRely_cons (fun w' hC hf => ?_) (fun v2 => ?_)
  · (repeat (first | (obtain ⟨rfl, hf⟩ := hf) | (obtain ⟨⟨q, rfl, hq⟩, hf⟩ := hf) | (obtain ⟨_, hf⟩ := hf)))
    exact grows_eqv (by rfl) hC (by go_simp)
  simp only [Act.put, List.setIfInBounds_toArray, List.set_cons_succ, List.set_cons_zero, List.nil_append, List.cons_append]
  refine wpRely_cons (fun w' hC hf => ?_) (fun v3 => ?_)
  · (repeat (first | (obtain ⟨rfl, hf⟩ := hf) | (obtain ⟨⟨q, rfl, hq⟩, hf⟩ := hf) | (obtain ⟨_, hf⟩ := hf)))
    exact grows_eqv (by rfl) hC (by go_simp; rw [eu.out])
  simp only [Act.put, List.setIfInBounds_toArray, List.set_cons_succ, List.set_cons_zero, List.nil_append, List.cons_append]
  refine wpRely_cons (fun w' hC hf => ?_) (fun v4 => ?_)
  · (repeat (first | (obtain ⟨rfl, hf⟩ := hf) | (obtain ⟨⟨q, rfl, hq⟩, hf⟩ := hf) | (obtain ⟨_, hf⟩ := hf)))
    exact grows_calls hR (fun _ _ hb h => h.after hb) hC (by rfl) (by go_simp) (D1.out w' hC.1)
  simp only [Act.put, List.setIfInBounds_toArray, List.set_cons_succ, List.set_cons_zero, List.nil_append, List.cons_append]
  refine wpRely_cons (fun w' hC hf => ?_) (fun v5 => ?_)
  · (repeat (first | (obtain ⟨rfl, hf⟩ := hf) | (obtain ⟨⟨q, rfl, hq⟩, hf⟩ := hf) | (obtain ⟨_, hf⟩ := hf)))
    exact grows_eqv (by rfl) hC (by go_simp)
  simp only [Act.put, List.setIfInBounds_toArray, List.set_cons_succ, List.set_cons_zero, List.nil_append, List.cons_append]
  refine wpRely_cons (fun w' hC hf => ?_) (fun v6 => ?_)
  · (repeat (first | (obtain ⟨rfl, hf⟩ := hf) | (obtain ⟨⟨q, rfl, hq⟩, hf⟩ := hf) | (obtain ⟨_, hf⟩ := hf)))
    have cw := ck.out w' hC.2
    exact grows_eqv (by rfl) hC (by go_simp)
  simp only [Act.put, List.setIfInBounds_toArray, List.set_cons_succ, List.set_cons_zero, List.nil_append, List.cons_append]
  refine wpRely_cons (fun w' hC hf => ?_) (fun v7 => ?_)
  · (repeat (first | (obtain ⟨rfl, hf⟩ := hf) | (obtain ⟨⟨q, rfl, hq⟩, hf⟩ := hf) | (obtain ⟨_, hf⟩ := hf)))
    exact grows_eqv (by rfl) hC (by go_simp)
  simp only [Act.put, List.setIfInBounds_toArray, List.set_cons_succ, List.set_cons_zero, List.nil_append, List.cons_append]
  refine wpRely_cons (fun w' hC hf => ?_) (fun v8 => ?_)
  · (repeat (first | (obtain ⟨rfl, hf⟩ := hf) | (obtain ⟨⟨q, rfl, hq⟩, hf⟩ := hf) | (obtain ⟨_, hf⟩ := hf)))
    exact grows_strs hR (fun _ _ hb h => h.after hb) hC (by rfl) (by go_simp)
  simp only [Act.put, List.setIfInBounds_toArray, List.set_cons_succ, List.set_cons_zero, List.nil_append, List.cons_append]
  refine wpRely_cons (fun w' hC hf => ?_) (fun v9 => ?_)
  · (repeat (first | (obtain ⟨rfl, hf⟩ := hf) | (obtain ⟨⟨q, rfl, hq⟩, hf⟩ := hf) | (obtain ⟨_, hf⟩ := hf)))
    exact grows_calls hR (fun _ _ hb h => h.after hb) hC (by rfl) (by go_simp) (M1.out w' q hC.1 hq)
  simp only [Act.put, List.setIfInBounds_toArray, List.set_cons_succ, List.set_cons_zero, List.nil_append, List.cons_append]
  refine wpRely_cons (fun w' hC hf => ?_) (fun v10 => ?_)
  · (repeat (first | (obtain ⟨rfl, hf⟩ := hf) | (obtain ⟨⟨q, rfl, hq⟩, hf⟩ := hf) | (obtain ⟨_, hf⟩ := hf)))
    exact grows_calls hR (fun _ _ hb h => h.after hb) hC (by rfl) (by go_simp) (Sh.out w')
  simp only [Act.put, List.setIfInBounds_toArray, List.set_cons_succ, List.set_cons_zero, List.nil_append, List.cons_append]
  refine wpRely_cons (fun w' hC hf => ?_) (fun v11 => ?_)
  · (repeat (first | (obtain ⟨rfl, hf⟩ := hf) | (obtain ⟨⟨q, rfl, hq⟩, hf⟩ := hf) | (obtain ⟨_, hf⟩ := hf)))
    exact grows_eqv (by rfl) hC (run_eql_key z rfl rfl rfl w')
  simp only [Act.put, List.setIfInBounds_toArray, List.set_cons_succ, List.set_cons_zero, List.nil_append, List.cons_append]
  refine wpRely_cons (fun w' hC hf => ?_) (fun v12 => ?_)
  · (repeat (first | (obtain ⟨rfl, hf⟩ := hf) | (obtain ⟨⟨q, rfl, hq⟩, hf⟩ := hf) | (obtain ⟨_, hf⟩ := hf)))
    exact grows_eqv (by rfl) hC (by go_simp)
  simp only [Act.put, List.setIfInBounds_toArray, List.set_cons_succ, List.set_cons_zero, List.nil_append, List.cons_append]
  refine wpRely_nil fun w9 hC hf => ?_
  have b9 := hC.1
  obtain ⟨_, _, _, _, _, _, _, _, _, _, _, _, f12, _⟩ := hf
  subst f12
  clear M1 D1 Sh ck hC HC n1 n2 h2 h3 cv cv2
  go_wp2
  go_ret
  exact ⟨rfl, b9⟩

set_option maxHeartbeats 400000 in
theorem walk_MacDerives (k : Nat → Nat) (hkb : Bytes k) (label : ByteArray) (_h : label.size ≤ maxLen) (n : Int) (hn : (Lit.int .u32 n).wf = true) (w : World) (hk : KRow w) :
    Calls Tryd.prog 8 #[.agg (rowOf 16 (w8 k)), .string label, .int .u32 n] w fun e w' => e = .returned (.bool true) ∧ Below w.heap.size w w' := by
  obtain ⟨hn0, hn1⟩ := wf_u32 hn
  obtain ⟨n, rfl⟩ := Int.eq_ofNat_of_zero_le hn0
  by_cases h1 : (255 : Int) < (label.size : Int)
  · have HK := Lib.hid hk
    clear hk hkb hn hn0 hn1
    have b0 : Below w.heap.size w (w.alloc (.cells (rowOf 16 (w8 k)) 23)) := (Below.refl _ _).alloc (Nat.le_refl _) _
    have hk0 : Hid (KRow (w.alloc (.cells (rowOf 16 (w8 k)) 23))) := HK.out.below b0 HK.out.1 b0.size
    go_enter Tryd.func8, Tryd.ntmps8
    go_wp2_with fail
    refine (shown3_any _ hk0).mono ?_
    rintro e w1 ⟨rfl, hb1⟩
    go_wp2
    go_ret
    exact ⟨rfl, b0.trans (hb1.mono b0.size)⟩
  · exact macDerives_in k hkb label (by omega) n (by omega) w hk

end Go.Proofs.YtkgfmbciiiojjaaDoor
