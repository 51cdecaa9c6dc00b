/-
  Walk: CtrBack.
-/
import Derived.Test.YtmbkjbkbnigcfaaCtrLaw
import Derived.Test.YtmbkjbkbnigcfaaCtrXors
namespace Go.Proofs.Ytmbkjbkbnigcfaa
open Go.RowKit

theorem size_drop (s : ByteArray) (n : Nat) : (s.extract n s.size).size = s.size - n := by
  rw [← ba_size, ba_drop, List.length_drop, ba_size]
theorem byteS_take (s : ByteArray) (n j : Nat) (h : j < n) : byteS (s.extract 0 n) j = byteS s j := by
  unfold byteS
  rw [ba_take, List.getD_eq_getElem?_getD, List.getD_eq_getElem?_getD, List.getElem?_take_of_lt h]
theorem byteS_drop (s : ByteArray) (n j : Nat) : byteS (s.extract n s.size) j = byteS s (n + j) := by
  unfold byteS
  rw [ba_drop, List.getD_eq_getElem?_getD, List.getD_eq_getElem?_getD, List.getElem?_drop]

/-- A part is hidden as in the whole. -/
theorem hide_parts (key : Nat → Nat) (nonce n : Nat) (s : ByteArray) (h : n ≤ s.size) :
    bs (listB n (hideN key nonce 0 (s.extract 0 n))) ++ bs (listB (s.size - n) (hideN key nonce n (s.extract n s.size))) = bs (listB s.size (hideN key nonce 0 s)) := by
  have e1 : listB n (hideN key nonce 0 (s.extract 0 n)) = listB n (hideN key nonce 0 s) := listB_congr fun j hj => by rw [hideN_at, hideN_at, byteS_take s n j hj]
  have e2 : listB (s.size - n) (hideN key nonce n (s.extract n s.size)) = listB (s.size - n) (fun j => hideN key nonce 0 s (n + j)) := listB_congr fun j hj => by
    rw [hideN_at, hideN_at, byteS_drop, Nat.zero_add]
  rw [e1, e2, bs_app, listB_bs, ← listB_append, show n + (s.size - n) = s.size by omega]

set_option maxHeartbeats 4000000 in
set_option maxRecDepth 8000 in
theorem walk_CtrBack (key : Nat → Nat) (hk0 : Bytes key) (nonce : Int) (wn : (Lit.int .u64 nonce).wf = true) (s : ByteArray) (hs : s.size ≤ maxLen) (c : Int) (wc : (Lit.int .u16 c).wf = true) (w : World) :
    Calls Try.prog 4 #[.agg (rowOf 16 (w8 key)), .int .u64 nonce, .string s, .int .u16 c] w fun e w' => e = .returned (.bool true) ∧ Below w.heap.size w w' := by
  have hc := wf_u16 wc
  obtain ⟨c, rfl⟩ := Int.eq_ofNat_of_zero_le hc.1
  have hsm : (s.size : Int) ≤ 9223372036854775807 := by unfold maxLen at hs; omega
  clear wc hs
  have hk : Hid (Byt key) := hk0
  have hn0 := wf5_u64 wn
  obtain ⟨nonce, rfl⟩ := Int.eq_ofNat_of_zero_le hn0.1
  have hn : Hid (nonce < 18446744073709551616) := by have := hn0.2; unfold Hid; omega
  clear hk0 wn hn0
  have r0 := Lib.hid (RowAt.new w 23 (rowOf 16 (w8 key)))
  have b0 : Below w.heap.size w (w.alloc (.cells (rowOf 16 (w8 key)) 23)) := (Below.refl _ _).alloc (Nat.le_refl _) _
  go_enter Try.func4, Try.ntmps4
  by_cases hlong : (1000 : Int) < (s.size : Int)
  · go_wp2_with fail
    generalize w.alloc _ = w1 at *
    refine (shown_any w1).mono ?_
    rintro e w2 ⟨rfl, hb2⟩
    have b2 := b0.trans (hb2.mono b0.size)
    clear hb2
    go_wp2
    go_ret
    exact ⟨rfl, b2⟩
  · have t1 : ¬ ((1000 : Int) < (s.size : Int)) := hlong
    obtain ⟨n, hx⟩ : ∃ n, c % (s.size + 1) = n := ⟨_, rfl⟩
    have hns : n ≤ s.size := by have := Nat.mod_lt c (show 0 < s.size + 1 by omega); omega
    have ex : (c : Int) % ((s.size : Int) + 1) = (n : Int) := by rw [← hx]; simp
    clear hx
    have CX := Lib.hid (crypt_yes key hk nonce hn s (by omega))
    have CB := Lib.hid (crypt_yes key hk nonce hn (bs (listB s.size (hideN key nonce 0 s))) (by rw [bs_listB_size]; omega))
    rw [bs_listB_size, hide_twice hk.out] at CB
    have CP := Lib.hid (at_yes key hk nonce hn 0 (s.extract 0 n) (by rw [size_take s n hns]; omega))
    rw [size_take s n hns, show ((0 : Nat) : Int) = 0 from rfl] at CP
    have CR := Lib.hid (at_yes key hk nonce hn n (s.extract n s.size) (by rw [size_drop]; omega))
    rw [size_drop] at CR
    have EX := Lib.hid (hide_parts key nonce n s hns)
    have hX : (bs (listB s.size (hideN key nonce 0 s))).size = s.size := bs_listB_size _ _
    have hA : (bs (listB n (hideN key nonce 0 (s.extract 0 n)))).size = n := bs_listB_size _ _
    have hB : (bs (listB (s.size - n) (hideN key nonce n (s.extract n s.size)))).size = s.size - n := bs_listB_size _ _
    generalize bs (listB (s.size - n) (hideN key nonce n (s.extract n s.size))) = B at *
    generalize bs (listB n (hideN key nonce 0 (s.extract 0 n))) = A at *
    generalize bs (listB s.size (hideN key nonce 0 s)) = X at *
    obtain ⟨P, EP⟩ : ∃ P, s.extract 0 n = P := ⟨_, rfl⟩
    obtain ⟨R, ER⟩ : ∃ R, s.extract n s.size = R := ⟨_, rfl⟩
    rw [EP] at CP
    rw [ER] at CR
    replace EP := Lib.hid EP
    replace ER := Lib.hid ER
    have hA4 : A.size ≤ 1000 := by omega
    have hB4 : B.size ≤ 1000 := by omega
    have hAB : ¬ 9223372036854775807 < A.size + B.size := by omega
    clear hA hB
    go_wp2_with fail
    generalize w.alloc _ = w1 at *
    refine (shown_any w1).mono ?_
    rintro e w2 ⟨rfl, hb1⟩
    replace r0 := Lib.hid (r0.out.below hb1 r0.out.lt)
    replace b0 := b0.trans (hb1.mono b0.size)
    clear hb1
    go_wp2_with (refine wpList_load_row rfl 23 _ rfl w.heap.size rfl 23 _ (0, 0) _ r0.out Try.underlying23 rfl (info_key _) ?_)
    refine (CX.out w2).mono ?_
    rintro e w3 ⟨rfl, hb1⟩
    replace r0 := Lib.hid (r0.out.below hb1 r0.out.lt)
    replace b0 := b0.trans (hb1.mono b0.size)
    clear hb1
    clear CX
    have mn1 : (n : Int) ≤ (s.size : Int) := by omega
    have m0 : (0 : Int) ≤ (n : Int) := by omega
    have c1 : ¬ ((s.size : Int) + 1 = 0) := by omega
    have c2 : (0 : Int) < (s.size : Int) + 1 := by omega
    go_wp2
    try rw [ex]
    clear ex c1 c2
    have HC : RowC w w.heap.size 23 (rowOf 16 (w8 key)) w3.drew := ⟨b0.drew, r0.out.drew⟩
    refine wp_region_steady (RowC w w.heap.size 23 (rowOf 16 (w8 key))) [eqv (.string X), eqv (.int .i64 (s.size : Int)), eqv (.string s), eqv (.int .i64 (s.size : Int)), eqv (.bool true), eqv (.bool true), eqv (.agg (rowOf 16 (w8 key))), eqv (.int .u64 (nonce : Int)), eqv (.string X), eqv (.string s), eqv (.string s), eqv (.bool true), eqv (.bool true), eqv (.bool true), eqv (.agg (rowOf 16 (w8 key))), eqv (.int .u64 (nonce : Int)), eqv (.string s), eqv (.int .i64 (n : Int)), eqv (.string P), eqv (.string A), eqv (.agg (rowOf 16 (w8 key))), eqv (.int .u64 (nonce : Int)), eqv (.int .i64 (n : Int)), eqv (.string s), eqv (.int .i64 (n : Int)), eqv (.string R), eqv (.string B), eqv (.string X), eqv (.string X), eqv (.bool true), eqv (.bool true), eqv (.bool true)] (by kernel_rfl) (by kernel_rfl) HC
      (.cons (steady_eqv _) (.cons (steady_eqv _) (.cons (steady_eqv _) (.cons (steady_eqv _) (.cons (steady_eqv _) (.cons (steady_eqv _) (.cons (steady_eqv _) (.cons (steady_eqv _) (.cons (steady_eqv _) (.cons (steady_eqv _) (.cons (steady_eqv _) (.cons (steady_eqv _) (.cons (steady_eqv _) (.cons (steady_eqv _) (.cons (steady_eqv _) (.cons (steady_eqv _) (.cons (steady_eqv _) (.cons (steady_eqv _) (.cons (steady_eqv _) (.cons (steady_eqv _) (.cons (steady_eqv _) (.cons (steady_eqv _) (.cons (steady_eqv _) (.cons (steady_eqv _) (.cons (steady_eqv _) (.cons (steady_eqv _) (.cons (steady_eqv _) (.cons (steady_eqv _) (.cons (steady_eqv _) (.cons (steady_eqv _) (.cons (steady_eqv _) (.cons (steady_eqv _) .nil)))))))))))))))))))))))))))))))) ?_
    intro R hR
    refine wpRely_cons (fun w' hC hf => ?_) (fun v0 => ?_)
    · (repeat (first | (obtain ⟨rfl, hf⟩ := hf) | (obtain ⟨⟨q, rfl, hq⟩, hf⟩ := hf) | (obtain ⟨_, hf⟩ := hf)))
      exact grows_eqv (by rfl) hC (by go_simp)
    simp only [Act.put, List.setIfInBounds_toArray, List.set_cons_succ, List.set_cons_zero, List.nil_append]
    refine wpRely_cons (fun w' hC hf => ?_) (fun v1 => ?_)
    · (repeat (first | (obtain ⟨rfl, hf⟩ := hf) | (obtain ⟨⟨q, rfl, hq⟩, hf⟩ := hf) | (obtain ⟨_, hf⟩ := hf)))
      exact grows_eqv (by rfl) hC (by go_simp)
    simp only [Act.put, List.setIfInBounds_toArray, List.set_cons_succ, List.set_cons_zero, List.nil_append, List.cons_append]
    refine wpRely_cons (fun w' hC hf => ?_) (fun v2 => ?_)
    · (repeat (first | (obtain ⟨rfl, hf⟩ := hf) | (obtain ⟨⟨q, rfl, hq⟩, hf⟩ := hf) | (obtain ⟨_, hf⟩ := hf)))
      exact grows_eqv (by rfl) hC (by go_simp)
    simp only [Act.put, List.setIfInBounds_toArray, List.set_cons_succ, List.set_cons_zero, List.nil_append, List.cons_append]
    refine wpRely_cons (fun w' hC hf => ?_) (fun v3 => ?_)
    · (repeat (first | (obtain ⟨rfl, hf⟩ := hf) | (obtain ⟨⟨q, rfl, hq⟩, hf⟩ := hf) | (obtain ⟨_, hf⟩ := hf)))
      exact grows_eqv (by rfl) hC (by go_simp)
    simp only [Act.put, List.setIfInBounds_toArray, List.set_cons_succ, List.set_cons_zero, List.nil_append, List.cons_append]
    refine wpRely_cons (fun w' hC hf => ?_) (fun v4 => ?_)
    · (repeat (first | (obtain ⟨rfl, hf⟩ := hf) | (obtain ⟨⟨q, rfl, hq⟩, hf⟩ := hf) | (obtain ⟨_, hf⟩ := hf)))
      exact grows_eqv (by rfl) hC (by go_simp)
    simp only [Act.put, List.setIfInBounds_toArray, List.set_cons_succ, List.set_cons_zero, List.nil_append, List.cons_append]
    refine wpRely_cons (fun w' hC hf => ?_) (fun v5 => ?_)
    · (repeat (first | (obtain ⟨rfl, hf⟩ := hf) | (obtain ⟨⟨q, rfl, hq⟩, hf⟩ := hf) | (obtain ⟨_, hf⟩ := hf)))
      exact grows_eqv (by rfl) hC (by go_simp)
    simp only [Act.put, List.setIfInBounds_toArray, List.set_cons_succ, List.set_cons_zero, List.nil_append, List.cons_append]
    refine wpRely_cons (fun w' hC hf => ?_) (fun v6 => ?_)
    · (repeat (first | (obtain ⟨rfl, hf⟩ := hf) | (obtain ⟨⟨q, rfl, hq⟩, hf⟩ := hf) | (obtain ⟨_, hf⟩ := hf)))
      exact grows_load (by rfl) hC rfl rfl (hC.2) Try.underlying23 rfl (info_key _)
    simp only [Act.put, List.setIfInBounds_toArray, List.set_cons_succ, List.set_cons_zero, List.nil_append, List.cons_append]
    refine wpRely_cons (fun w' hC hf => ?_) (fun v7 => ?_)
    · (repeat (first | (obtain ⟨rfl, hf⟩ := hf) | (obtain ⟨⟨q, rfl, hq⟩, hf⟩ := hf) | (obtain ⟨_, hf⟩ := hf)))
      exact grows_eqv (by rfl) hC (by go_simp)
    simp only [Act.put, List.setIfInBounds_toArray, List.set_cons_succ, List.set_cons_zero, List.nil_append, List.cons_append]
    refine wpRely_cons (fun w' hC hf => ?_) (fun v8 => ?_)
    · (repeat (first | (obtain ⟨rfl, hf⟩ := hf) | (obtain ⟨⟨q, rfl, hq⟩, hf⟩ := hf) | (obtain ⟨_, hf⟩ := hf)))
      exact grows_eqv (by rfl) hC (by go_simp)
    simp only [Act.put, List.setIfInBounds_toArray, List.set_cons_succ, List.set_cons_zero, List.nil_append, List.cons_append]
    refine wpRely_cons (fun w' hC hf => ?_) (fun v9 => ?_)
    · (repeat (first | (obtain ⟨rfl, hf⟩ := hf) | (obtain ⟨⟨q, rfl, hq⟩, hf⟩ := hf) | (obtain ⟨_, hf⟩ := hf)))
      exact grows_calls hR (fun _ _ hb h => h.after hb) hC (by rfl) (by go_simp) (CB.out w')
    simp only [Act.put, List.setIfInBounds_toArray, List.set_cons_succ, List.set_cons_zero, List.nil_append, List.cons_append]
    refine wpRely_cons (fun w' hC hf => ?_) (fun v10 => ?_)
    · (repeat (first | (obtain ⟨rfl, hf⟩ := hf) | (obtain ⟨⟨q, rfl, hq⟩, hf⟩ := hf) | (obtain ⟨_, hf⟩ := hf)))
      exact grows_eqv (by rfl) hC (by go_simp)
    simp only [Act.put, List.setIfInBounds_toArray, List.set_cons_succ, List.set_cons_zero, List.nil_append, List.cons_append]
    refine wpRely_cons (fun w' hC hf => ?_) (fun v11 => ?_)
    · (repeat (first | (obtain ⟨rfl, hf⟩ := hf) | (obtain ⟨⟨q, rfl, hq⟩, hf⟩ := hf) | (obtain ⟨_, hf⟩ := hf)))
      exact grows_eqv (by rfl) hC (by go_simp)
    simp only [Act.put, List.setIfInBounds_toArray, List.set_cons_succ, List.set_cons_zero, List.nil_append, List.cons_append]
    refine wpRely_cons (fun w' hC hf => ?_) (fun v12 => ?_)
    · (repeat (first | (obtain ⟨rfl, hf⟩ := hf) | (obtain ⟨⟨q, rfl, hq⟩, hf⟩ := hf) | (obtain ⟨_, hf⟩ := hf)))
      exact grows_eqv (by rfl) hC (by go_simp)
    simp only [Act.put, List.setIfInBounds_toArray, List.set_cons_succ, List.set_cons_zero, List.nil_append, List.cons_append]
    refine wpRely_cons (fun w' hC hf => ?_) (fun v13 => ?_)
    · (repeat (first | (obtain ⟨rfl, hf⟩ := hf) | (obtain ⟨⟨q, rfl, hq⟩, hf⟩ := hf) | (obtain ⟨_, hf⟩ := hf)))
      exact grows_eqv (by rfl) hC (by go_simp)
    simp only [Act.put, List.setIfInBounds_toArray, List.set_cons_succ, List.set_cons_zero, List.nil_append, List.cons_append]
    refine wpRely_cons (fun w' hC hf => ?_) (fun v14 => ?_)
    · (repeat (first | (obtain ⟨rfl, hf⟩ := hf) | (obtain ⟨⟨q, rfl, hq⟩, hf⟩ := hf) | (obtain ⟨_, hf⟩ := hf)))
      exact grows_load (by rfl) hC rfl rfl (hC.2) Try.underlying23 rfl (info_key _)
    simp only [Act.put, List.setIfInBounds_toArray, List.set_cons_succ, List.set_cons_zero, List.nil_append, List.cons_append]
    refine wpRely_cons (fun w' hC hf => ?_) (fun v15 => ?_)
    · (repeat (first | (obtain ⟨rfl, hf⟩ := hf) | (obtain ⟨⟨q, rfl, hq⟩, hf⟩ := hf) | (obtain ⟨_, hf⟩ := hf)))
      exact grows_eqv (by rfl) hC (by go_simp)
    simp only [Act.put, List.setIfInBounds_toArray, List.set_cons_succ, List.set_cons_zero, List.nil_append, List.cons_append]
    refine wpRely_cons (fun w' hC hf => ?_) (fun v16 => ?_)
    · (repeat (first | (obtain ⟨rfl, hf⟩ := hf) | (obtain ⟨⟨q, rfl, hq⟩, hf⟩ := hf) | (obtain ⟨_, hf⟩ := hf)))
      exact grows_eqv (by rfl) hC (by go_simp)
    simp only [Act.put, List.setIfInBounds_toArray, List.set_cons_succ, List.set_cons_zero, List.nil_append, List.cons_append]
    refine wpRely_cons (fun w' hC hf => ?_) (fun v17 => ?_)
    · (repeat (first | (obtain ⟨rfl, hf⟩ := hf) | (obtain ⟨⟨q, rfl, hq⟩, hf⟩ := hf) | (obtain ⟨_, hf⟩ := hf)))
      exact grows_eqv (by rfl) hC (by go_simp)
    simp only [Act.put, List.setIfInBounds_toArray, List.set_cons_succ, List.set_cons_zero, List.nil_append, List.cons_append]
    refine wpRely_cons (fun w' hC hf => ?_) (fun v18 => ?_)
    · (repeat (first | (obtain ⟨rfl, hf⟩ := hf) | (obtain ⟨⟨q, rfl, hq⟩, hf⟩ := hf) | (obtain ⟨_, hf⟩ := hf)))
      exact grows_eqv (by rfl) hC (by rw [← EP.out]; go_simp)
    simp only [Act.put, List.setIfInBounds_toArray, List.set_cons_succ, List.set_cons_zero, List.nil_append, List.cons_append]
    refine wpRely_cons (fun w' hC hf => ?_) (fun v19 => ?_)
    · (repeat (first | (obtain ⟨rfl, hf⟩ := hf) | (obtain ⟨⟨q, rfl, hq⟩, hf⟩ := hf) | (obtain ⟨_, hf⟩ := hf)))
      exact grows_calls hR (fun _ _ hb h => h.after hb) hC (by rfl) (by go_simp) (CP.out w')
    simp only [Act.put, List.setIfInBounds_toArray, List.set_cons_succ, List.set_cons_zero, List.nil_append, List.cons_append]
    refine wpRely_cons (fun w' hC hf => ?_) (fun v20 => ?_)
    · (repeat (first | (obtain ⟨rfl, hf⟩ := hf) | (obtain ⟨⟨q, rfl, hq⟩, hf⟩ := hf) | (obtain ⟨_, hf⟩ := hf)))
      exact grows_load (by rfl) hC rfl rfl (hC.2) Try.underlying23 rfl (info_key _)
    simp only [Act.put, List.setIfInBounds_toArray, List.set_cons_succ, List.set_cons_zero, List.nil_append, List.cons_append]
    refine wpRely_cons (fun w' hC hf => ?_) (fun v21 => ?_)
    · (repeat (first | (obtain ⟨rfl, hf⟩ := hf) | (obtain ⟨⟨q, rfl, hq⟩, hf⟩ := hf) | (obtain ⟨_, hf⟩ := hf)))
      exact grows_eqv (by rfl) hC (by go_simp)
    simp only [Act.put, List.setIfInBounds_toArray, List.set_cons_succ, List.set_cons_zero, List.nil_append, List.cons_append]
    refine wpRely_cons (fun w' hC hf => ?_) (fun v22 => ?_)
    · (repeat (first | (obtain ⟨rfl, hf⟩ := hf) | (obtain ⟨⟨q, rfl, hq⟩, hf⟩ := hf) | (obtain ⟨_, hf⟩ := hf)))
      exact grows_eqv (by rfl) hC (by go_simp)
    simp only [Act.put, List.setIfInBounds_toArray, List.set_cons_succ, List.set_cons_zero, List.nil_append, List.cons_append]
    refine wpRely_cons (fun w' hC hf => ?_) (fun v23 => ?_)
    · (repeat (first | (obtain ⟨rfl, hf⟩ := hf) | (obtain ⟨⟨q, rfl, hq⟩, hf⟩ := hf) | (obtain ⟨_, hf⟩ := hf)))
      exact grows_eqv (by rfl) hC (by go_simp)
    simp only [Act.put, List.setIfInBounds_toArray, List.set_cons_succ, List.set_cons_zero, List.nil_append, List.cons_append]
    refine wpRely_cons (fun w' hC hf => ?_) (fun v24 => ?_)
    · (repeat (first | (obtain ⟨rfl, hf⟩ := hf) | (obtain ⟨⟨q, rfl, hq⟩, hf⟩ := hf) | (obtain ⟨_, hf⟩ := hf)))
      exact grows_eqv (by rfl) hC (by go_simp)
    simp only [Act.put, List.setIfInBounds_toArray, List.set_cons_succ, List.set_cons_zero, List.nil_append, List.cons_append]
    refine wpRely_cons (fun w' hC hf => ?_) (fun v25 => ?_)
    · (repeat (first | (obtain ⟨rfl, hf⟩ := hf) | (obtain ⟨⟨q, rfl, hq⟩, hf⟩ := hf) | (obtain ⟨_, hf⟩ := hf)))
      exact grows_eqv (by rfl) hC (by rw [← ER.out]; go_simp)
    simp only [Act.put, List.setIfInBounds_toArray, List.set_cons_succ, List.set_cons_zero, List.nil_append, List.cons_append]
    refine wpRely_cons (fun w' hC hf => ?_) (fun v26 => ?_)
    · (repeat (first | (obtain ⟨rfl, hf⟩ := hf) | (obtain ⟨⟨q, rfl, hq⟩, hf⟩ := hf) | (obtain ⟨_, hf⟩ := hf)))
      exact grows_calls hR (fun _ _ hb h => h.after hb) hC (by rfl) (by go_simp) (CR.out w')
    simp only [Act.put, List.setIfInBounds_toArray, List.set_cons_succ, List.set_cons_zero, List.nil_append, List.cons_append]
    refine wpRely_cons (fun w' hC hf => ?_) (fun v27 => ?_)
    · (repeat (first | (obtain ⟨rfl, hf⟩ := hf) | (obtain ⟨⟨q, rfl, hq⟩, hf⟩ := hf) | (obtain ⟨_, hf⟩ := hf)))
      exact grows_eqv (by rfl) hC (by rw [← EX.out]; go_simp)
    simp only [Act.put, List.setIfInBounds_toArray, List.set_cons_succ, List.set_cons_zero, List.nil_append, List.cons_append]
    refine wpRely_cons (fun w' hC hf => ?_) (fun v28 => ?_)
    · (repeat (first | (obtain ⟨rfl, hf⟩ := hf) | (obtain ⟨⟨q, rfl, hq⟩, hf⟩ := hf) | (obtain ⟨_, hf⟩ := hf)))
      exact grows_eqv (by rfl) hC (by go_simp)
    simp only [Act.put, List.setIfInBounds_toArray, List.set_cons_succ, List.set_cons_zero, List.nil_append, List.cons_append]
    refine wpRely_cons (fun w' hC hf => ?_) (fun v29 => ?_)
    · (repeat (first | (obtain ⟨rfl, hf⟩ := hf) | (obtain ⟨⟨q, rfl, hq⟩, hf⟩ := hf) | (obtain ⟨_, hf⟩ := hf)))
      exact grows_eqv (by rfl) hC (by go_simp)
    simp only [Act.put, List.setIfInBounds_toArray, List.set_cons_succ, List.set_cons_zero, List.nil_append, List.cons_append]
    refine wpRely_cons (fun w' hC hf => ?_) (fun v30 => ?_)
    · (repeat (first | (obtain ⟨rfl, hf⟩ := hf) | (obtain ⟨⟨q, rfl, hq⟩, hf⟩ := hf) | (obtain ⟨_, hf⟩ := hf)))
      exact grows_eqv (by rfl) hC (by go_simp)
    simp only [Act.put, List.setIfInBounds_toArray, List.set_cons_succ, List.set_cons_zero, List.nil_append, List.cons_append]
    refine wpRely_cons (fun w' hC hf => ?_) (fun v31 => ?_)
    · (repeat (first | (obtain ⟨rfl, hf⟩ := hf) | (obtain ⟨⟨q, rfl, hq⟩, hf⟩ := hf) | (obtain ⟨_, hf⟩ := hf)))
      exact grows_eqv (by rfl) hC (by go_simp)
    simp only [Act.put, List.setIfInBounds_toArray, List.set_cons_succ, List.set_cons_zero, List.nil_append, List.cons_append]
    refine wpRely_nil fun w9 hC hf => ?_
    (repeat (first | (obtain ⟨rfl, hf⟩ := hf) | (obtain ⟨⟨q, rfl, hq⟩, hf⟩ := hf) | (obtain ⟨_, hf⟩ := hf)))
    go_wp2
    go_ret
    exact ⟨rfl, hC.1⟩

end Go.Proofs.Ytmbkjbkbnigcfaa
