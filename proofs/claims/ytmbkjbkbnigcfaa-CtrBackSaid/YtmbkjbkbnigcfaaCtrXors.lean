/-
  Walk: CtrXor.
-/
import Derived.Test.YtmbkjbkbnigcfaaCtrLaw
namespace Go.Proofs.Ytmbkjbkbnigcfaa
open Go.RowKit

/-- Two texts hidden alike are as far from one another as they were. -/
theorem xor_far {key : Nat → Nat} (hk : Byt key) (nonce n : Nat) (a b : ByteArray) : listB n (xorS (bs (listB n (hideN key nonce 0 a))) (bs (listB n (hideN key nonce 0 b)))) = listB n (xorS a b) := listB_congr fun j hj => by
  show byteS (bs (listB n (hideN key nonce 0 a))) j ^^^ byteS (bs (listB n (hideN key nonce 0 b))) j = byteS a j ^^^ byteS b j
  rw [byteS_bs _ _ (hide_byt hk nonce 0 a) j hj, byteS_bs _ _ (hide_byt hk nonce 0 b) j hj, hideN_at, hideN_at]
  generalize streamN key nonce (0 + j) = x
  rw [Nat.xor_comm x, Nat.xor_assoc, xor_again]

theorem size_take (s : ByteArray) (n : Nat) (h : n ≤ s.size) : (s.extract 0 n).size = n := by
  rw [← ba_size, ba_take, List.length_take, ba_size]
  omega

set_option maxHeartbeats 4000000 in
set_option maxRecDepth 8000 in
theorem walk_CtrXor (key : Nat → Nat) (hk0 : Bytes key) (nonce : Int) (wn : (Lit.int .u64 nonce).wf = true) (a : ByteArray) (ha : a.size ≤ maxLen) (b : ByteArray) (hb : b.size ≤ maxLen) (w : World) :
    Calls Try.prog 5 #[.agg (rowOf 16 (w8 key)), .int .u64 nonce, .string a, .string b] w fun e w' => e = .returned (.bool true) ∧ Below w.heap.size w w' := by
  have ham : (a.size : Int) ≤ 9223372036854775807 := by unfold maxLen at ha; omega
  have hbm : (b.size : Int) ≤ 9223372036854775807 := by unfold maxLen at hb; omega
  clear ha hb
  obtain ⟨n, hx⟩ : ∃ n : Nat, ((a.size : Int) < b.size ∧ (n : Int) = a.size) ∨ ((b.size : Int) ≤ a.size ∧ (n : Int) = b.size) := by
    by_cases h : (a.size : Int) < b.size
    · exact ⟨a.size, .inl ⟨h, rfl⟩⟩
    · exact ⟨b.size, .inr ⟨by omega, rfl⟩⟩
  have hna : n ≤ a.size := by omega
  have hnb : n ≤ b.size := by omega
  replace hx := Lib.hid hx
  have hk : Hid (Byt key) := hk0
  have hn0 := wf5_u64 wn
  obtain ⟨nonce, rfl⟩ := Int.eq_ofNat_of_zero_le hn0.1
  have hn : Hid (nonce < 18446744073709551616) := by have := hn0.2; unfold Hid; omega
  clear hk0 wn hn0
  have r0 := Lib.hid (RowAt.new w 23 (rowOf 16 (w8 key)))
  have b0 : Below w.heap.size w (w.alloc (.cells (rowOf 16 (w8 key)) 23)) := (Below.refl _ _).alloc (Nat.le_refl _) _
  go_enter Try.func5, Try.ntmps5
  by_cases hlong : (600 : Int) < (n : Int)
  · go_wp2_with (refine wpList_min2 rfl _ _ rfl rfl a.size b.size n rfl rfl hx.out ?_)
    generalize w.alloc _ = w1 at *
    refine (shown_any w1).mono ?_
    rintro e w2 ⟨rfl, hb2⟩
    have b2 := b0.trans (hb2.mono b0.size)
    clear hb2
    go_wp2
    go_ret
    exact ⟨rfl, b2⟩
  · have t1 : ¬ ((600 : Int) < (n : Int)) := hlong
    have zA := size_take a n hna
    have zB := size_take b n hnb
    have EA : Hid (a.extract 0 n = a.extract 0 n) := rfl
    have CA := Lib.hid (crypt_yes key hk nonce hn (a.extract 0 n) (by omega))
    have CB := Lib.hid (crypt_yes key hk nonce hn (b.extract 0 n) (by omega))
    rw [zA] at CA
    rw [zB] at CB
    have CO := Lib.hid (refXor_any (a.extract 0 n) (b.extract 0 n) (by omega) (by omega))
    rw [zA] at CO
    have CX := Lib.hid (refXor_any (bs (listB n (hideN key nonce 0 (a.extract 0 n)))) (bs (listB n (hideN key nonce 0 (b.extract 0 n)))) (by rw [bs_listB_size, bs_listB_size]; exact Nat.le_refl _) (by rw [bs_listB_size]; omega))
    rw [bs_listB_size, xor_far hk.out] at CX
    clear zA zB EA
    have mn1 : (n : Int) ≤ (a.size : Int) := by omega
    have mn2 : (n : Int) ≤ (b.size : Int) := by omega
    have m0 : (0 : Int) ≤ (n : Int) := by omega
    generalize bs (listB n (xorS (a.extract 0 n) (b.extract 0 n))) = Z at *
    generalize bs (listB n (hideN key nonce 0 (a.extract 0 n))) = X at *
    generalize bs (listB n (hideN key nonce 0 (b.extract 0 n))) = Y at *
    go_wp2_with (refine wpList_min2 rfl _ _ rfl rfl a.size b.size n rfl rfl hx.out ?_)
    generalize w.alloc _ = w1 at *
    refine (shown_any w1).mono ?_
    rintro e w2 ⟨rfl, hb1⟩
    replace r0 := Lib.hid (r0.out.below hb1 r0.out.lt)
    replace b0 := b0.trans (hb1.mono b0.size)
    clear hb1
    go_wp2
    generalize a.extract 0 n = A at *
    generalize b.extract 0 n = B at *
    have HC : RowC w w.heap.size 23 (rowOf 16 (w8 key)) w2.drew := ⟨b0.drew, r0.out.drew⟩
    refine wp_region_steady (RowC w w.heap.size 23 (rowOf 16 (w8 key))) [eqv (.agg (rowOf 16 (w8 key))), eqv (.int .u64 (nonce : Int)), eqv (.string A), eqv (.string X), eqv (.agg (rowOf 16 (w8 key))), eqv (.int .u64 (nonce : Int)), eqv (.string B), eqv (.string Y), eqv (.string Z), eqv (.string A), eqv (.string B), eqv (.string Z), eqv (.bool true), eqv (.bool true)] (by kernel_rfl) (by kernel_rfl) HC
      (.cons (steady_eqv _) (.cons (steady_eqv _) (.cons (steady_eqv _) (.cons (steady_eqv _) (.cons (steady_eqv _) (.cons (steady_eqv _) (.cons (steady_eqv _) (.cons (steady_eqv _) (.cons (steady_eqv _) (.cons (steady_eqv _) (.cons (steady_eqv _) (.cons (steady_eqv _) (.cons (steady_eqv _) (.cons (steady_eqv _) .nil)))))))))))))) ?_
    intro R hR
    refine wpRely_cons (fun w' hC hf => ?_) (fun v0 => ?_)
    · (repeat (first | (obtain ⟨rfl, hf⟩ := hf) | (obtain ⟨⟨q, rfl, hq⟩, hf⟩ := hf) | (obtain ⟨_, hf⟩ := hf)))
      exact grows_load (by rfl) hC rfl rfl (hC.2) Try.underlying23 rfl (info_key _)
    simp only [Act.put, List.setIfInBounds_toArray, List.set_cons_succ, List.set_cons_zero, List.nil_append]
    refine wpRely_cons (fun w' hC hf => ?_) (fun v1 => ?_)
    · (repeat (first | (obtain ⟨rfl, hf⟩ := hf) | (obtain ⟨⟨q, rfl, hq⟩, hf⟩ := hf) | (obtain ⟨_, hf⟩ := hf)))
      exact grows_eqv (by rfl) hC (by go_simp)
    simp only [Act.put, List.setIfInBounds_toArray, List.set_cons_succ, List.set_cons_zero, List.nil_append, List.cons_append]
    refine wpRely_cons (fun w' hC hf => ?_) (fun v2 => ?_)
    · (repeat (first | (obtain ⟨rfl, hf⟩ := hf) | (obtain ⟨⟨q, rfl, hq⟩, hf⟩ := hf) | (obtain ⟨_, hf⟩ := hf)))
      exact grows_eqv (by rfl) hC (by go_simp)
    simp only [Act.put, List.setIfInBounds_toArray, List.set_cons_succ, List.set_cons_zero, List.nil_append, List.cons_append]
    refine wpRely_cons (fun w' hC hf => ?_) (fun v3 => ?_)
    · (repeat (first | (obtain ⟨rfl, hf⟩ := hf) | (obtain ⟨⟨q, rfl, hq⟩, hf⟩ := hf) | (obtain ⟨_, hf⟩ := hf)))
      exact grows_calls hR (fun _ _ hb h => h.after hb) hC (by rfl) (by go_simp) (CA.out w')
    simp only [Act.put, List.setIfInBounds_toArray, List.set_cons_succ, List.set_cons_zero, List.nil_append, List.cons_append]
    refine wpRely_cons (fun w' hC hf => ?_) (fun v4 => ?_)
    · (repeat (first | (obtain ⟨rfl, hf⟩ := hf) | (obtain ⟨⟨q, rfl, hq⟩, hf⟩ := hf) | (obtain ⟨_, hf⟩ := hf)))
      exact grows_load (by rfl) hC rfl rfl (hC.2) Try.underlying23 rfl (info_key _)
    simp only [Act.put, List.setIfInBounds_toArray, List.set_cons_succ, List.set_cons_zero, List.nil_append, List.cons_append]
    refine wpRely_cons (fun w' hC hf => ?_) (fun v5 => ?_)
    · (repeat (first | (obtain ⟨rfl, hf⟩ := hf) | (obtain ⟨⟨q, rfl, hq⟩, hf⟩ := hf) | (obtain ⟨_, hf⟩ := hf)))
      exact grows_eqv (by rfl) hC (by go_simp)
    simp only [Act.put, List.setIfInBounds_toArray, List.set_cons_succ, List.set_cons_zero, List.nil_append, List.cons_append]
    refine wpRely_cons (fun w' hC hf => ?_) (fun v6 => ?_)
    · (repeat (first | (obtain ⟨rfl, hf⟩ := hf) | (obtain ⟨⟨q, rfl, hq⟩, hf⟩ := hf) | (obtain ⟨_, hf⟩ := hf)))
      exact grows_eqv (by rfl) hC (by go_simp)
    simp only [Act.put, List.setIfInBounds_toArray, List.set_cons_succ, List.set_cons_zero, List.nil_append, List.cons_append]
    refine wpRely_cons (fun w' hC hf => ?_) (fun v7 => ?_)
    · (repeat (first | (obtain ⟨rfl, hf⟩ := hf) | (obtain ⟨⟨q, rfl, hq⟩, hf⟩ := hf) | (obtain ⟨_, hf⟩ := hf)))
      exact grows_calls hR (fun _ _ hb h => h.after hb) hC (by rfl) (by go_simp) (CB.out w')
    simp only [Act.put, List.setIfInBounds_toArray, List.set_cons_succ, List.set_cons_zero, List.nil_append, List.cons_append]
    refine wpRely_cons (fun w' hC hf => ?_) (fun v8 => ?_)
    · (repeat (first | (obtain ⟨rfl, hf⟩ := hf) | (obtain ⟨⟨q, rfl, hq⟩, hf⟩ := hf) | (obtain ⟨_, hf⟩ := hf)))
      exact grows_calls hR (fun _ _ hb h => h.after hb) hC (by rfl) (by go_simp) (CX.out w')
    simp only [Act.put, List.setIfInBounds_toArray, List.set_cons_succ, List.set_cons_zero, List.nil_append, List.cons_append]
    refine wpRely_cons (fun w' hC hf => ?_) (fun v9 => ?_)
    · (repeat (first | (obtain ⟨rfl, hf⟩ := hf) | (obtain ⟨⟨q, rfl, hq⟩, hf⟩ := hf) | (obtain ⟨_, hf⟩ := hf)))
      exact grows_eqv (by rfl) hC (by go_simp)
    simp only [Act.put, List.setIfInBounds_toArray, List.set_cons_succ, List.set_cons_zero, List.nil_append, List.cons_append]
    refine wpRely_cons (fun w' hC hf => ?_) (fun v10 => ?_)
    · (repeat (first | (obtain ⟨rfl, hf⟩ := hf) | (obtain ⟨⟨q, rfl, hq⟩, hf⟩ := hf) | (obtain ⟨_, hf⟩ := hf)))
      exact grows_eqv (by rfl) hC (by go_simp)
    simp only [Act.put, List.setIfInBounds_toArray, List.set_cons_succ, List.set_cons_zero, List.nil_append, List.cons_append]
    refine wpRely_cons (fun w' hC hf => ?_) (fun v11 => ?_)
    · (repeat (first | (obtain ⟨rfl, hf⟩ := hf) | (obtain ⟨⟨q, rfl, hq⟩, hf⟩ := hf) | (obtain ⟨_, hf⟩ := hf)))
      exact grows_calls hR (fun _ _ hb h => h.after hb) hC (by rfl) (by go_simp) (CO.out w')
    simp only [Act.put, List.setIfInBounds_toArray, List.set_cons_succ, List.set_cons_zero, List.nil_append, List.cons_append]
    refine wpRely_cons (fun w' hC hf => ?_) (fun v12 => ?_)
    · (repeat (first | (obtain ⟨rfl, hf⟩ := hf) | (obtain ⟨⟨q, rfl, hq⟩, hf⟩ := hf) | (obtain ⟨_, hf⟩ := hf)))
      exact grows_eqv (by rfl) hC (by go_simp)
    simp only [Act.put, List.setIfInBounds_toArray, List.set_cons_succ, List.set_cons_zero, List.nil_append, List.cons_append]
    refine wpRely_cons (fun w' hC hf => ?_) (fun v13 => ?_)
    · (repeat (first | (obtain ⟨rfl, hf⟩ := hf) | (obtain ⟨⟨q, rfl, hq⟩, hf⟩ := hf) | (obtain ⟨_, hf⟩ := hf)))
      exact grows_eqv (by rfl) hC (by go_simp)
    simp only [Act.put, List.setIfInBounds_toArray, List.set_cons_succ, List.set_cons_zero, List.nil_append, List.cons_append]
    refine wpRely_nil fun w9 hC hf => ?_
    (repeat (first | (obtain ⟨rfl, hf⟩ := hf) | (obtain ⟨⟨q, rfl, hq⟩, hf⟩ := hf) | (obtain ⟨_, hf⟩ := hf)))
    go_wp2
    go_ret
    exact ⟨rfl, hC.1⟩

end Go.Proofs.Ytmbkjbkbnigcfaa
