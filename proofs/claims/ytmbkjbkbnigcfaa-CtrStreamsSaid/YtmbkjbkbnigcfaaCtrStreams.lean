/-
  Walk: CtrStreams.
-/
import Derived.Test.YtmbkjbkbnigcfaaCtrLaw
namespace Go.Proofs.Ytmbkjbkbnigcfaa
open Go.RowKit

/-- The document's way to hide. -/
theorem xor_stream {key : Nat → Nat} (hk : Byt key) (nonce M : Nat) (s : ByteArray) (h : s.size ≤ M) : bs (listB s.size (xorS s (bs (listB M (streamN key nonce))))) = bs (listB s.size (hideN key nonce 0 s)) := by
  have e : listB s.size (xorS s (bs (listB M (streamN key nonce)))) = listB s.size (hideN key nonce 0 s) := listB_congr fun j hj => by
    rw [hideN_at]
    show byteS s j ^^^ byteS (bs (listB M (streamN key nonce))) j = _
    rw [byteS_bs _ _ (stream_byt hk nonce) j (by omega), Nat.zero_add, Nat.xor_comm]
  rw [e]

set_option maxHeartbeats 4000000 in
set_option maxRecDepth 8000 in
theorem walk_CtrStreams (key : Nat → Nat) (hk0 : Bytes key) (nonce : Int) (wn : (Lit.int .u64 nonce).wf = true) (a : Int) (wa : (Lit.int .u8 a).wf = true) (s : ByteArray) (hs : s.size ≤ maxLen) (w : World) :
    Calls Try.prog 3 #[.agg (rowOf 16 (w8 key)), .int .u64 nonce, .int .u8 a, .string s] w fun e w' => e = .returned (.bool true) ∧ Below w.heap.size w w' := by
  have ha := wf_u8 wa
  obtain ⟨a, rfl⟩ := Int.eq_ofNat_of_zero_le ha.1
  have hsm : (s.size : Int) ≤ 9223372036854775807 := by unfold maxLen at hs; omega
  clear wa hs
  have hk : Hid (Byt key) := hk0
  have hn0 := wf5_u64 wn
  obtain ⟨nonce, rfl⟩ := Int.eq_ofNat_of_zero_le hn0.1
  have hn : Hid (nonce < 18446744073709551616) := by have := hn0.2; unfold Hid; omega
  clear hk0 wn hn0
  have r0 := Lib.hid (RowAt.new w 23 (rowOf 16 (w8 key)))
  have b0 : Below w.heap.size w (w.alloc (.cells (rowOf 16 (w8 key)) 23)) := (Below.refl _ _).alloc (Nat.le_refl _) _
  go_enter Try.func3, Try.ntmps3
  by_cases hlong : (60 : Int) < (s.size : Int)
  · go_wp2_with fail
    generalize w.alloc _ = w1 at *
    refine (shown_any w1).mono ?_
    rintro e w2 ⟨rfl, hb2⟩
    have b2 := b0.trans (hb2.mono b0.size)
    clear hb2
    go_wp2
    go_ret
    exact ⟨rfl, b2⟩
  · have t1 : ¬ ((60 : Int) < (s.size : Int)) := hlong
    obtain ⟨m, hm⟩ : ∃ m, a % 60 = m := ⟨_, rfl⟩
    have em : (a : Int) % 60 = (m : Int) := by omega
    have hm60 : m < 60 := by omega
    obtain ⟨M, hM⟩ : ∃ M : Nat, ((m : Int) < s.size ∧ (M : Int) = s.size) ∨ ((s.size : Int) ≤ m ∧ (M : Int) = m) := by
      by_cases h : (m : Int) < s.size
      · exact ⟨s.size, .inl ⟨h, rfl⟩⟩
      · exact ⟨m, .inr ⟨by omega, rfl⟩⟩
    have hmM : m ≤ M := by omega
    have hsM : s.size ≤ M := by omega
    have hM4 : M ≤ 4000 := by omega
    replace hM := Lib.hid hM
    clear hm
    have CS := Lib.hid (refStream_any key hk nonce hn M hM4)
    have CM := Lib.hid (ctrStream_nat key hk nonce hn m (by omega))
    have CX := Lib.hid (crypt_yes key hk nonce hn s (by omega))
    have CO := Lib.hid (refXor_any s (bs (listB M (streamN key nonce))) (by rw [bs_listB_size]; exact hsM) (by omega))
    have E1 := Lib.hid (bs_take M m (streamN key nonce) hmM)
    rw [xor_stream hk.out nonce M s hsM] at CO
    have hS : (bs (listB M (streamN key nonce))).size = M := bs_listB_size _ _
    generalize bs (listB s.size (hideN key nonce 0 s)) = X at *
    generalize bs (listB M (streamN key nonce)) = S at *
    generalize bs (listB m (streamN key nonce)) = S2 at *
    go_wp2_with fail
    generalize w.alloc _ = w1 at *
    refine (shown_any w1).mono ?_
    rintro e w2 ⟨rfl, hb1⟩
    replace r0 := Lib.hid (r0.out.below hb1 r0.out.lt)
    replace b0 := b0.trans (hb1.mono b0.size)
    clear hb1
    go_wp2_with (first | (refine wpList_load_row rfl 23 _ rfl w.heap.size rfl 23 _ (0, 0) _ r0.out Try.underlying23 rfl (info_key _) ?_) | (refine wpList_max2 rfl _ _ rfl rfl _ s.size M rfl rfl (by first | exact hM.out | (rw [em]; exact hM.out)) ?_))
    try rw [em]
    refine (CS.out w2).mono ?_
    rintro e w3 ⟨rfl, hb1⟩
    replace r0 := Lib.hid (r0.out.below hb1 r0.out.lt)
    replace b0 := b0.trans (hb1.mono b0.size)
    clear hb1
    clear CS
    have mn1 : (m : Int) ≤ (M : Int) := by omega
    have m0 : (0 : Int) ≤ (m : Int) := by omega
    clear em
    go_wp2
    have HC : RowC w w.heap.size 23 (rowOf 16 (w8 key)) w3.drew := ⟨b0.drew, r0.out.drew⟩
    refine wp_region_steady (RowC w w.heap.size 23 (rowOf 16 (w8 key))) [eqv (.agg (rowOf 16 (w8 key))), eqv (.int .u64 (nonce : Int)), eqv (.int .i64 (m : Int)), eqv (.string S2), eqv (.string S), eqv (.int .i64 (m : Int)), eqv (.string S2), eqv (.bool true), eqv (.bool true), eqv (.agg (rowOf 16 (w8 key))), eqv (.int .u64 (nonce : Int)), eqv (.string s), eqv (.string X), eqv (.string s), eqv (.string S), eqv (.string X), eqv (.bool true), eqv (.bool true), eqv (.bool true)] (by kernel_rfl) (by kernel_rfl) HC
      (.cons (steady_eqv _) (.cons (steady_eqv _) (.cons (steady_eqv _) (.cons (steady_eqv _) (.cons (steady_eqv _) (.cons (steady_eqv _) (.cons (steady_eqv _) (.cons (steady_eqv _) (.cons (steady_eqv _) (.cons (steady_eqv _) (.cons (steady_eqv _) (.cons (steady_eqv _) (.cons (steady_eqv _) (.cons (steady_eqv _) (.cons (steady_eqv _) (.cons (steady_eqv _) (.cons (steady_eqv _) (.cons (steady_eqv _) (.cons (steady_eqv _) .nil))))))))))))))))))) ?_
    intro R hR
    refine wpRely_cons (fun w' hC hf => ?_) (fun v0 => ?_)
    · (repeat (first | (obtain ⟨rfl, hf⟩ := hf) | (obtain ⟨⟨q, rfl, hq⟩, hf⟩ := hf) | (obtain ⟨_, hf⟩ := hf)))
      exact grows_load (by rfl) hC rfl rfl (hC.2) Try.underlying23 rfl (info_key _)
    simp only [Act.put, List.setIfInBounds_toArray, List.set_cons_succ, List.set_cons_zero, List.nil_append]
    refine wpRely_cons (fun w' hC hf => ?_) (fun v1 => ?_)
    · (repeat (first | (obtain ⟨rfl, hf⟩ := hf) | (obtain ⟨⟨q, rfl, hq⟩, hf⟩ := hf) | (obtain ⟨_, hf⟩ := hf)))
      exact grows_eqv (by rfl) hC (by go_simp)
    simp only [Act.put, List.setIfInBounds_toArray, List.set_cons_succ, List.set_cons_zero, List.nil_append, List.cons_append]
    refine wpRely_cons (fun w' hC hf => ?_) (fun v2 => ?_)
    · (repeat (first | (obtain ⟨rfl, hf⟩ := hf) | (obtain ⟨⟨q, rfl, hq⟩, hf⟩ := hf) | (obtain ⟨_, hf⟩ := hf)))
      exact grows_eqv (by rfl) hC (by go_simp)
    simp only [Act.put, List.setIfInBounds_toArray, List.set_cons_succ, List.set_cons_zero, List.nil_append, List.cons_append]
    refine wpRely_cons (fun w' hC hf => ?_) (fun v3 => ?_)
    · (repeat (first | (obtain ⟨rfl, hf⟩ := hf) | (obtain ⟨⟨q, rfl, hq⟩, hf⟩ := hf) | (obtain ⟨_, hf⟩ := hf)))
      exact grows_calls hR (fun _ _ hb h => h.after hb) hC (by rfl) (by go_simp) (CM.out w')
    simp only [Act.put, List.setIfInBounds_toArray, List.set_cons_succ, List.set_cons_zero, List.nil_append, List.cons_append]
    refine wpRely_cons (fun w' hC hf => ?_) (fun v4 => ?_)
    · (repeat (first | (obtain ⟨rfl, hf⟩ := hf) | (obtain ⟨⟨q, rfl, hq⟩, hf⟩ := hf) | (obtain ⟨_, hf⟩ := hf)))
      exact grows_eqv (by rfl) hC (by go_simp)
    simp only [Act.put, List.setIfInBounds_toArray, List.set_cons_succ, List.set_cons_zero, List.nil_append, List.cons_append]
    refine wpRely_cons (fun w' hC hf => ?_) (fun v5 => ?_)
    · (repeat (first | (obtain ⟨rfl, hf⟩ := hf) | (obtain ⟨⟨q, rfl, hq⟩, hf⟩ := hf) | (obtain ⟨_, hf⟩ := hf)))
      exact grows_eqv (by rfl) hC (by go_simp)
    simp only [Act.put, List.setIfInBounds_toArray, List.set_cons_succ, List.set_cons_zero, List.nil_append, List.cons_append]
    refine wpRely_cons (fun w' hC hf => ?_) (fun v6 => ?_)
    · (repeat (first | (obtain ⟨rfl, hf⟩ := hf) | (obtain ⟨⟨q, rfl, hq⟩, hf⟩ := hf) | (obtain ⟨_, hf⟩ := hf)))
      exact grows_eqv (by rfl) hC (by rw [← E1.out]; go_simp)
    simp only [Act.put, List.setIfInBounds_toArray, List.set_cons_succ, List.set_cons_zero, List.nil_append, List.cons_append]
    refine wpRely_cons (fun w' hC hf => ?_) (fun v7 => ?_)
    · (repeat (first | (obtain ⟨rfl, hf⟩ := hf) | (obtain ⟨⟨q, rfl, hq⟩, hf⟩ := hf) | (obtain ⟨_, hf⟩ := hf)))
      exact grows_eqv (by rfl) hC (by go_simp)
    simp only [Act.put, List.setIfInBounds_toArray, List.set_cons_succ, List.set_cons_zero, List.nil_append, List.cons_append]
    refine wpRely_cons (fun w' hC hf => ?_) (fun v8 => ?_)
    · (repeat (first | (obtain ⟨rfl, hf⟩ := hf) | (obtain ⟨⟨q, rfl, hq⟩, hf⟩ := hf) | (obtain ⟨_, hf⟩ := hf)))
      exact grows_eqv (by rfl) hC (by go_simp)
    simp only [Act.put, List.setIfInBounds_toArray, List.set_cons_succ, List.set_cons_zero, List.nil_append, List.cons_append]
    refine wpRely_cons (fun w' hC hf => ?_) (fun v9 => ?_)
    · (repeat (first | (obtain ⟨rfl, hf⟩ := hf) | (obtain ⟨⟨q, rfl, hq⟩, hf⟩ := hf) | (obtain ⟨_, hf⟩ := hf)))
      exact grows_load (by rfl) hC rfl rfl (hC.2) Try.underlying23 rfl (info_key _)
    simp only [Act.put, List.setIfInBounds_toArray, List.set_cons_succ, List.set_cons_zero, List.nil_append, List.cons_append]
    refine wpRely_cons (fun w' hC hf => ?_) (fun v10 => ?_)
    · (repeat (first | (obtain ⟨rfl, hf⟩ := hf) | (obtain ⟨⟨q, rfl, hq⟩, hf⟩ := hf) | (obtain ⟨_, hf⟩ := hf)))
      exact grows_eqv (by rfl) hC (by go_simp)
    simp only [Act.put, List.setIfInBounds_toArray, List.set_cons_succ, List.set_cons_zero, List.nil_append, List.cons_append]
    refine wpRely_cons (fun w' hC hf => ?_) (fun v11 => ?_)
    · (repeat (first | (obtain ⟨rfl, hf⟩ := hf) | (obtain ⟨⟨q, rfl, hq⟩, hf⟩ := hf) | (obtain ⟨_, hf⟩ := hf)))
      exact grows_eqv (by rfl) hC (by go_simp)
    simp only [Act.put, List.setIfInBounds_toArray, List.set_cons_succ, List.set_cons_zero, List.nil_append, List.cons_append]
    refine wpRely_cons (fun w' hC hf => ?_) (fun v12 => ?_)
    · (repeat (first | (obtain ⟨rfl, hf⟩ := hf) | (obtain ⟨⟨q, rfl, hq⟩, hf⟩ := hf) | (obtain ⟨_, hf⟩ := hf)))
      exact grows_calls hR (fun _ _ hb h => h.after hb) hC (by rfl) (by go_simp) (CX.out w')
    simp only [Act.put, List.setIfInBounds_toArray, List.set_cons_succ, List.set_cons_zero, List.nil_append, List.cons_append]
    refine wpRely_cons (fun w' hC hf => ?_) (fun v13 => ?_)
    · (repeat (first | (obtain ⟨rfl, hf⟩ := hf) | (obtain ⟨⟨q, rfl, hq⟩, hf⟩ := hf) | (obtain ⟨_, hf⟩ := hf)))
      exact grows_eqv (by rfl) hC (by go_simp)
    simp only [Act.put, List.setIfInBounds_toArray, List.set_cons_succ, List.set_cons_zero, List.nil_append, List.cons_append]
    refine wpRely_cons (fun w' hC hf => ?_) (fun v14 => ?_)
    · (repeat (first | (obtain ⟨rfl, hf⟩ := hf) | (obtain ⟨⟨q, rfl, hq⟩, hf⟩ := hf) | (obtain ⟨_, hf⟩ := hf)))
      exact grows_eqv (by rfl) hC (by go_simp)
    simp only [Act.put, List.setIfInBounds_toArray, List.set_cons_succ, List.set_cons_zero, List.nil_append, List.cons_append]
    refine wpRely_cons (fun w' hC hf => ?_) (fun v15 => ?_)
    · (repeat (first | (obtain ⟨rfl, hf⟩ := hf) | (obtain ⟨⟨q, rfl, hq⟩, hf⟩ := hf) | (obtain ⟨_, hf⟩ := hf)))
      exact grows_calls hR (fun _ _ hb h => h.after hb) hC (by rfl) (by go_simp) (CO.out w')
    simp only [Act.put, List.setIfInBounds_toArray, List.set_cons_succ, List.set_cons_zero, List.nil_append, List.cons_append]
    refine wpRely_cons (fun w' hC hf => ?_) (fun v16 => ?_)
    · (repeat (first | (obtain ⟨rfl, hf⟩ := hf) | (obtain ⟨⟨q, rfl, hq⟩, hf⟩ := hf) | (obtain ⟨_, hf⟩ := hf)))
      exact grows_eqv (by rfl) hC (by go_simp)
    simp only [Act.put, List.setIfInBounds_toArray, List.set_cons_succ, List.set_cons_zero, List.nil_append, List.cons_append]
    refine wpRely_cons (fun w' hC hf => ?_) (fun v17 => ?_)
    · (repeat (first | (obtain ⟨rfl, hf⟩ := hf) | (obtain ⟨⟨q, rfl, hq⟩, hf⟩ := hf) | (obtain ⟨_, hf⟩ := hf)))
      exact grows_eqv (by rfl) hC (by go_simp)
    simp only [Act.put, List.setIfInBounds_toArray, List.set_cons_succ, List.set_cons_zero, List.nil_append, List.cons_append]
    refine wpRely_cons (fun w' hC hf => ?_) (fun v18 => ?_)
    · (repeat (first | (obtain ⟨rfl, hf⟩ := hf) | (obtain ⟨⟨q, rfl, hq⟩, hf⟩ := hf) | (obtain ⟨_, hf⟩ := hf)))
      exact grows_eqv (by rfl) hC (by go_simp)
    simp only [Act.put, List.setIfInBounds_toArray, List.set_cons_succ, List.set_cons_zero, List.nil_append, List.cons_append]
    refine wpRely_nil fun w9 hC hf => ?_
    (repeat (first | (obtain ⟨rfl, hf⟩ := hf) | (obtain ⟨⟨q, rfl, hq⟩, hf⟩ := hf) | (obtain ⟨_, hf⟩ := hf)))
    go_wp2
    go_ret
    exact ⟨rfl, hC.1⟩

end Go.Proofs.Ytmbkjbkbnigcfaa
