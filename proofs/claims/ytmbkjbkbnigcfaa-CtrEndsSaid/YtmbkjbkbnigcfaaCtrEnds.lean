/-
  Walk: CtrEnds.
-/
import Derived.Test.YtmbkjbkbnigcfaaCtrLaw
import Derived.Test.YtmbkjbkbnigcfaaRelyMake
namespace Go.Proofs.Ytmbkjbkbnigcfaa
open Go.RowKit

theorem run_make0 (m : Nat) (hm : m ≤ 1000000) (w : World) : (Instr.makeSlice 34 (.int .i64 (m : Int)) (.int .i64 (m : Int))).run Try.prog w = .ok (.slice (some ⟨w.heap.size, 0, none⟩) m m) (w.alloc (.cells (rowOf m (w8 zeroN)) 5)) := by
  obtain ⟨i0, hi, hz0, hz1, hz2⟩ := info_parts Try.info5
  have h := run_makeSlice (P := Try.prog) w 34 5 i0 (.int .u8 0) Try.underlying34 hi hz0 .i64 .i64 (m : Int) (m : Int) (by omega) (by omega) (by rw [hz1]; simp; omega) (by rw [hz2]; omega) (by omega)
  rw [hz1] at h
  simp only [Int.toNat_natCast, Nat.mul_one, show (Value.int .u8 0).cells = #[Value.int .u8 0] from rfl, made_zero] at h
  exact h

theorem wrap5 (n : Int) (h1 : 0 ≤ n) (h2 : n ≤ 100000) : IntKind.i64.wrap n = n := by
  rw [IntKind.wrap_i64]
  omega
theorem zero_byt5 : Byt zeroN := fun _ => by unfold zeroN; decide
theorem bs_mid (N p r : Nat) (f : Nat → Nat) (h1 : p ≤ r) (h2 : r ≤ N) : (bs (listB N f)).extract p r = bs (listB (r - p) (fun j => f (p + j))) := by
  apply ba_ext
  rw [Lib.extract_data, listB_bs, listB_bs, listB_drop _ _ _ (by omega), listB_take _ _ _ (by omega)]

/-- Bytes 0, hidden, are the stream. -/
theorem hide_zero (key : Nat → Nat) (nonce p n : Nat) : bs (listB n (hideN key nonce p (bs (listB n zeroN)))) = bs (listB n (fun j => streamN key nonce (p + j))) := by
  have e : listB n (hideN key nonce p (bs (listB n zeroN))) = listB n (fun j => streamN key nonce (p + j)) := listB_congr fun j hj => by
    rw [hideN_at, byteS_bs _ _ zero_byt5 j hj]
    exact Nat.xor_zero _
  rw [e]

set_option maxHeartbeats 4000000 in
set_option maxRecDepth 8000 in
theorem walk_CtrEnds (key : Nat → Nat) (hk0 : Bytes key) (nonce : Int) (wn : (Lit.int .u64 nonce).wf = true) (at_ : Int) (wat : (Lit.int .i64 at_).wf = true) (n : Int) (wn2 : (Lit.int .u8 n).wf = true) (w : World) :
    Calls Try.prog 6 #[.agg (rowOf 16 (w8 key)), .int .u64 nonce, .int .i64 at_, .int .u8 n] w fun e w' => e = .returned (.bool true) ∧ Below w.heap.size w w' := by
  have hnn := wf_u8 wn2
  have hat := wf5_i64 wat
  obtain ⟨n, rfl⟩ := Int.eq_ofNat_of_zero_le hnn.1
  clear wn2 wat
  have hk : Hid (Byt key) := hk0
  have hn0 := wf5_u64 wn
  obtain ⟨nonce, rfl⟩ := Int.eq_ofNat_of_zero_le hn0.1
  have hn : Hid (nonce < 18446744073709551616) := by have := hn0.2; unfold Hid; omega
  clear hk0 wn hn0
  have r0 := Lib.hid (RowAt.new w 23 (rowOf 16 (w8 key)))
  have b0 : Below w.heap.size w (w.alloc (.cells (rowOf 16 (w8 key)) 23)) := (Below.refl _ _).alloc (Nat.le_refl _) _
  have MK := run_make0 256 (by decide) (w.alloc (.cells (rowOf 16 (w8 key)) 23))
  have cv := block_string (P := Try.prog) (src := 34) (dst := 9) (cap := 256) zero_byt5 Try.underlying34 Try.underlying5 Try.underlying9 (RowAt.new (w.alloc (.cells (rowOf 16 (w8 key)) 23)) 5 (rowOf 256 (w8 zeroN)))
  rw [World.size_alloc, show ((256 : Nat) : Int) = 256 from rfl] at MK
  rw [World.size_alloc] at cv
  replace r0 := Lib.hid (r0.out.alloc (.cells (rowOf 256 (w8 zeroN)) 5))
  replace b0 := b0.alloc (o := .cells (rowOf 256 (w8 zeroN)) 5) b0.size
  have zZ : (bs (listB 256 zeroN)).size = 256 := bs_listB_size _ _
  have eZ : (bs (listB 256 zeroN)).extract 0 n = bs (listB n zeroN) := bs_take _ _ _ (by omega)
  have CL := Lib.hid (ctrStream_in key hk nonce hn 5000 5000 4096 (by decide) (.inr ⟨by decide, rfl⟩) (.inr ⟨by decide, rfl⟩))
  have hL : (bs (listB 4096 (streamN key nonce))).size = 4096 := bs_listB_size _ _
  generalize bs (listB 256 zeroN) = Z0 at *
  by_cases hin : 0 ≤ at_ ∧ at_ + (n : Int) ≤ 4096
  · obtain ⟨p, rfl⟩ := Int.eq_ofNat_of_zero_le hin.1
    obtain ⟨r, hr⟩ : ∃ r, r = p + n := ⟨_, rfl⟩
    have EQ : Hid ((p : Int) + (n : Int) = (r : Int)) := by unfold Hid; omega
    have wN : Hid (IntKind.i64.wrap (n : Int) = (n : Int)) := wrap5 _ (by omega) (by omega)
    have wPN : Hid (IntKind.i64.wrap ((p : Int) + (n : Int)) = (p : Int) + (n : Int)) := wrap5 _ (by omega) (by omega)
    have hpn : p + n ≤ 4096 := by omega
    have CA := Lib.hid (at_yes key hk nonce hn p (bs (listB n zeroN)) (by rw [bs_listB_size]; exact hpn))
    rw [bs_listB_size, hide_zero] at CA
    have E2 := Lib.hid (bs_mid 4096 p r (streamN key nonce) (by omega) (by omega))
    rw [show r - p = n by omega] at E2
    have CZ := Lib.hid (ctrStream_in key hk nonce hn (-1) 0 0 (by decide) (.inl ⟨by decide, rfl⟩) (.inl ⟨by decide, rfl⟩))
    rw [show bs (listB 0 (streamN key nonce)) = ⟨#[]⟩ from rfl] at CZ
    have CE := Lib.hid (crypt_no key nonce (bs (listB 4097 zeroN)) (by rw [bs_listB_size]; decide) (by rw [bs_listB_size]; decide))
    rw [show bs [] = ⟨#[]⟩ from rfl] at CE
    have CV : Hid (∀ w' q, RowAt w' q 5 (rowOf 4097 (w8 zeroN)) → (convert 34 9 (.slice (some ⟨q, 0, none⟩) 4097 4097)).run Try.prog w' = .ok (.string (bs (listB 4097 zeroN))) w') :=
      fun w' q hr => block_string zero_byt5 Try.underlying34 Try.underlying5 Try.underlying9 hr
    generalize bs (listB 4097 zeroN) = ZZ at *
    generalize bs (listB n fun j => streamN key nonce (p + j)) = X at *
    generalize bs (listB 4096 (streamN key nonce)) = L at *
    generalize bs (listB n zeroN) = s at *
    have t1 : ¬ ((p : Int) < 0) := by omega
    have t2 : ¬ ((4096 : Int) < (p : Int)) := by omega
    have t3 : (p : Int) + (n : Int) ≤ 4096 := by omega
    have t4 : (p : Int) ≤ (r : Int) := by omega
    have t5 : (r : Int) ≤ 4096 := by omega
    clear hr hin
    go_enter Try.func6, Try.ntmps6
    go_wp2_with (refine wpList_load_row rfl 23 _ rfl w.heap.size rfl 23 _ (0, 0) _ r0.out Try.underlying23 rfl (info_key _) ?_)
    clear MK cv
    generalize (w.alloc _).alloc _ = w2 at *
    refine (CA.out w2).mono ?_
    rintro e w3 ⟨rfl, hb1⟩
    replace r0 := Lib.hid (r0.out.below hb1 r0.out.lt)
    replace b0 := b0.trans (hb1.mono b0.size)
    clear hb1
    clear CA
    go_wp2_with (refine wpList_load_row rfl 23 _ rfl w.heap.size rfl 23 _ (0, 0) _ r0.out Try.underlying23 rfl (info_key _) ?_)
    refine (CL.out w3).mono ?_
    rintro e w4 ⟨rfl, hb1⟩
    replace r0 := Lib.hid (r0.out.below hb1 r0.out.lt)
    replace b0 := b0.trans (hb1.mono b0.size)
    clear hb1
    clear CL
    go_wp2
    have HC : RowC w w.heap.size 23 (rowOf 16 (w8 key)) w4.drew := ⟨b0.drew, r0.out.drew⟩
    refine wp_region_steady (RowC w w.heap.size 23 (rowOf 16 (w8 key))) [eqv (.string X), eqv (.string L), eqv (.int .i64 (p : Int)), eqv (.int .i64 (p : Int)), eqv (.int .u8 (n : Int)), eqv (.int .i64 (n : Int)), eqv (.int .i64 (r : Int)), eqv (.string X), eqv (.bool true), eqv (.bool true), eqv (.string L), eqv (.int .i64 4096), eqv (.bool true), eqv (.bool true), eqv (.bool true), eqv (.agg (rowOf 16 (w8 key))), eqv (.int .u64 (nonce : Int)), eqv (.string ⟨#[]⟩), eqv (.bool true), eqv (.bool true), eqv (.bool true), eqv (.agg (rowOf 16 (w8 key))), eqv (.int .u64 (nonce : Int)), heldv 5 4097 (rowOf 4097 (w8 zeroN)), eqv (.string ZZ), eqv (.string ⟨#[]⟩), eqv (.bool true), eqv (.bool true), eqv (.bool true), eqv (.bool true), eqv (.bool true), eqv (.bool true)] (by kernel_rfl) (by kernel_rfl) HC
      (.cons (steady_eqv _) (.cons (steady_eqv _) (.cons (steady_eqv _) (.cons (steady_eqv _) (.cons (steady_eqv _) (.cons (steady_eqv _) (.cons (steady_eqv _) (.cons (steady_eqv _) (.cons (steady_eqv _) (.cons (steady_eqv _) (.cons (steady_eqv _) (.cons (steady_eqv _) (.cons (steady_eqv _) (.cons (steady_eqv _) (.cons (steady_eqv _) (.cons (steady_eqv _) (.cons (steady_eqv _) (.cons (steady_eqv _) (.cons (steady_eqv _) (.cons (steady_eqv _) (.cons (steady_eqv _) (.cons (steady_eqv _) (.cons (steady_eqv _) (.cons (steady_heldv _ _ _) (.cons (steady_eqv _) (.cons (steady_eqv _) (.cons (steady_eqv _) (.cons (steady_eqv _) (.cons (steady_eqv _) (.cons (steady_eqv _) (.cons (steady_eqv _) (.cons (steady_eqv _) .nil)))))))))))))))))))))))))))))))) ?_
    intro R hR
    refine wpRely_cons (fun w' hC hf => ?_) (fun v0 => ?_)
    · (repeat (first | (obtain ⟨rfl, hf⟩ := hf) | (obtain ⟨⟨q, rfl, hq⟩, hf⟩ := hf) | (obtain ⟨_, hf⟩ := hf)))
      exact grows_eqv (by rfl) hC (by go_simp)
    simp only [Act.put, List.setIfInBounds_toArray, List.set_cons_succ, List.set_cons_zero, List.nil_append]
    refine wpRely_cons (fun w' hC hf => ?_) (fun v1 => ?_)
    · (repeat (first | (obtain ⟨rfl, hf⟩ := hf) | (obtain ⟨⟨q, rfl, hq⟩, hf⟩ := hf) | (obtain ⟨_, hf⟩ := hf)))
      exact grows_eqv (by rfl) hC (by go_simp)
    simp only [Act.put, List.setIfInBounds_toArray, List.set_cons_succ, List.set_cons_zero, List.nil_append, List.cons_append]
    refine wpRely_cons (fun w' hC hf => ?_) (fun v2 => ?_)
    · (repeat (first | (obtain ⟨rfl, hf⟩ := hf) | (obtain ⟨⟨q, rfl, hq⟩, hf⟩ := hf) | (obtain ⟨_, hf⟩ := hf)))
      exact grows_eqv (by rfl) hC (by go_simp)
    simp only [Act.put, List.setIfInBounds_toArray, List.set_cons_succ, List.set_cons_zero, List.nil_append, List.cons_append]
    refine wpRely_cons (fun w' hC hf => ?_) (fun v3 => ?_)
    · (repeat (first | (obtain ⟨rfl, hf⟩ := hf) | (obtain ⟨⟨q, rfl, hq⟩, hf⟩ := hf) | (obtain ⟨_, hf⟩ := hf)))
      exact grows_eqv (by rfl) hC (by go_simp)
    simp only [Act.put, List.setIfInBounds_toArray, List.set_cons_succ, List.set_cons_zero, List.nil_append, List.cons_append]
    refine wpRely_cons (fun w' hC hf => ?_) (fun v4 => ?_)
    · (repeat (first | (obtain ⟨rfl, hf⟩ := hf) | (obtain ⟨⟨q, rfl, hq⟩, hf⟩ := hf) | (obtain ⟨_, hf⟩ := hf)))
      exact grows_eqv (by rfl) hC (by go_simp)
    simp only [Act.put, List.setIfInBounds_toArray, List.set_cons_succ, List.set_cons_zero, List.nil_append, List.cons_append]
    refine wpRely_cons (fun w' hC hf => ?_) (fun v5 => ?_)
    · (repeat (first | (obtain ⟨rfl, hf⟩ := hf) | (obtain ⟨⟨q, rfl, hq⟩, hf⟩ := hf) | (obtain ⟨_, hf⟩ := hf)))
      exact grows_eqv (by rfl) hC (by go_simp; exact wN.out)
    simp only [Act.put, List.setIfInBounds_toArray, List.set_cons_succ, List.set_cons_zero, List.nil_append, List.cons_append]
    refine wpRely_cons (fun w' hC hf => ?_) (fun v6 => ?_)
    · (repeat (first | (obtain ⟨rfl, hf⟩ := hf) | (obtain ⟨⟨q, rfl, hq⟩, hf⟩ := hf) | (obtain ⟨_, hf⟩ := hf)))
      exact grows_eqv (by rfl) hC (by rw [← EQ.out]; go_simp; exact wPN.out)
    simp only [Act.put, List.setIfInBounds_toArray, List.set_cons_succ, List.set_cons_zero, List.nil_append, List.cons_append]
    refine wpRely_cons (fun w' hC hf => ?_) (fun v7 => ?_)
    · (repeat (first | (obtain ⟨rfl, hf⟩ := hf) | (obtain ⟨⟨q, rfl, hq⟩, hf⟩ := hf) | (obtain ⟨_, hf⟩ := hf)))
      exact grows_eqv (by rfl) hC (by rw [← E2.out]; go_simp)
    simp only [Act.put, List.setIfInBounds_toArray, List.set_cons_succ, List.set_cons_zero, List.nil_append, List.cons_append]
    refine wpRely_cons (fun w' hC hf => ?_) (fun v8 => ?_)
    · (repeat (first | (obtain ⟨rfl, hf⟩ := hf) | (obtain ⟨⟨q, rfl, hq⟩, hf⟩ := hf) | (obtain ⟨_, hf⟩ := hf)))
      exact grows_eqv (by rfl) hC (by go_simp)
    simp only [Act.put, List.setIfInBounds_toArray, List.set_cons_succ, List.set_cons_zero, List.nil_append, List.cons_append]
    refine wpRely_cons (fun w' hC hf => ?_) (fun v9 => ?_)
    · (repeat (first | (obtain ⟨rfl, hf⟩ := hf) | (obtain ⟨⟨q, rfl, hq⟩, hf⟩ := hf) | (obtain ⟨_, hf⟩ := hf)))
      exact grows_eqv (by rfl) hC (by go_simp)
    simp only [Act.put, List.setIfInBounds_toArray, List.set_cons_succ, List.set_cons_zero, List.nil_append, List.cons_append]
    refine wpRely_cons (fun w' hC hf => ?_) (fun v10 => ?_)
    · (repeat (first | (obtain ⟨rfl, hf⟩ := hf) | (obtain ⟨⟨q, rfl, hq⟩, hf⟩ := hf) | (obtain ⟨_, hf⟩ := hf)))
      exact grows_eqv (by rfl) hC (by go_simp)
    simp only [Act.put, List.setIfInBounds_toArray, List.set_cons_succ, List.set_cons_zero, List.nil_append, List.cons_append]
    refine wpRely_cons (fun w' hC hf => ?_) (fun v11 => ?_)
    · (repeat (first | (obtain ⟨rfl, hf⟩ := hf) | (obtain ⟨⟨q, rfl, hq⟩, hf⟩ := hf) | (obtain ⟨_, hf⟩ := hf)))
      exact grows_eqv (by rfl) hC (by go_simp)
    simp only [Act.put, List.setIfInBounds_toArray, List.set_cons_succ, List.set_cons_zero, List.nil_append, List.cons_append]
    refine wpRely_cons (fun w' hC hf => ?_) (fun v12 => ?_)
    · (repeat (first | (obtain ⟨rfl, hf⟩ := hf) | (obtain ⟨⟨q, rfl, hq⟩, hf⟩ := hf) | (obtain ⟨_, hf⟩ := hf)))
      exact grows_eqv (by rfl) hC (by go_simp)
    simp only [Act.put, List.setIfInBounds_toArray, List.set_cons_succ, List.set_cons_zero, List.nil_append, List.cons_append]
    refine wpRely_cons (fun w' hC hf => ?_) (fun v13 => ?_)
    · (repeat (first | (obtain ⟨rfl, hf⟩ := hf) | (obtain ⟨⟨q, rfl, hq⟩, hf⟩ := hf) | (obtain ⟨_, hf⟩ := hf)))
      exact grows_eqv (by rfl) hC (by go_simp)
    simp only [Act.put, List.setIfInBounds_toArray, List.set_cons_succ, List.set_cons_zero, List.nil_append, List.cons_append]
    refine wpRely_cons (fun w' hC hf => ?_) (fun v14 => ?_)
    · (repeat (first | (obtain ⟨rfl, hf⟩ := hf) | (obtain ⟨⟨q, rfl, hq⟩, hf⟩ := hf) | (obtain ⟨_, hf⟩ := hf)))
      exact grows_eqv (by rfl) hC (by go_simp)
    simp only [Act.put, List.setIfInBounds_toArray, List.set_cons_succ, List.set_cons_zero, List.nil_append, List.cons_append]
    refine wpRely_cons (fun w' hC hf => ?_) (fun v15 => ?_)
    · (repeat (first | (obtain ⟨rfl, hf⟩ := hf) | (obtain ⟨⟨q, rfl, hq⟩, hf⟩ := hf) | (obtain ⟨_, hf⟩ := hf)))
      exact grows_load (by rfl) hC rfl rfl (hC.2) Try.underlying23 rfl (info_key _)
    simp only [Act.put, List.setIfInBounds_toArray, List.set_cons_succ, List.set_cons_zero, List.nil_append, List.cons_append]
    refine wpRely_cons (fun w' hC hf => ?_) (fun v16 => ?_)
    · (repeat (first | (obtain ⟨rfl, hf⟩ := hf) | (obtain ⟨⟨q, rfl, hq⟩, hf⟩ := hf) | (obtain ⟨_, hf⟩ := hf)))
      exact grows_eqv (by rfl) hC (by go_simp)
    simp only [Act.put, List.setIfInBounds_toArray, List.set_cons_succ, List.set_cons_zero, List.nil_append, List.cons_append]
    refine wpRely_cons (fun w' hC hf => ?_) (fun v17 => ?_)
    · (repeat (first | (obtain ⟨rfl, hf⟩ := hf) | (obtain ⟨⟨q, rfl, hq⟩, hf⟩ := hf) | (obtain ⟨_, hf⟩ := hf)))
      exact grows_calls hR (fun _ _ hb h => h.after hb) hC (by rfl) (by go_simp) (CZ.out w')
    simp only [Act.put, List.setIfInBounds_toArray, List.set_cons_succ, List.set_cons_zero, List.nil_append, List.cons_append]
    refine wpRely_cons (fun w' hC hf => ?_) (fun v18 => ?_)
    · (repeat (first | (obtain ⟨rfl, hf⟩ := hf) | (obtain ⟨⟨q, rfl, hq⟩, hf⟩ := hf) | (obtain ⟨_, hf⟩ := hf)))
      exact grows_eqv (by rfl) hC (by go_simp)
    simp only [Act.put, List.setIfInBounds_toArray, List.set_cons_succ, List.set_cons_zero, List.nil_append, List.cons_append]
    refine wpRely_cons (fun w' hC hf => ?_) (fun v19 => ?_)
    · (repeat (first | (obtain ⟨rfl, hf⟩ := hf) | (obtain ⟨⟨q, rfl, hq⟩, hf⟩ := hf) | (obtain ⟨_, hf⟩ := hf)))
      exact grows_eqv (by rfl) hC (by go_simp)
    simp only [Act.put, List.setIfInBounds_toArray, List.set_cons_succ, List.set_cons_zero, List.nil_append, List.cons_append]
    refine wpRely_cons (fun w' hC hf => ?_) (fun v20 => ?_)
    · (repeat (first | (obtain ⟨rfl, hf⟩ := hf) | (obtain ⟨⟨q, rfl, hq⟩, hf⟩ := hf) | (obtain ⟨_, hf⟩ := hf)))
      exact grows_eqv (by rfl) hC (by go_simp)
    simp only [Act.put, List.setIfInBounds_toArray, List.set_cons_succ, List.set_cons_zero, List.nil_append, List.cons_append]
    refine wpRely_cons (fun w' hC hf => ?_) (fun v21 => ?_)
    · (repeat (first | (obtain ⟨rfl, hf⟩ := hf) | (obtain ⟨⟨q, rfl, hq⟩, hf⟩ := hf) | (obtain ⟨_, hf⟩ := hf)))
      exact grows_load (by rfl) hC rfl rfl (hC.2) Try.underlying23 rfl (info_key _)
    simp only [Act.put, List.setIfInBounds_toArray, List.set_cons_succ, List.set_cons_zero, List.nil_append, List.cons_append]
    refine wpRely_cons (fun w' hC hf => ?_) (fun v22 => ?_)
    · (repeat (first | (obtain ⟨rfl, hf⟩ := hf) | (obtain ⟨⟨q, rfl, hq⟩, hf⟩ := hf) | (obtain ⟨_, hf⟩ := hf)))
      exact grows_eqv (by rfl) hC (by go_simp)
    simp only [Act.put, List.setIfInBounds_toArray, List.set_cons_succ, List.set_cons_zero, List.nil_append, List.cons_append]
    refine wpRely_cons (fun w' hC hf => ?_) (fun v23 => ?_)
    · (repeat (first | (obtain ⟨rfl, hf⟩ := hf) | (obtain ⟨⟨q, rfl, hq⟩, hf⟩ := hf) | (obtain ⟨_, hf⟩ := hf)))
      exact grows_make hR (fun _ _ hb h => h.after hb) hC (by rfl) rfl rfl rfl (by decide)
    simp only [Act.put, List.setIfInBounds_toArray, List.set_cons_succ, List.set_cons_zero, List.nil_append, List.cons_append]
    refine wpRely_cons (fun w' hC hf => ?_) (fun v24 => ?_)
    · (repeat (first | (obtain ⟨rfl, hf⟩ := hf) | (obtain ⟨⟨q, rfl, hq⟩, hf⟩ := hf) | (obtain ⟨_, hf⟩ := hf)))
      have cc := CV.out w' q hq
      exact grows_eqv (by rfl) hC (by go_simp)
    simp only [Act.put, List.setIfInBounds_toArray, List.set_cons_succ, List.set_cons_zero, List.nil_append, List.cons_append]
    refine wpRely_cons (fun w' hC hf => ?_) (fun v25 => ?_)
    · (repeat (first | (obtain ⟨rfl, hf⟩ := hf) | (obtain ⟨⟨q, rfl, hq⟩, hf⟩ := hf) | (obtain ⟨_, hf⟩ := hf)))
      exact grows_calls hR (fun _ _ hb h => h.after hb) hC (by rfl) (by go_simp) (CE.out w')
    simp only [Act.put, List.setIfInBounds_toArray, List.set_cons_succ, List.set_cons_zero, List.nil_append, List.cons_append]
    refine wpRely_cons (fun w' hC hf => ?_) (fun v26 => ?_)
    · (repeat (first | (obtain ⟨rfl, hf⟩ := hf) | (obtain ⟨⟨q, rfl, hq⟩, hf⟩ := hf) | (obtain ⟨_, hf⟩ := hf)))
      exact grows_eqv (by rfl) hC (by go_simp)
    simp only [Act.put, List.setIfInBounds_toArray, List.set_cons_succ, List.set_cons_zero, List.nil_append, List.cons_append]
    refine wpRely_cons (fun w' hC hf => ?_) (fun v27 => ?_)
    · (repeat (first | (obtain ⟨rfl, hf⟩ := hf) | (obtain ⟨⟨q, rfl, hq⟩, hf⟩ := hf) | (obtain ⟨_, hf⟩ := hf)))
      exact grows_eqv (by rfl) hC (by go_simp)
    simp only [Act.put, List.setIfInBounds_toArray, List.set_cons_succ, List.set_cons_zero, List.nil_append, List.cons_append]
    refine wpRely_cons (fun w' hC hf => ?_) (fun v28 => ?_)
    · (repeat (first | (obtain ⟨rfl, hf⟩ := hf) | (obtain ⟨⟨q, rfl, hq⟩, hf⟩ := hf) | (obtain ⟨_, hf⟩ := hf)))
      exact grows_eqv (by rfl) hC (by go_simp)
    simp only [Act.put, List.setIfInBounds_toArray, List.set_cons_succ, List.set_cons_zero, List.nil_append, List.cons_append]
    refine wpRely_cons (fun w' hC hf => ?_) (fun v29 => ?_)
    · (repeat (first | (obtain ⟨rfl, hf⟩ := hf) | (obtain ⟨⟨q, rfl, hq⟩, hf⟩ := hf) | (obtain ⟨_, hf⟩ := hf)))
      exact grows_calls hR (fun _ _ hb h => h.after hb) hC (by rfl) (by go_simp) (shown_any w')
    simp only [Act.put, List.setIfInBounds_toArray, List.set_cons_succ, List.set_cons_zero, List.nil_append, List.cons_append]
    refine wpRely_cons (fun w' hC hf => ?_) (fun v30 => ?_)
    · (repeat (first | (obtain ⟨rfl, hf⟩ := hf) | (obtain ⟨⟨q, rfl, hq⟩, hf⟩ := hf) | (obtain ⟨_, hf⟩ := hf)))
      exact grows_eqv (by rfl) hC (by go_simp)
    simp only [Act.put, List.setIfInBounds_toArray, List.set_cons_succ, List.set_cons_zero, List.nil_append, List.cons_append]
    refine wpRely_cons (fun w' hC hf => ?_) (fun v31 => ?_)
    · (repeat (first | (obtain ⟨rfl, hf⟩ := hf) | (obtain ⟨⟨q, rfl, hq⟩, hf⟩ := hf) | (obtain ⟨_, hf⟩ := hf)))
      exact grows_eqv (by rfl) hC (by go_simp)
    simp only [Act.put, List.setIfInBounds_toArray, List.set_cons_succ, List.set_cons_zero, List.nil_append, List.cons_append]
    refine wpRely_nil fun w9 hC hf => ?_
    (repeat (first | (obtain ⟨rfl, hf⟩ := hf) | (obtain ⟨⟨q, rfl, hq⟩, hf⟩ := hf) | (obtain ⟨_, hf⟩ := hf)))
    go_wp2
    go_ret
    exact ⟨rfl, hC.1⟩
  · have CA := Lib.hid (at_no key nonce at_ (bs (listB n zeroN)) (by rw [bs_listB_size]; omega) (by rw [bs_listB_size]; omega))
    rw [show bs [] = ⟨#[]⟩ from rfl] at CA
    generalize bs (listB 4096 (streamN key nonce)) = L at *
    generalize bs (listB n zeroN) = s at *
    go_enter Try.func6, Try.ntmps6
    go_wp2_with (refine wpList_load_row rfl 23 _ rfl w.heap.size rfl 23 _ (0, 0) _ r0.out Try.underlying23 rfl (info_key _) ?_)
    clear MK cv
    generalize (w.alloc _).alloc _ = w2 at *
    refine (CA.out w2).mono ?_
    rintro e w3 ⟨rfl, hb1⟩
    replace r0 := Lib.hid (r0.out.below hb1 r0.out.lt)
    replace b0 := b0.trans (hb1.mono b0.size)
    clear hb1
    clear CA
    go_wp2_with (refine wpList_load_row rfl 23 _ rfl w.heap.size rfl 23 _ (0, 0) _ r0.out Try.underlying23 rfl (info_key _) ?_)
    refine (CL.out w3).mono ?_
    rintro e w4 ⟨rfl, hb1⟩
    replace r0 := Lib.hid (r0.out.below hb1 r0.out.lt)
    replace b0 := b0.trans (hb1.mono b0.size)
    clear hb1
    clear CL
    by_cases t1 : at_ < 0
    · clear hin
      go_wp2_with fail
      refine (shown_any w4).mono ?_
      rintro e w5 ⟨rfl, hb5⟩
      have b5 := b0.trans (hb5.mono b0.size)
      clear hb5
      go_wp2
      go_ret
      exact ⟨rfl, b5⟩
    · by_cases t2 : 4096 < at_
      · clear hin
        go_wp2_with fail
        refine (shown_any w4).mono ?_
        rintro e w5 ⟨rfl, hb5⟩
        have b5 := b0.trans (hb5.mono b0.size)
        clear hb5
        go_wp2
        go_ret
        exact ⟨rfl, b5⟩
      · have t3 : (4096 : Int) < at_ + (n : Int) := by omega
        clear hin
        go_wp2_with fail
        refine (shown_any w4).mono ?_
        rintro e w5 ⟨rfl, hb5⟩
        have b5 := b0.trans (hb5.mono b0.size)
        clear hb5
        go_wp2
        go_ret
        exact ⟨rfl, b5⟩

end Go.Proofs.Ytmbkjbkbnigcfaa
