/-
  Walk: CtrBlocks.
-/
import Derived.Test.YtmbkjbkbnigcfaaCtrLaw
namespace Go.Proofs.Ytmbkjbkbnigcfaa
open Go.RowKit

theorem wrap6 (n : Int) (h1 : 0 ≤ n) (h2 : n ≤ 100000) : IntKind.i64.wrap n = n := by
  rw [IntKind.wrap_i64]
  omega

theorem cnt_last (nonce i : Nat) (hi : i < 256) : (rowOf 16 (w8 (part (cntN nonce i) zeroN 8))).setIfInBounds 8 (.int .u8 (i : Int)) = rowOf 16 (w8 (cntN nonce i)) := by
  rw [rowOf_upd8]
  refine rowOf_congr fun j hj => ?_
  unfold w8
  congr 2
  unfold upd part
  by_cases h8 : j = 8
  · rw [if_pos h8]
    subst h8
    unfold cntN
    simp
    omega
  · rw [if_neg h8]
    by_cases hl : j < 8
    · rw [if_pos hl]
    · rw [if_neg hl]
      unfold cntN zeroN
      rw [if_neg hl]
      have h1 : 256 ^ 1 ≤ 256 ^ (j - 8) := Nat.pow_le_pow_right (by decide) (by omega)
      rw [Nat.div_eq_of_lt (by omega)]

set_option maxHeartbeats 4000000 in
set_option maxRecDepth 8000 in
theorem walk_CtrBlocks (key : Nat → Nat) (hk0 : Bytes key) (nonce : Int) (wn : (Lit.int .u64 nonce).wf = true) (i : Int) (wi : (Lit.int .u8 i).wf = true) (w : World) :
    Calls Try.prog 7 #[.agg (rowOf 16 (w8 key)), .int .u64 nonce, .int .u8 i] w fun e w' => e = .returned (.bool true) ∧ Below w.heap.size w w' := by
  have hii := wf_u8 wi
  obtain ⟨i, rfl⟩ := Int.eq_ofNat_of_zero_le hii.1
  clear wi
  have hk : Hid (Byt key) := hk0
  have hn0 := wf5_u64 wn
  obtain ⟨nonce, rfl⟩ := Int.eq_ofNat_of_zero_le hn0.1
  have hn : Hid (nonce < 18446744073709551616) := by have := hn0.2; unfold Hid; omega
  clear hk0 wn hn0
  have r0 := Lib.hid (RowAt.new w 23 (rowOf 16 (w8 key)))
  have b0 : Below w.heap.size w (w.alloc (.cells (rowOf 16 (w8 key)) 23)) := (Below.refl _ _).alloc (Nat.le_refl _) _
  go_enter Try.func7, Try.ntmps7
  go_wp2_with fail
  generalize w.alloc _ = w1 at *
  refine (shown_any w1).mono ?_
  rintro e w2 ⟨rfl, hb1⟩
  replace r0 := Lib.hid (r0.out.below hb1 r0.out.lt)
  replace b0 := b0.trans (hb1.mono b0.size)
  clear hb1
  have r1 := Lib.hid (RowAt.new w2 23 (rowOf 16 (w8 zeroN)))
  have r3 : Hid (RowAt (w2.alloc (.cells (rowOf 16 (w8 zeroN)) 23)) w.heap.size 23 (rowOf 16 (w8 key))) := r0.out.alloc _
  have b3 : Below w.heap.size w (w2.alloc (.cells (rowOf 16 (w8 zeroN)) 23)) := b0.alloc b0.size _
  have hlt := r0.out.lt
  rw [z8_16] at r1
  go_wp2_with (first | (refine wpList_buildTo rfl 23 _ rfl _ rfl (rowOf 16 (w8 zeroN)) (by kernel_rfl) ?_) | (refine wpList_store_row rfl 23 _ _ rfl w2.heap.size (rowOf 16 (w8 zeroN)) rfl rfl 23 _ r1.out (info_key _) (by rw [rowOf_size]; rfl) (rowOf_cells8 _ _) ?_; rw [World.setRow_alloc_new]))
  replace r1 := Lib.hid (RowAt.new w2 23 (rowOf 16 (w8 zeroN)))
  clear r0 b0
  generalize World.alloc w2 _ = w3 at *
  generalize hq : w2.heap.size = q at *
  clear hq
  go_loopw [8] (fun c wr => ∃ j : Nat, j ≤ 8 ∧ c = .int .i64 j ∧ Hid (RowAt wr q 23 (rowOf 16 (w8 (part (cntN nonce i) zeroN j)))) ∧ Hid (RowAt wr w.heap.size 23 (rowOf 16 (w8 key))) ∧ Below w.heap.size w wr)
    (fun c _ => 8 - (intOf c).toNat)
  case atStart => exact ⟨0, by omega, rfl, by rw [part_zero]; exact r1, r3, b3⟩
  case round =>
    clear r1 r3 b3
    obtain ⟨j, hj, rfl, h1, h0, hbl⟩ := hrel
    by_cases hlt8 : j < 8
    · have c1 := h1.out.cell j (by omega)
      have f1 := h1.out.free j
      have e3 := Lib.hid (u8_row 16 (cntN nonce i) zeroN j)
      have EV : Hid ((nonce : Int) / 2 ^ (8 * j) % 256 = ((cntN nonce i j : Nat) : Int)) := by
        unfold Hid cntN
        rw [if_pos hlt8, pow2_8]
        omega
      go_wp2
      go_roundw
      case rel =>
        refine ⟨j + 1, by omega, by go_num, ?_, h0.out.setOther _ _ (by simp; omega), hbl.setCell (by simp; omega) _⟩
        rw [EV.out]
        exact (h1.out.set j _).congr e3.out
      case measure => simp [intOf]; omega
    · have : j = 8 := by omega
      subst this
      obtain ⟨t, ht⟩ : ∃ t, t = 16 * i := ⟨_, rfl⟩
      obtain ⟨L, hL⟩ : ∃ L, L = t + 16 := ⟨_, rfl⟩
      have eT : (16 : Int) * (i : Int) = (t : Int) := by omega
      have eL : (t : Int) + 16 = (L : Int) := by omega
      have wI : Hid (IntKind.i64.wrap (i : Int) = (i : Int)) := wrap6 _ (by omega) (by omega)
      have wT : Hid (IntKind.i64.wrap (t : Int) = (t : Int)) := wrap6 _ (by omega) (by omega)
      have wL : Hid (IntKind.i64.wrap (L : Int) = (L : Int)) := wrap6 _ (by omega) (by omega)
      have hL4 : L ≤ 4096 := by omega
      have htL : t ≤ L := by omega
      have htL' : (t : Int) ≤ (L : Int) := by omega
      have ht0 : (0 : Int) ≤ (t : Int) := by omega
      have CS := Lib.hid (ctrStream_nat key hk nonce hn L hL4)
      have ES : Hid ((bs (listB L (streamN key nonce))).extract t L = bs (listB 16 (lockN key (cntN nonce i)))) := by
        unfold Hid
        rw [bs_drop _ _ _ htL, show L - t = 16 by omega]
        have e : listB 16 (fun j => streamN key nonce (t + j)) = listB 16 (lockN key (cntN nonce i)) := listB_congr fun j hj => by
          unfold streamN
          rw [show (t + j) / 16 = i by omega, show (t + j) % 16 = j by omega]
        rw [e]
      have hS : (bs (listB L (streamN key nonce))).size = L := bs_listB_size _ _
      have hLk := Lib.hid (lock_byt hk.out (cnt_byt nonce i))
      generalize bs (listB L (streamN key nonce)) = S at *
      have c8 := h1.out.cell 8 (by omega)
      have f8 := h1.out.free 8
      have r5 : Hid (RowAt (wr.setCell ⟨q, 8, none⟩ (.int .u8 (i : Int))) q 23 (rowOf 16 (w8 (cntN nonce i)))) := (h1.out.set 8 _).congr (cnt_last nonce i (by omega))
      have r0 : Hid (RowAt (wr.setCell ⟨q, 8, none⟩ (.int .u8 (i : Int))) w.heap.size 23 (rowOf 16 (w8 key))) := h0.out.setOther _ _ (by simp; omega)
      have b0 : Below w.heap.size w (wr.setCell ⟨q, 8, none⟩ (.int .u8 (i : Int))) := hbl.setCell (by simp; omega) _
      clear h1 h0 hbl ht hL
      go_wp2_with (refine wpList_load_row rfl 23 _ rfl w.heap.size rfl 23 _ (0, 0) _ r0.out Try.underlying23 rfl (info_key _) ?_)
      clear c8 f8
      try rw [eT]
      try rw [eL]
      generalize World.setCell _ _ _ = w5 at *
      refine (CS.out w5).mono ?_
      rintro e w6 ⟨rfl, hb1⟩
      replace r5 := Lib.hid (r5.out.below hb1 r5.out.lt)
      replace r0 := Lib.hid (r0.out.below hb1 r0.out.lt)
      replace b0 := b0.trans (hb1.mono b0.size)
      clear hb1 CS
      go_wp2_with (first | (refine wpList_load_row rfl 23 _ rfl w.heap.size rfl 23 _ (0, 0) _ r0.out Try.underlying23 rfl (info_key _) ?_) | (refine wpList_load_row rfl 23 _ rfl q rfl 23 _ (0, 0) _ r5.out Try.underlying23 rfl (info_key _) ?_))
      refine (refLock_any key (cntN nonce i) hk (cnt_byt nonce i) w6).mono ?_
      rintro e w7 ⟨rfl, hb1⟩
      replace b0 := b0.trans (hb1.mono b0.size)
      clear hb1 r5 r0
      have r7 := Lib.hid (RowAt.new w7 23 (rowOf 16 (w8 zeroN)))
      have r8 := Lib.hid (RowAt.new w7 23 (rowOf 16 (w8 (lockN key (cntN nonce i)))))
      have b8 : Below w.heap.size w (w7.alloc (.cells (rowOf 16 (w8 (lockN key (cntN nonce i)))) 23)) := b0.alloc b0.size _
      rw [z8_16] at r7
      have CV : Hid (∀ w' , RowAt w' w7.heap.size 23 (rowOf 16 (w8 (lockN key (cntN nonce i)))) → (convert 34 9 (.slice (some ⟨w7.heap.size, 0, none⟩) 16 16)).run Try.prog w' = .ok (.string (bs (listB 16 (lockN key (cntN nonce i))))) w') :=
        fun w' hr => block_string hLk.out Try.underlying34 Try.underlying5 Try.underlying9 hr
      have SL : Hid (∀ w', (Instr.sliceAt 23 (.pointer (some ⟨w7.heap.size, 0, none⟩)) none none none).run Try.prog w' = .ok (.slice (some ⟨w7.heap.size, 0, none⟩) 16 16) w') := fun w' => run_slice_all Try.underlying23 sz8 w7.heap.size w'
      generalize bs (listB 16 (lockN key (cntN nonce i))) = XB at *
      go_wp2_with (refine wpList_store_row rfl 23 _ _ rfl w7.heap.size (rowOf 16 (w8 (lockN key (cntN nonce i)))) rfl rfl 23 _ r7.out (info_key _) (by rw [rowOf_size]; rfl) (rowOf_cells8 _ _) ?_; rw [World.setRow_alloc_new])
      clear r7 b0
      generalize World.alloc w7 _ = w8' at *
      generalize w7.heap.size = x at *
      have HC : RowC w x 23 (rowOf 16 (w8 (lockN key (cntN nonce i)))) w8'.drew := ⟨b8.drew, r8.out.drew⟩
      refine wp_region_steady (RowC w x 23 (rowOf 16 (w8 (lockN key (cntN nonce i))))) [eqv (.string S), eqv (.int .i64 (L : Int)), eqv (.int .u8 (i : Int)), eqv (.int .i64 (i : Int)), eqv (.int .i64 (t : Int)), eqv (.int .i64 (L : Int)), eqv (.bool true), eqv (.bool true), eqv (.string S), eqv (.int .u8 (i : Int)), eqv (.int .i64 (i : Int)), eqv (.int .i64 (t : Int)), eqv (.string XB), eqv (.slice (some ⟨x, 0, none⟩) 16 16), eqv (.string XB), eqv (.bool true), eqv (.bool true), eqv (.bool true)] (by kernel_rfl) (by kernel_rfl) HC
        (.cons (steady_eqv _) (.cons (steady_eqv _) (.cons (steady_eqv _) (.cons (steady_eqv _) (.cons (steady_eqv _) (.cons (steady_eqv _) (.cons (steady_eqv _) (.cons (steady_eqv _) (.cons (steady_eqv _) (.cons (steady_eqv _) (.cons (steady_eqv _) (.cons (steady_eqv _) (.cons (steady_eqv _) (.cons (steady_eqv _) (.cons (steady_eqv _) (.cons (steady_eqv _) (.cons (steady_eqv _) (.cons (steady_eqv _) .nil)))))))))))))))))) ?_
      intro R hR
      refine wpRely_cons (fun w' hC hf => ?_) (fun v0 => ?_)
      · (repeat (first | (obtain ⟨rfl, hf⟩ := hf) | (obtain ⟨⟨q, rfl, hq⟩, hf⟩ := hf) | (obtain ⟨_, hf⟩ := hf)))
        exact grows_eqv (by rfl) hC (by go_simp)
      simp only [Act.put, List.setIfInBounds_toArray, List.set_cons_succ, List.set_cons_zero, List.nil_append]
      refine wpRely_cons (fun w' hC hf => ?_) (fun v1 => ?_)
      · (repeat (first | (obtain ⟨rfl, hf⟩ := hf) | (obtain ⟨⟨q, rfl, hq⟩, hf⟩ := hf) | (obtain ⟨_, hf⟩ := hf)))
        exact grows_eqv (by rfl) hC (by go_simp)
      simp only [Act.put, List.setIfInBounds_toArray, List.set_cons_succ, List.set_cons_zero, List.nil_append, List.cons_append]
      refine wpRely_cons (fun w' hC hf => ?_) (fun v2 => ?_)
      · (repeat (first | (obtain ⟨rfl, hf⟩ := hf) | (obtain ⟨⟨q, rfl, hq⟩, hf⟩ := hf) | (obtain ⟨_, hf⟩ := hf)))
        exact grows_eqv (by rfl) hC (by go_simp)
      simp only [Act.put, List.setIfInBounds_toArray, List.set_cons_succ, List.set_cons_zero, List.nil_append, List.cons_append]
      refine wpRely_cons (fun w' hC hf => ?_) (fun v3 => ?_)
      · (repeat (first | (obtain ⟨rfl, hf⟩ := hf) | (obtain ⟨⟨q, rfl, hq⟩, hf⟩ := hf) | (obtain ⟨_, hf⟩ := hf)))
        exact grows_eqv (by rfl) hC (by go_simp; exact wI.out)
      simp only [Act.put, List.setIfInBounds_toArray, List.set_cons_succ, List.set_cons_zero, List.nil_append, List.cons_append]
      refine wpRely_cons (fun w' hC hf => ?_) (fun v4 => ?_)
      · (repeat (first | (obtain ⟨rfl, hf⟩ := hf) | (obtain ⟨⟨q, rfl, hq⟩, hf⟩ := hf) | (obtain ⟨_, hf⟩ := hf)))
        exact grows_eqv (by rfl) hC (by go_simp; exact wT.out)
      simp only [Act.put, List.setIfInBounds_toArray, List.set_cons_succ, List.set_cons_zero, List.nil_append, List.cons_append]
      refine wpRely_cons (fun w' hC hf => ?_) (fun v5 => ?_)
      · (repeat (first | (obtain ⟨rfl, hf⟩ := hf) | (obtain ⟨⟨q, rfl, hq⟩, hf⟩ := hf) | (obtain ⟨_, hf⟩ := hf)))
        exact grows_eqv (by rfl) hC (by go_simp; exact wL.out)
      simp only [Act.put, List.setIfInBounds_toArray, List.set_cons_succ, List.set_cons_zero, List.nil_append, List.cons_append]
      refine wpRely_cons (fun w' hC hf => ?_) (fun v6 => ?_)
      · (repeat (first | (obtain ⟨rfl, hf⟩ := hf) | (obtain ⟨⟨q, rfl, hq⟩, hf⟩ := hf) | (obtain ⟨_, hf⟩ := hf)))
        exact grows_eqv (by rfl) hC (by go_simp)
      simp only [Act.put, List.setIfInBounds_toArray, List.set_cons_succ, List.set_cons_zero, List.nil_append, List.cons_append]
      refine wpRely_cons (fun w' hC hf => ?_) (fun v7 => ?_)
      · (repeat (first | (obtain ⟨rfl, hf⟩ := hf) | (obtain ⟨⟨q, rfl, hq⟩, hf⟩ := hf) | (obtain ⟨_, hf⟩ := hf)))
        exact grows_eqv (by rfl) hC (by go_simp)
      simp only [Act.put, List.setIfInBounds_toArray, List.set_cons_succ, List.set_cons_zero, List.nil_append, List.cons_append]
      refine wpRely_cons (fun w' hC hf => ?_) (fun v8 => ?_)
      · (repeat (first | (obtain ⟨rfl, hf⟩ := hf) | (obtain ⟨⟨q, rfl, hq⟩, hf⟩ := hf) | (obtain ⟨_, hf⟩ := hf)))
        exact grows_eqv (by rfl) hC (by go_simp)
      simp only [Act.put, List.setIfInBounds_toArray, List.set_cons_succ, List.set_cons_zero, List.nil_append, List.cons_append]
      refine wpRely_cons (fun w' hC hf => ?_) (fun v9 => ?_)
      · (repeat (first | (obtain ⟨rfl, hf⟩ := hf) | (obtain ⟨⟨q, rfl, hq⟩, hf⟩ := hf) | (obtain ⟨_, hf⟩ := hf)))
        exact grows_eqv (by rfl) hC (by go_simp)
      simp only [Act.put, List.setIfInBounds_toArray, List.set_cons_succ, List.set_cons_zero, List.nil_append, List.cons_append]
      refine wpRely_cons (fun w' hC hf => ?_) (fun v10 => ?_)
      · (repeat (first | (obtain ⟨rfl, hf⟩ := hf) | (obtain ⟨⟨q, rfl, hq⟩, hf⟩ := hf) | (obtain ⟨_, hf⟩ := hf)))
        exact grows_eqv (by rfl) hC (by go_simp; exact wI.out)
      simp only [Act.put, List.setIfInBounds_toArray, List.set_cons_succ, List.set_cons_zero, List.nil_append, List.cons_append]
      refine wpRely_cons (fun w' hC hf => ?_) (fun v11 => ?_)
      · (repeat (first | (obtain ⟨rfl, hf⟩ := hf) | (obtain ⟨⟨q, rfl, hq⟩, hf⟩ := hf) | (obtain ⟨_, hf⟩ := hf)))
        exact grows_eqv (by rfl) hC (by go_simp; exact wT.out)
      simp only [Act.put, List.setIfInBounds_toArray, List.set_cons_succ, List.set_cons_zero, List.nil_append, List.cons_append]
      refine wpRely_cons (fun w' hC hf => ?_) (fun v12 => ?_)
      · (repeat (first | (obtain ⟨rfl, hf⟩ := hf) | (obtain ⟨⟨q, rfl, hq⟩, hf⟩ := hf) | (obtain ⟨_, hf⟩ := hf)))
        exact grows_eqv (by rfl) hC (by rw [← ES.out]; go_simp)
      simp only [Act.put, List.setIfInBounds_toArray, List.set_cons_succ, List.set_cons_zero, List.nil_append, List.cons_append]
      refine wpRely_cons (fun w' hC hf => ?_) (fun v13 => ?_)
      · (repeat (first | (obtain ⟨rfl, hf⟩ := hf) | (obtain ⟨⟨q, rfl, hq⟩, hf⟩ := hf) | (obtain ⟨_, hf⟩ := hf)))
        have sl := SL.out w'
        exact grows_eqv (by rfl) hC (by go_simp)
      simp only [Act.put, List.setIfInBounds_toArray, List.set_cons_succ, List.set_cons_zero, List.nil_append, List.cons_append]
      refine wpRely_cons (fun w' hC hf => ?_) (fun v14 => ?_)
      · (repeat (first | (obtain ⟨rfl, hf⟩ := hf) | (obtain ⟨⟨q, rfl, hq⟩, hf⟩ := hf) | (obtain ⟨_, hf⟩ := hf)))
        have cc := CV.out w' hC.2
        exact grows_eqv (by rfl) hC (by go_simp)
      simp only [Act.put, List.setIfInBounds_toArray, List.set_cons_succ, List.set_cons_zero, List.nil_append, List.cons_append]
      refine wpRely_cons (fun w' hC hf => ?_) (fun v15 => ?_)
      · (repeat (first | (obtain ⟨rfl, hf⟩ := hf) | (obtain ⟨⟨q, rfl, hq⟩, hf⟩ := hf) | (obtain ⟨_, hf⟩ := hf)))
        exact grows_eqv (by rfl) hC (by go_simp)
      simp only [Act.put, List.setIfInBounds_toArray, List.set_cons_succ, List.set_cons_zero, List.nil_append, List.cons_append]
      refine wpRely_cons (fun w' hC hf => ?_) (fun v16 => ?_)
      · (repeat (first | (obtain ⟨rfl, hf⟩ := hf) | (obtain ⟨⟨q, rfl, hq⟩, hf⟩ := hf) | (obtain ⟨_, hf⟩ := hf)))
        exact grows_eqv (by rfl) hC (by go_simp)
      simp only [Act.put, List.setIfInBounds_toArray, List.set_cons_succ, List.set_cons_zero, List.nil_append, List.cons_append]
      refine wpRely_cons (fun w' hC hf => ?_) (fun v17 => ?_)
      · (repeat (first | (obtain ⟨rfl, hf⟩ := hf) | (obtain ⟨⟨q, rfl, hq⟩, hf⟩ := hf) | (obtain ⟨_, hf⟩ := hf)))
        exact grows_eqv (by rfl) hC (by go_simp)
      simp only [Act.put, List.setIfInBounds_toArray, List.set_cons_succ, List.set_cons_zero, List.nil_append, List.cons_append]
      refine wpRely_nil fun w9 hC hf => ?_
      (repeat (first | (obtain ⟨rfl, hf⟩ := hf) | (obtain ⟨⟨q, rfl, hq⟩, hf⟩ := hf) | (obtain ⟨_, hf⟩ := hf)))
      go_wp2
      go_ret
      exact ⟨rfl, hC.1⟩

end Go.Proofs.Ytmbkjbkbnigcfaa
