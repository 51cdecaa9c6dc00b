/-
  Walk: AesRounds.
-/
import Derived.Test.YtelalcgmecianaaAesShown
import Derived.Test.YtelalcgmecianaaAesRound
import Derived.Test.YtelalcgmecianaaAesRefLock
import Derived.Test.YtelalcgmecianaaRelyFlat
import Derived.Test.YtelalcgmecianaaOpen
namespace Go.Proofs.Ytelalcgmecianaa
open Go.RowKit

/-- A key and a new cipher of it. -/
structure KcC (w : World) (B c : Nat) (key : Nat → Nat) (w' : World) : Prop where
  rk : RowAt w' w.heap.size 23 (rowOf 16 (w8 key))
  fc : Fresh w' c key
  rest : Below w.heap.size w w'
  hB : B ≤ w'.heap.size

theorem KcC.after {w w1 w2 : World} {B c : Nat} {key : Nat → Nat} (hb : Below w1.heap.size w1 w2) (h : KcC w B c key w1) : KcC w B c key w2 :=
  ⟨h.rk.below hb h.rk.lt, h.fc.below hb h.fc.lt, h.rest.trans (hb.mono h.rest.size), Nat.le_trans h.hB hb.size⟩

/-- A cipher, and the document's round keys at l. -/
structure RdC (w : World) (c l : Nat) (key : Nat → Nat) (w' : World) : Prop where
  cc : Cip w' c key
  ls : RowAt w' l 30 (rowOf 176 (w8 (ringN key)))
  rest : Below w.heap.size w w'
  hc : w.heap.size ≤ c
  hcl : l ≠ c

theorem RdC.after {w w1 w2 : World} {c l : Nat} {key : Nat → Nat} (hb : Below w1.heap.size w1 w2) (h : RdC w c l key w1) : RdC w c l key w2 :=
  ⟨h.cc.below hb h.cc.lt, h.ls.below hb h.ls.lt, h.rest.trans (hb.mono h.rest.size), h.hc, h.hcl⟩
theorem RdC.turn {w w1 w2 : World} {c l : Nat} {key : Nat → Nat} (h : RdC w c l key w1) (ha : Apart c w1 w2) (hm : Made w2 c key) : RdC w c l key w2 :=
  ⟨.inr hm, ha.row h.ls h.hcl, h.rest.trans (ha.under h.hc h.rest.size), h.hc, h.hcl⟩

/-- Beside them a block at x. -/
structure RxC (w : World) (c l x : Nat) (key s : Nat → Nat) (w' : World) : Prop where
  rd : RdC w c l key w'
  rx : RowAt w' x 23 (rowOf 16 (w8 s))

theorem RxC.after {w w1 w2 : World} {c l x : Nat} {key s : Nat → Nat} (hb : Below w1.heap.size w1 w2) (h : RxC w c l x key s w1) : RxC w c l x key s w2 := ⟨h.rd.after hb, h.rx.below hb h.rx.lt⟩
theorem RxC.start {w w1 : World} {c l : Nat} {key : Nat → Nat} (h : RdC w c l key w1) (s : Nat → Nat) : RxC w c l w1.heap.size key s ((w1.alloc (.cells (rowOf 16 (w8 zeroN)) 23)).setRow w1.heap.size (rowOf 16 (w8 s))) :=
  ⟨h.after (below_setRow' ((Below.refl _ _).alloc (Nat.le_refl _) _) (Nat.le_refl _) _), (RowAt.new w1 23 (rowOf 16 (w8 zeroN))).setRow _⟩

theorem wf_i64 {n : Int} (h : (Lit.int .i64 n).wf = true) : -9223372036854775808 ≤ n ∧ n < 9223372036854775808 := by
  simp [Lit.wf, IntKind.min, IntKind.max, IntKind.signed, IntKind.bits] at h
  omega

set_option maxHeartbeats 4000000 in
set_option maxRecDepth 8000 in
theorem walk_AesRounds (key : Nat → Nat) (hk0 : Bytes key) (n : Int) (wn : (Lit.int .i64 n).wf = true) (w : World) :
    Calls Try.prog 4 #[.agg (rowOf 16 (w8 key)), .int .i64 n] w fun e w' => e = .returned (.bool true) ∧ Below w.heap.size w w' := by
  have hk : Hid (Byt key) := hk0
  have hn := wf_i64 wn
  clear hk0 wn
  have r0 := Lib.hid (RowAt.new w 23 (rowOf 16 (w8 key)))
  have b0 : Below w.heap.size w (w.alloc (.cells (rowOf 16 (w8 key)) 23)) := (Below.refl _ _).alloc (Nat.le_refl _) _
  have zv := (zero_of_info zero16).1
  have zv2 := (zero_of_info zero176).1
  go_enter Try.func4, Try.ntmps4
  go_wp2_with (refine wpList_load_row rfl 23 _ rfl w.heap.size rfl 23 _ (0, 0) _ r0.out Try.underlying23 rfl (info_key _) ?_)
  generalize (w.alloc (.cells (rowOf 16 (w8 key)) 23)) = w1 at *
  refine (new_any key w1).mono ?_
  rintro e w2 ⟨c, rfl, hc, hfc, hb2⟩
  have l0 := r0.out.lt
  replace hfc := Lib.hid hfc
  replace r0 := Lib.hid (r0.out.below hb2 r0.out.lt)
  replace b0 := b0.trans (hb2.mono b0.size)
  clear hb2
  go_wp2_with fail
  refine (shown_any w2).mono ?_
  rintro e w3 ⟨rfl, hb3⟩
  replace hfc := Lib.hid (hfc.out.below hb3 hfc.out.lt)
  replace r0 := Lib.hid (r0.out.below hb3 r0.out.lt)
  replace b0 := b0.trans (hb3.mono b0.size)
  clear hb3
  have l3 := hfc.out.lt
  have HC : KcC w w3.heap.size c key w3.drew := KcC.after (Below.refl _ _).drew ⟨r0.out, hfc.out, b0, Nat.le_refl _⟩
  clear r0 hfc b0
  generalize w3.heap.size = B at *
  go_wp2
  refine wp_region_rely_tail 4 (KcC w B c key) [eqv (.agg (rowOf 256 (w8 boxN))), eqv (.agg (rowOf 16 (w8 key))), eqv (.agg (rowOf 176 (w8 (ringN key)))), freshv B 30 (rowOf 176 (w8 zeroN))] (by kernel_rfl) (by kernel_rfl) HC
    (.cons (steady_eqv _) (.cons (steady_eqv _) (.cons (steady_eqv _) (.cons (steady_freshv _ _ _) .nil)))) ?_
  intro R hR
  simp only [List.take_succ_cons, List.take_zero, List.drop_succ_cons, List.drop_zero]
  refine wpRely_cons (fun w' hC hf => ?_) (fun v0 => ?_)
  · (repeat (first | (obtain ⟨rfl, hf⟩ := hf) | (obtain ⟨⟨q, rfl, hq⟩, hf⟩ := hf) | (obtain ⟨_, hf⟩ := hf)))
    exact grows_calls hR (fun _ _ hb h => h.after hb) hC (by rfl) (by go_simp) (refBoxes_any w')
  simp only [Act.put, List.setIfInBounds_toArray, List.set_cons_succ, List.set_cons_zero, List.nil_append]
  refine wpRely_cons (fun w' hC hf => ?_) (fun v1 => ?_)
  · (repeat (first | (obtain ⟨rfl, hf⟩ := hf) | (obtain ⟨⟨q, rfl, hq⟩, hf⟩ := hf) | (obtain ⟨_, hf⟩ := hf)))
    exact grows_load (by rfl) hC rfl rfl (hC.rk) Try.underlying23 rfl (info_key _)
  simp only [Act.put, List.setIfInBounds_toArray, List.set_cons_succ, List.set_cons_zero, List.nil_append, List.cons_append]
  refine wpRely_cons (fun w' hC hf => ?_) (fun v2 => ?_)
  · (repeat (first | (obtain ⟨rfl, hf⟩ := hf) | (obtain ⟨⟨q, rfl, hq⟩, hf⟩ := hf) | (obtain ⟨_, hf⟩ := hf)))
    exact grows_calls hR (fun _ _ hb h => h.after hb) hC (by rfl) (by go_simp) (refRounds_any key hk w')
  simp only [Act.put, List.setIfInBounds_toArray, List.set_cons_succ, List.set_cons_zero, List.nil_append, List.cons_append]
  refine wpRely_cons (fun w' hC hf => ?_) (fun v3 => ?_)
  · (repeat (first | (obtain ⟨rfl, hf⟩ := hf) | (obtain ⟨⟨q, rfl, hq⟩, hf⟩ := hf) | (obtain ⟨_, hf⟩ := hf)))
    exact grows_fresh hR (fun _ _ hb h => h.after hb) hC (by rfl) (by go_simp) hC.hB
  simp only [Act.put, List.setIfInBounds_toArray, List.set_cons_succ, List.set_cons_zero, List.nil_append, List.cons_append]
  refine wpRely_nil fun w9 hC hf => ?_
  obtain ⟨_, _, rfl, ⟨l, rfl, hq, hr⟩, _⟩ := hf
  have HI : Hid (RdC w c l key (w9.setRow l (rowOf 176 (w8 (ringN key))))) :=
    ⟨.inl (by obtain ⟨x0, hx1, hx2⟩ := hC.fc; exact ⟨x0, hx1.setRowOther l _ (by omega), hx2⟩), hr.setRow _, below_setRow' hC.rest (by have := hC.rk.lt; have := hC.fc.lt; omega) _, by omega, by omega⟩
  clear hC HC
  refine wpList_store_row rfl 30 _ _ rfl l (rowOf 176 (w8 (ringN key))) rfl rfl 30 _ hr (info_176 _) (by rw [rowOf_size, rowOf_size]) (rowOf_cells8 _ _) ?_
  clear hr zv2
  generalize World.setRow _ _ _ = w5 at *
  go_wp2
  go_loopw [7] (fun y wr => ∃ i : Nat, i ≤ 11 ∧ y = .int .i64 i ∧ Hid (RdC w c l key wr))
    (fun y _ => 11 - (intOf y).toNat)
  case atStart => exact ⟨0, by omega, rfl, HI⟩
  case round =>
    clear HI
    obtain ⟨i, hi, rfl, HI⟩ := hrel
    by_cases hlt : i < 11
    · have d0 : decide ((i : Int) < 11) = true := decide_eq_true (by omega)
      have li : (i : Int) < 11 := by omega
      go_wp2_with fail
      refine (round_yes c key hk i (by omega) wr (Lib.hid HI.out.cc)).mono ?_
      rintro e w6 ⟨rfl, hm, hap⟩
      replace HI := Lib.hid (HI.out.turn hap hm)
      clear hm hap
      have r6 := Lib.hid (RowAt.new w6 23 (rowOf 16 (w8 zeroN)))
      have HX := Lib.hid (RxC.start HI.out (rkN key i))
      clear HI
      go_wp2_with (refine wpList_store_row rfl 23 _ _ rfl w6.heap.size (rowOf 16 (w8 (rkN key i))) rfl rfl 23 _ r6.out (info_key _) (by rw [rowOf_size, rowOf_size]) (rowOf_cells8 _ _) ?_)
      clear r6
      generalize World.setRow _ _ _ = w7 at *
      generalize w6.heap.size = x at *
      replace HX : RxC w c l x key (rkN key i) w7.drew := HX.out.after (Below.refl _ _).drew
      refine wp_region_flat (RxC w c l x key (rkN key i)) [eqv (.agg (rowOf 16 (w8 (rkN key i)))), eqv (.int .i64 (i : Int)), eqv (.pointer (some ⟨l, i * 16, none⟩)), eqv (.agg (rowOf 16 (w8 (rkN key i)))), eqv (.bool false), eqv (.bool false), eqv (.int .i64 0), eqv (.bool false), eqv (.bool false)] (by kernel_rfl) (by kernel_rfl) HX
        (.cons (.cons (.cons (.cons (.cons (.cons (.cons (.cons (.cons .nil))))))))) ?_
      intro R hR
      refine wpRely_cons (fun w' hC hf => ?_) (fun v0 => ?_)
      · (repeat (first | (obtain ⟨rfl, hf⟩ := hf) | (obtain ⟨⟨q, rfl, hq⟩, hf⟩ := hf) | (obtain ⟨_, hf⟩ := hf)))
        exact grows_load (by rfl) hC rfl rfl (hC.rx) Try.underlying23 rfl (info_key _)
      simp only [Act.put, List.setIfInBounds_toArray, List.set_cons_succ, List.set_cons_zero, List.nil_append]
      refine wpRely_cons (fun w' hC hf => ?_) (fun v1 => ?_)
      · (repeat (first | (obtain ⟨rfl, hf⟩ := hf) | (obtain ⟨⟨q, rfl, hq⟩, hf⟩ := hf) | (obtain ⟨_, hf⟩ := hf)))
        exact grows_eqv (by rfl) hC (by go_simp)
      simp only [Act.put, List.setIfInBounds_toArray, List.set_cons_succ, List.set_cons_zero, List.nil_append, List.cons_append]
      refine wpRely_cons (fun w' hC hf => ?_) (fun v2 => ?_)
      · (repeat (first | (obtain ⟨rfl, hf⟩ := hf) | (obtain ⟨⟨q, rfl, hq⟩, hf⟩ := hf) | (obtain ⟨_, hf⟩ := hf)))
        exact grows_eqv (by rfl) hC (by go_simp)
      simp only [Act.put, List.setIfInBounds_toArray, List.set_cons_succ, List.set_cons_zero, List.nil_append, List.cons_append]
      refine wpRely_cons (fun w' hC hf => ?_) (fun v3 => ?_)
      · (repeat (first | (obtain ⟨rfl, hf⟩ := hf) | (obtain ⟨⟨q, rfl, hq⟩, hf⟩ := hf) | (obtain ⟨_, hf⟩ := hf)))
        exact grows_load_at (by rfl) hC rfl rfl hC.rd.ls (ring_get key i (by omega)) Try.underlying23 rfl (by kernel_rfl)
      simp only [Act.put, List.setIfInBounds_toArray, List.set_cons_succ, List.set_cons_zero, List.nil_append, List.cons_append]
      refine wpRely_cons (fun w' hC hf => ?_) (fun v4 => ?_)
      · (repeat (first | (obtain ⟨rfl, hf⟩ := hf) | (obtain ⟨⟨q, rfl, hq⟩, hf⟩ := hf) | (obtain ⟨_, hf⟩ := hf)))
        exact grows_eqv (by rfl) hC (run_neq_key2 (rkN key i) (rkN key i) false (by rw [sameK_rfl]; rfl) rfl rfl rfl _)
      simp only [Act.put, List.setIfInBounds_toArray, List.set_cons_succ, List.set_cons_zero, List.nil_append, List.cons_append]
      refine wpRely_cons (fun w' hC hf => ?_) (fun v5 => ?_)
      · (repeat (first | (obtain ⟨rfl, hf⟩ := hf) | (obtain ⟨⟨q, rfl, hq⟩, hf⟩ := hf) | (obtain ⟨_, hf⟩ := hf)))
        exact grows_eqv (by rfl) hC (by go_simp)
      simp only [Act.put, List.setIfInBounds_toArray, List.set_cons_succ, List.set_cons_zero, List.nil_append, List.cons_append]
      refine wpRely_cons (fun w' hC hf => ?_) (fun v6 => ?_)
      · (repeat (first | (obtain ⟨rfl, hf⟩ := hf) | (obtain ⟨⟨q, rfl, hq⟩, hf⟩ := hf) | (obtain ⟨_, hf⟩ := hf)))
        exact grows_eqv (by rfl) hC (by go_simp)
      simp only [Act.put, List.setIfInBounds_toArray, List.set_cons_succ, List.set_cons_zero, List.nil_append, List.cons_append]
      refine wpRely_cons (fun w' hC hf => ?_) (fun v7 => ?_)
      · (repeat (first | (obtain ⟨rfl, hf⟩ := hf) | (obtain ⟨⟨q, rfl, hq⟩, hf⟩ := hf) | (obtain ⟨_, hf⟩ := hf)))
        exact grows_eqv (by rfl) hC (by go_simp)
      simp only [Act.put, List.setIfInBounds_toArray, List.set_cons_succ, List.set_cons_zero, List.nil_append, List.cons_append]
      refine wpRely_cons (fun w' hC hf => ?_) (fun v8 => ?_)
      · (repeat (first | (obtain ⟨rfl, hf⟩ := hf) | (obtain ⟨⟨q, rfl, hq⟩, hf⟩ := hf) | (obtain ⟨_, hf⟩ := hf)))
        exact grows_eqv (by rfl) hC (by go_simp)
      simp only [Act.put, List.setIfInBounds_toArray, List.set_cons_succ, List.set_cons_zero, List.nil_append, List.cons_append]
      refine wpRely_nil fun w9 hC hf => ?_
      replace HI := Lib.hid hC.rd
      obtain ⟨_, _, _, _, _, _, _, _, rfl, _⟩ := hf
      clear hC HX
      go_wp2
      go_roundw
      case rel => exact ⟨i + 1, by omega, by go_num, HI⟩
      case measure => simp [intOf]; omega
    · have : i = 11 := by omega
      subst this
      by_cases hin : 0 ≤ n ∧ n ≤ 10
      · obtain ⟨m, rfl⟩ := Int.eq_ofNat_of_zero_le hin.1
        have m10 : m ≤ 10 := by omega
        have lm : (m : Int) < 11 := by omega
        have d1 : decide ((m : Int) < 0) = false := decide_eq_false (by omega)
        have d2 : decide ((10 : Int) < (m : Int)) = false := decide_eq_false (by omega)
        clear hin hn
        go_wp2_with fail
        refine (round_yes c key hk m m10 wr (Lib.hid HI.out.cc)).mono ?_
        rintro e w6 ⟨rfl, hm, hap⟩
        replace HI := Lib.hid (HI.out.turn hap hm)
        clear hm hap
        have r6 := Lib.hid (RowAt.new w6 23 (rowOf 16 (w8 zeroN)))
        have HX := Lib.hid (RxC.start HI.out (rkN key m))
        clear HI
        go_wp2_with (refine wpList_store_row rfl 23 _ _ rfl w6.heap.size (rowOf 16 (w8 (rkN key m))) rfl rfl 23 _ r6.out (info_key _) (by rw [rowOf_size, rowOf_size]) (rowOf_cells8 _ _) ?_)
        clear r6
        generalize World.setRow _ _ _ = w7 at *
        generalize w6.heap.size = x at *
        replace HX : RxC w c l x key (rkN key m) w7.drew := HX.out.after (Below.refl _ _).drew
        refine wp_region_flat (RxC w c l x key (rkN key m)) [eqv (.agg (rowOf 16 (w8 (rkN key m)))), eqv (.int .i64 (m : Int)), eqv (.pointer (some ⟨l, m * 16, none⟩)), eqv (.agg (rowOf 16 (w8 (rkN key m)))), eqv (.bool true), eqv (.bool true), eqv (.int .i64 0), eqv (.bool true), eqv (.bool true), eqv (.bool true)] (by kernel_rfl) (by kernel_rfl) HX
          (.cons (.cons (.cons (.cons (.cons (.cons (.cons (.cons (.cons (.cons .nil)))))))))) ?_
        intro R hR
        refine wpRely_cons (fun w' hC hf => ?_) (fun v0 => ?_)
        · (repeat (first | (obtain ⟨rfl, hf⟩ := hf) | (obtain ⟨⟨q, rfl, hq⟩, hf⟩ := hf) | (obtain ⟨_, hf⟩ := hf)))
          exact grows_load (by rfl) hC rfl rfl (hC.rx) Try.underlying23 rfl (info_key _)
        simp only [Act.put, List.setIfInBounds_toArray, List.set_cons_succ, List.set_cons_zero, List.nil_append]
        refine wpRely_cons (fun w' hC hf => ?_) (fun v1 => ?_)
        · (repeat (first | (obtain ⟨rfl, hf⟩ := hf) | (obtain ⟨⟨q, rfl, hq⟩, hf⟩ := hf) | (obtain ⟨_, hf⟩ := hf)))
          exact grows_eqv (by rfl) hC (by go_simp)
        simp only [Act.put, List.setIfInBounds_toArray, List.set_cons_succ, List.set_cons_zero, List.nil_append, List.cons_append]
        refine wpRely_cons (fun w' hC hf => ?_) (fun v2 => ?_)
        · (repeat (first | (obtain ⟨rfl, hf⟩ := hf) | (obtain ⟨⟨q, rfl, hq⟩, hf⟩ := hf) | (obtain ⟨_, hf⟩ := hf)))
          exact grows_eqv (by rfl) hC (by go_simp)
        simp only [Act.put, List.setIfInBounds_toArray, List.set_cons_succ, List.set_cons_zero, List.nil_append, List.cons_append]
        refine wpRely_cons (fun w' hC hf => ?_) (fun v3 => ?_)
        · (repeat (first | (obtain ⟨rfl, hf⟩ := hf) | (obtain ⟨⟨q, rfl, hq⟩, hf⟩ := hf) | (obtain ⟨_, hf⟩ := hf)))
          exact grows_load_at (by rfl) hC rfl rfl hC.rd.ls (ring_get key m (by omega)) Try.underlying23 rfl (by kernel_rfl)
        simp only [Act.put, List.setIfInBounds_toArray, List.set_cons_succ, List.set_cons_zero, List.nil_append, List.cons_append]
        refine wpRely_cons (fun w' hC hf => ?_) (fun v4 => ?_)
        · (repeat (first | (obtain ⟨rfl, hf⟩ := hf) | (obtain ⟨⟨q, rfl, hq⟩, hf⟩ := hf) | (obtain ⟨_, hf⟩ := hf)))
          exact grows_eqv (by rfl) hC (run_eql_key2 (rkN key m) (rkN key m) true (sameK_rfl _) rfl rfl rfl _)
        simp only [Act.put, List.setIfInBounds_toArray, List.set_cons_succ, List.set_cons_zero, List.nil_append, List.cons_append]
        refine wpRely_cons (fun w' hC hf => ?_) (fun v5 => ?_)
        · (repeat (first | (obtain ⟨rfl, hf⟩ := hf) | (obtain ⟨⟨q, rfl, hq⟩, hf⟩ := hf) | (obtain ⟨_, hf⟩ := hf)))
          exact grows_eqv (by rfl) hC (by go_simp)
        simp only [Act.put, List.setIfInBounds_toArray, List.set_cons_succ, List.set_cons_zero, List.nil_append, List.cons_append]
        refine wpRely_cons (fun w' hC hf => ?_) (fun v6 => ?_)
        · (repeat (first | (obtain ⟨rfl, hf⟩ := hf) | (obtain ⟨⟨q, rfl, hq⟩, hf⟩ := hf) | (obtain ⟨_, hf⟩ := hf)))
          exact grows_eqv (by rfl) hC (by go_simp)
        simp only [Act.put, List.setIfInBounds_toArray, List.set_cons_succ, List.set_cons_zero, List.nil_append, List.cons_append]
        refine wpRely_cons (fun w' hC hf => ?_) (fun v7 => ?_)
        · (repeat (first | (obtain ⟨rfl, hf⟩ := hf) | (obtain ⟨⟨q, rfl, hq⟩, hf⟩ := hf) | (obtain ⟨_, hf⟩ := hf)))
          exact grows_eqv (by rfl) hC (by go_simp)
        simp only [Act.put, List.setIfInBounds_toArray, List.set_cons_succ, List.set_cons_zero, List.nil_append, List.cons_append]
        refine wpRely_cons (fun w' hC hf => ?_) (fun v8 => ?_)
        · (repeat (first | (obtain ⟨rfl, hf⟩ := hf) | (obtain ⟨⟨q, rfl, hq⟩, hf⟩ := hf) | (obtain ⟨_, hf⟩ := hf)))
          exact grows_eqv (by rfl) hC (by go_simp)
        simp only [Act.put, List.setIfInBounds_toArray, List.set_cons_succ, List.set_cons_zero, List.nil_append, List.cons_append]
        refine wpRely_cons (fun w' hC hf => ?_) (fun v9 => ?_)
        · (repeat (first | (obtain ⟨rfl, hf⟩ := hf) | (obtain ⟨⟨q, rfl, hq⟩, hf⟩ := hf) | (obtain ⟨_, hf⟩ := hf)))
          exact grows_eqv (by rfl) hC (by go_simp)
        simp only [Act.put, List.setIfInBounds_toArray, List.set_cons_succ, List.set_cons_zero, List.nil_append, List.cons_append]
        refine wpRely_nil fun w9 hC hf => ?_
        replace hC := hC.rd.rest
        obtain ⟨_, _, _, _, _, _, _, _, _, rfl, _⟩ := hf
        go_wp2
        go_ret
        exact ⟨rfl, hC⟩
      · have hout : n < 0 ∨ 10 < n := by omega
        go_wp2_with fail
        refine (round_no c n hout wr).mono ?_
        rintro e w6 ⟨rfl, hb6⟩
        replace HI := Lib.hid (HI.out.after hb6)
        clear hb6
        have r6 := Lib.hid (RowAt.new w6 23 (rowOf 16 (w8 zeroN)))
        have HX := Lib.hid (RxC.start HI.out zeroN)
        clear HI
        rcases hout with hout | hout
        · have d1 : decide (n < 0) = true := decide_eq_true hout
          go_wp2_with (first | (refine wpList_store_row rfl 23 _ _ rfl w6.heap.size (rowOf 16 (w8 zeroN)) rfl rfl 23 _ r6.out (info_key _) (by rw [rowOf_size]) (rowOf_cells8 _ _) ?_) | (refine wpList_load_row rfl 23 _ rfl w6.heap.size rfl 23 _ (0, 0) _ HX.out.rx Try.underlying23 rfl (info_key _) ?_) | (refine wpList_buildTo rfl 23 _ rfl _ rfl (rowOf 16 (w8 zeroN)) (by kernel_rfl) ?_) | (refine wpList_wknown (by rfl) (run_eql_key zeroN rfl rfl rfl _) ?_))
          go_ret
          exact ⟨rfl, HX.out.rd.rest⟩
        · have d1 : decide (n < 0) = false := decide_eq_false (by omega)
          have d2 : decide ((10 : Int) < n) = true := decide_eq_true hout
          go_wp2_with (first | (refine wpList_store_row rfl 23 _ _ rfl w6.heap.size (rowOf 16 (w8 zeroN)) rfl rfl 23 _ r6.out (info_key _) (by rw [rowOf_size]) (rowOf_cells8 _ _) ?_) | (refine wpList_load_row rfl 23 _ rfl w6.heap.size rfl 23 _ (0, 0) _ HX.out.rx Try.underlying23 rfl (info_key _) ?_) | (refine wpList_buildTo rfl 23 _ rfl _ rfl (rowOf 16 (w8 zeroN)) (by kernel_rfl) ?_) | (refine wpList_wknown (by rfl) (run_eql_key zeroN rfl rfl rfl _) ?_))
          go_ret
          exact ⟨rfl, HX.out.rd.rest⟩

end Go.Proofs.Ytelalcgmecianaa
