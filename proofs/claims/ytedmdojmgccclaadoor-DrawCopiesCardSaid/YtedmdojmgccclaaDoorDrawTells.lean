/-
  Walk: DrawTells.
-/
import Derived.Test.YtedmdojmgccclaaDoorDrawOpen
import Derived.Test.YtedmdojmgccclaaDoorDrawShown
import Derived.Test.YtedmdojmgccclaaDoorDrawSame
namespace Go.Proofs.YtedmdojmgccclaaDoor
open Go.RowKit

theorem wf7_u8 {n : Int} (h : (Lit.int .u8 n).wf = true) : 0 ≤ n ∧ n < 256 := by
  simp [Lit.wf, IntKind.min, IntKind.max, IntKind.signed, IntKind.bits] at h
  omega

/-- What stays: the draws, the keys that came in; the rest above. -/
structure TellC (B : Nat) (w : World) (p : Nat) (a1 : Option Addr) (l c1 : Nat) (K : Nat → Nat → Nat) (t : Nat) (a : Option Addr) (w' : World) : Prop where
  draws : DrC B w p a1 l c1 K t w'
  keys : SeesK w' a l K
theorem TellC.after {B p l c1 t : Nat} {a a1 : Option Addr} {K : Nat → Nat → Nat} {w w1 w2 : World} (hb : Below w1.heap.size w1 w2) (h : TellC B w p a1 l c1 K t a w1) : TellC B w p a1 l c1 K t a w2 := ⟨h.draws.after hb, h.keys.after hb⟩
/-- The same, and a key in a variable. -/
structure TellR (B : Nat) (w : World) (p : Nat) (a1 : Option Addr) (l c1 : Nat) (K : Nat → Nat → Nat) (t : Nat) (a : Option Addr) (q : Nat) (f : Nat → Nat) (w' : World) : Prop where
  rest : TellC B w p a1 l c1 K t a w'
  row : RowAt w' q 27 (rowOf 16 (w8 f))
theorem TellR.after {B p l c1 t q : Nat} {a a1 : Option Addr} {K : Nat → Nat → Nat} {f : Nat → Nat} {w w1 w2 : World} (hb : Below w1.heap.size w1 w2) (h : TellR B w p a1 l c1 K t a q f w1) : TellR B w p a1 l c1 K t a q f w2 := ⟨h.rest.after hb, h.row.below hb h.row.lt⟩

set_option maxHeartbeats 4000000 in
set_option maxRecDepth 8000 in
theorem walk_DrawTells (a : Option Addr) (l c : Nat) (K : Nat → Nat → Nat) (n0 : Int) (wn : (Lit.int .u8 n0).wf = true) (w : World) (hk : KRow w) (hc : CameKeys w a l c K) :
    Calls Tryd.prog 3 #[.slice a l c, .int .u8 n0] w fun e w' => e = .returned (.bool true) ∧ Below w.heap.size w w' := by
  obtain ⟨n, rfl⟩ : ∃ n : Nat, n0 = (n : Int) := ⟨n0.toNat, by have := wf7_u8 wn; omega⟩
  have hn : n < 256 := by have := wf7_u8 wn; omega
  replace hk := Lib.hid hk
  have S0 := Lib.hid (shown7_any w hk)
  obtain ⟨hs, hlc, hK, _⟩ := hc
  replace hs := Lib.hid hs
  have hnot : ∀ (x : Bool) (w : World), (Op.unary .not (.bool x)).run Tryd.prog w = .ok (.bool (!x)) w := fun _ _ => rfl
  have hz : Hid ((!sameK zeroN zeroN) = false) := by unfold Hid; rw [sameK_rfl]; rfl
  clear wn hK hk
  by_cases hl : l ≤ 200
  · have d1 : ¬ (l : Int) > 200 := by omega
    go_enter Tryd.func3, Tryd.ntmps3
    go_wp2_with fail
    refine S0.out.mono ?_
    rintro e w1 ⟨rfl, b1⟩
    clear S0
    have N1 := Lib.hid (drawNew_any l (by omega) K a c w1 (hs.out.after b1))
    go_wp2_with fail
    refine N1.out.mono ?_
    rintro e w2 ⟨p, a1, c1, rfl, D2, hb2⟩
    clear N1
    replace D2 := Lib.hid (D2.out.base b1.size)
    replace b1 := b1.trans (hb2.mono b1.size)
    have hp := D2.out.here
    clear hb2 hnot
    go_wp2
    go_loopw [6] (fun v wr => ∃ i t : Nat, i ≤ n ∧ v = .int .i64 i ∧ Hid ((i < l ∧ t = i) ∨ (l ≤ i ∧ t = l)) ∧ Hid (Dr w.heap.size wr p a1 l c1 K t) ∧ Below w.heap.size w wr) (fun v _ => n - (intOf v).toNat)
    case atStart =>
      refine ⟨0, 0, Nat.zero_le _, rfl, ?_, D2, b1⟩
      unfold Hid
      omega
    case round =>
      clear D2 b1
      obtain ⟨i, t, hi, rfl, ht, D3, b3⟩ := hrel
      by_cases hlt : i < n
      · have li : (i : Int) < (n : Int) := by omega
        by_cases hil : i < l
        · have lg : ¬ (i : Int) ≥ (l : Int) := by omega
          have et : t = i := by have := ht.out; omega
          subst et
          have N3 := Lib.hid (drawNext_yes w.heap.size p l c1 t (by omega) a1 K _ D3 hil)
          go_wp2_with fail
          refine N3.out.mono ?_
          rintro e w4 ⟨rfl, D4, ap4⟩
          replace b3 := b3.trans (ap4.under hp b3.size)
          clear N3 D3 ap4
          have z4 := Lib.hid (RowAt.new w4 27 (rowOf 16 (w8 zeroN)))
          have r5 := Lib.hid (RowAt.new w4 27 (rowOf 16 (w8 (K t))))
          have b5 : Below w4.heap.size w4 (w4.alloc (.cells (rowOf 16 (w8 (K t))) 27)) := (Below.refl _ _).alloc (Nat.le_refl _) _
          have D5 := Lib.hid (D4.out.after b5)
          replace b3 := b3.trans (b5.mono b3.size)
          have s5 := Lib.hid (hs.out.after b3)
          clear D4 b5
          go_wp2_with (refine wpList_store_row rfl 27 _ _ rfl w4.heap.size (rowOf 16 (w8 (K t))) rfl rfl 27 _ z4.out (info_key _) (by rw [rowOf_size, rowOf_size]) (rowOf_cells8 _ _) ?_; rw [World.setRow_alloc_new]; generalize w4.alloc (.cells (rowOf 16 (w8 (K t))) 27) = w5 at *)
          obtain ⟨x, hx⟩ : ∃ x : Nat, x = l - t := ⟨_, rfl⟩
          obtain ⟨y, hy⟩ : ∃ y : Nat, y = l - (t + 1) := ⟨_, rfl⟩
          have e1 : (l : Int) - (t : Int) = (x : Int) := by omega
          have e2 : (x : Int) - 1 = (y : Int) := by omega
          have wx := Lib.hid (wrap_nat x (by omega))
          have wy := Lib.hid (wrap_nat y (by omega))
          have LF : Hid (∀ w', Dr w.heap.size w' p a1 l c1 K (t + 1) → Calls Tryd.prog 9 #[.pointer (some ⟨p, 0, none⟩)] w' fun e w'' => e = .returned (.int .i64 (y : Int)) ∧ Below w'.heap.size w' w'') := fun w' h => by
            rw [hy]
            exact drawLeft_any w.heap.size p l c1 (t + 1) (by omega) a1 K w' h
          clear hx hy z4
          have HC : TellR w.heap.size w5 p a1 l c1 K (t + 1) a w4.heap.size (K t) w5.drew := ⟨⟨⟨(Below.refl _ _).drew, D5.out.after (Below.refl _ _).drew⟩, s5.out.after (Below.refl _ _).drew⟩, r5.out⟩
          clear D5 s5 r5
          refine wp_region_steady (TellR w.heap.size w5 p a1 l c1 K (t + 1) a w4.heap.size (K t)) [eqv (.int .i64 0), eqv (.bool false), eqv (.bool false), eqv (.agg (rowOf 16 (w8 (K t)))), eqv (.slice a l c), eqv (.int .i64 (t : Int)), eqv (.pointer (some (elA a t))), eqv (.agg (rowOf 16 (w8 (K t)))), eqv (.bool false), eqv (.bool false), eqv (.bool false), eqv (.pointer (some ⟨p, 0, none⟩)), eqv (.int .i64 (y : Int)), eqv (.slice a l c), eqv (.int .i64 (l : Int)), eqv (.int .i64 (t : Int)), eqv (.int .i64 (x : Int)), eqv (.int .i64 (y : Int)), eqv (.bool false), eqv (.bool false)] (by kernel_rfl) (by kernel_rfl) HC
            (.cons (steady_eqv _) (.cons (steady_eqv _) (.cons (steady_eqv _) (.cons (steady_eqv _) (.cons (steady_eqv _) (.cons (steady_eqv _) (.cons (steady_eqv _) (.cons (steady_eqv _) (.cons (steady_eqv _) (.cons (steady_eqv _) (.cons (steady_eqv _) (.cons (steady_eqv _) (.cons (steady_eqv _) (.cons (steady_eqv _) (.cons (steady_eqv _) (.cons (steady_eqv _) (.cons (steady_eqv _) (.cons (steady_eqv _) (.cons (steady_eqv _) (.cons (steady_eqv _) .nil)))))))))))))))))))) ?_
          intro R hR
          refine wpRely_cons (fun w' hC hf => ?_) (fun v0 => ?_)
          · (repeat (first | (obtain ⟨rfl, hf⟩ := hf) | (obtain ⟨⟨q, rfl, hq⟩, hf⟩ := hf) | (obtain ⟨_, hf⟩ := hf)))
            exact grows_eqv (by rfl) hC (by go_simp)
          simp only [Act.put, List.setIfInBounds_toArray, List.set_cons_succ, List.set_cons_zero, List.nil_append]
          refine wpRely_cons (fun w' hC hf => ?_) (fun v1 => ?_)
          · (repeat (first | (obtain ⟨rfl, hf⟩ := hf) | (obtain ⟨⟨q, rfl, hq⟩, hf⟩ := hf) | (obtain ⟨_, hf⟩ := hf)))
            exact grows_eqv (by rfl) hC (by go_simp)
          simp only [Act.put, List.setIfInBounds_toArray, List.set_cons_succ, List.set_cons_zero, List.nil_append, List.cons_append]
          refine wpRely_cons (fun w' hC hf => ?_) (fun v2 => ?_)
          · (repeat (first | (obtain ⟨rfl, hf⟩ := hf) | (obtain ⟨⟨q, rfl, hq⟩, hf⟩ := hf) | (obtain ⟨_, hf⟩ := hf)))
            exact grows_eqv (by rfl) hC (by go_simp)
          simp only [Act.put, List.setIfInBounds_toArray, List.set_cons_succ, List.set_cons_zero, List.nil_append, List.cons_append]
          refine wpRely_cons (fun w' hC hf => ?_) (fun v3 => ?_)
          · (repeat (first | (obtain ⟨rfl, hf⟩ := hf) | (obtain ⟨⟨q, rfl, hq⟩, hf⟩ := hf) | (obtain ⟨_, hf⟩ := hf)))
            exact grows_load (by rfl) hC rfl rfl (hC.row) Tryd.underlying27 rfl (info_key _)
          simp only [Act.put, List.setIfInBounds_toArray, List.set_cons_succ, List.set_cons_zero, List.nil_append, List.cons_append]
          refine wpRely_cons (fun w' hC hf => ?_) (fun v4 => ?_)
          · (repeat (first | (obtain ⟨rfl, hf⟩ := hf) | (obtain ⟨⟨q, rfl, hq⟩, hf⟩ := hf) | (obtain ⟨_, hf⟩ := hf)))
            exact grows_eqv (by rfl) hC (by go_simp)
          simp only [Act.put, List.setIfInBounds_toArray, List.set_cons_succ, List.set_cons_zero, List.nil_append, List.cons_append]
          refine wpRely_cons (fun w' hC hf => ?_) (fun v5 => ?_)
          · (repeat (first | (obtain ⟨rfl, hf⟩ := hf) | (obtain ⟨⟨q, rfl, hq⟩, hf⟩ := hf) | (obtain ⟨_, hf⟩ := hf)))
            exact grows_eqv (by rfl) hC (by go_simp)
          simp only [Act.put, List.setIfInBounds_toArray, List.set_cons_succ, List.set_cons_zero, List.nil_append, List.cons_append]
          refine wpRely_cons (fun w' hC hf => ?_) (fun v6 => ?_)
          · (repeat (first | (obtain ⟨rfl, hf⟩ := hf) | (obtain ⟨⟨q, rfl, hq⟩, hf⟩ := hf) | (obtain ⟨_, hf⟩ := hf)))
            exact grows_eqv (by rfl) hC (run_index_el hC.rest.keys hil rfl rfl rfl _)
          simp only [Act.put, List.setIfInBounds_toArray, List.set_cons_succ, List.set_cons_zero, List.nil_append, List.cons_append]
          refine wpRely_cons (fun w' hC hf => ?_) (fun v7 => ?_)
          · (repeat (first | (obtain ⟨rfl, hf⟩ := hf) | (obtain ⟨⟨q, rfl, hq⟩, hf⟩ := hf) | (obtain ⟨_, hf⟩ := hf)))
            exact grows_eqv (by rfl) hC (run_load_el hC.rest.keys hil rfl rfl)
          simp only [Act.put, List.setIfInBounds_toArray, List.set_cons_succ, List.set_cons_zero, List.nil_append, List.cons_append]
          refine wpRely_cons (fun w' hC hf => ?_) (fun v8 => ?_)
          · (repeat (first | (obtain ⟨rfl, hf⟩ := hf) | (obtain ⟨⟨q, rfl, hq⟩, hf⟩ := hf) | (obtain ⟨_, hf⟩ := hf)))
            exact grows_eqv (by rfl) hC (run_neq_key2 (K t) (K t) false (by rw [sameK_rfl]; rfl) rfl rfl rfl _)
          simp only [Act.put, List.setIfInBounds_toArray, List.set_cons_succ, List.set_cons_zero, List.nil_append, List.cons_append]
          refine wpRely_cons (fun w' hC hf => ?_) (fun v9 => ?_)
          · (repeat (first | (obtain ⟨rfl, hf⟩ := hf) | (obtain ⟨⟨q, rfl, hq⟩, hf⟩ := hf) | (obtain ⟨_, hf⟩ := hf)))
            exact grows_eqv (by rfl) hC (by go_simp)
          simp only [Act.put, List.setIfInBounds_toArray, List.set_cons_succ, List.set_cons_zero, List.nil_append, List.cons_append]
          refine wpRely_cons (fun w' hC hf => ?_) (fun v10 => ?_)
          · (repeat (first | (obtain ⟨rfl, hf⟩ := hf) | (obtain ⟨⟨q, rfl, hq⟩, hf⟩ := hf) | (obtain ⟨_, hf⟩ := hf)))
            exact grows_eqv (by rfl) hC (by go_simp)
          simp only [Act.put, List.setIfInBounds_toArray, List.set_cons_succ, List.set_cons_zero, List.nil_append, List.cons_append]
          refine wpRely_cons (fun w' hC hf => ?_) (fun v11 => ?_)
          · (repeat (first | (obtain ⟨rfl, hf⟩ := hf) | (obtain ⟨⟨q, rfl, hq⟩, hf⟩ := hf) | (obtain ⟨_, hf⟩ := hf)))
            exact grows_eqv (by rfl) hC (by go_simp)
          simp only [Act.put, List.setIfInBounds_toArray, List.set_cons_succ, List.set_cons_zero, List.nil_append, List.cons_append]
          refine wpRely_cons (fun w' hC hf => ?_) (fun v12 => ?_)
          · (repeat (first | (obtain ⟨rfl, hf⟩ := hf) | (obtain ⟨⟨q, rfl, hq⟩, hf⟩ := hf) | (obtain ⟨_, hf⟩ := hf)))
            exact grows_calls hR (fun _ _ hb h => h.after hb) hC (by rfl) (by go_simp) (LF.out w' hC.rest.draws.2)
          simp only [Act.put, List.setIfInBounds_toArray, List.set_cons_succ, List.set_cons_zero, List.nil_append, List.cons_append]
          refine wpRely_cons (fun w' hC hf => ?_) (fun v13 => ?_)
          · (repeat (first | (obtain ⟨rfl, hf⟩ := hf) | (obtain ⟨⟨q, rfl, hq⟩, hf⟩ := hf) | (obtain ⟨_, hf⟩ := hf)))
            exact grows_eqv (by rfl) hC (by go_simp)
          simp only [Act.put, List.setIfInBounds_toArray, List.set_cons_succ, List.set_cons_zero, List.nil_append, List.cons_append]
          refine wpRely_cons (fun w' hC hf => ?_) (fun v14 => ?_)
          · (repeat (first | (obtain ⟨rfl, hf⟩ := hf) | (obtain ⟨⟨q, rfl, hq⟩, hf⟩ := hf) | (obtain ⟨_, hf⟩ := hf)))
            exact grows_eqv (by rfl) hC (by go_simp)
          simp only [Act.put, List.setIfInBounds_toArray, List.set_cons_succ, List.set_cons_zero, List.nil_append, List.cons_append]
          refine wpRely_cons (fun w' hC hf => ?_) (fun v15 => ?_)
          · (repeat (first | (obtain ⟨rfl, hf⟩ := hf) | (obtain ⟨⟨q, rfl, hq⟩, hf⟩ := hf) | (obtain ⟨_, hf⟩ := hf)))
            exact grows_eqv (by rfl) hC (by go_simp)
          simp only [Act.put, List.setIfInBounds_toArray, List.set_cons_succ, List.set_cons_zero, List.nil_append, List.cons_append]
          refine wpRely_cons (fun w' hC hf => ?_) (fun v16 => ?_)
          · (repeat (first | (obtain ⟨rfl, hf⟩ := hf) | (obtain ⟨⟨q, rfl, hq⟩, hf⟩ := hf) | (obtain ⟨_, hf⟩ := hf)))
            exact grows_eqv (by rfl) hC (by go_simp; exact wx.out)
          simp only [Act.put, List.setIfInBounds_toArray, List.set_cons_succ, List.set_cons_zero, List.nil_append, List.cons_append]
          refine wpRely_cons (fun w' hC hf => ?_) (fun v17 => ?_)
          · (repeat (first | (obtain ⟨rfl, hf⟩ := hf) | (obtain ⟨⟨q, rfl, hq⟩, hf⟩ := hf) | (obtain ⟨_, hf⟩ := hf)))
            exact grows_eqv (by rfl) hC (by go_simp; exact wy.out)
          simp only [Act.put, List.setIfInBounds_toArray, List.set_cons_succ, List.set_cons_zero, List.nil_append, List.cons_append]
          refine wpRely_cons (fun w' hC hf => ?_) (fun v18 => ?_)
          · (repeat (first | (obtain ⟨rfl, hf⟩ := hf) | (obtain ⟨⟨q, rfl, hq⟩, hf⟩ := hf) | (obtain ⟨_, hf⟩ := hf)))
            exact grows_eqv (by rfl) hC (by go_simp)
          simp only [Act.put, List.setIfInBounds_toArray, List.set_cons_succ, List.set_cons_zero, List.nil_append, List.cons_append]
          refine wpRely_cons (fun w' hC hf => ?_) (fun v19 => ?_)
          · (repeat (first | (obtain ⟨rfl, hf⟩ := hf) | (obtain ⟨⟨q, rfl, hq⟩, hf⟩ := hf) | (obtain ⟨_, hf⟩ := hf)))
            exact grows_eqv (by rfl) hC (by go_simp)
          simp only [Act.put, List.setIfInBounds_toArray, List.set_cons_succ, List.set_cons_zero, List.nil_append, List.cons_append]
          refine wpRely_nil fun w9 hC hf => ?_
          obtain ⟨_, _, _, _, _, _, _, _, _, _, _, _, _, _, _, _, _, _, _, rfl, _⟩ := hf
          clear e1 e2 wx wy LF
          have D9 := hC.rest.draws.2
          have b9 := b3.trans (hC.rest.draws.1.mono b3.size)
          clear hC HC
          go_wp2
          go_roundw
          case rel =>
            refine ⟨t + 1, t + 1, by omega, by go_num, ?_, D9, b9⟩
            unfold Hid
            omega
          case measure => simp [intOf]; omega
        · have lg : (i : Int) ≥ (l : Int) := by omega
          have et : t = l := by have := ht.out; omega
          subst et
          have N3 := Lib.hid (drawNext_dry w.heap.size p t c1 (by omega) a1 K _ D3)
          go_wp2_with fail
          refine N3.out.mono ?_
          rintro e w4 ⟨rfl, D4, ap4⟩
          replace b3 := b3.trans (ap4.under hp b3.size)
          clear N3 D3 ap4
          have z4 := Lib.hid (RowAt.new w4 27 (rowOf 16 (w8 zeroN)))
          have r5 := Lib.hid (RowAt.new w4 27 (rowOf 16 (w8 zeroN)))
          have b5 : Below w4.heap.size w4 (w4.alloc (.cells (rowOf 16 (w8 zeroN)) 27)) := (Below.refl _ _).alloc (Nat.le_refl _) _
          have D5 := Lib.hid (D4.out.after b5)
          replace b3 := b3.trans (b5.mono b3.size)
          clear D4 b5
          have LF := Lib.hid (drawLeft_any w.heap.size p t c1 t (by omega) a1 K _ D5)
          have e0 : ((t - t : Nat) : Int) = 0 := by omega
          rw [e0] at LF
          go_wp2_with (first | (refine wpList_store_row rfl 27 _ _ rfl w4.heap.size (rowOf 16 (w8 zeroN)) rfl rfl 27 _ z4.out (info_key _) (by rw [rowOf_size]) (rowOf_cells8 _ _) ?_; rw [World.setRow_alloc_new]; generalize w4.alloc (.cells (rowOf 16 (w8 zeroN)) 27) = w5 at *) | (refine wpList_wload_row rfl 27 _ rfl w4.heap.size rfl 27 _ _ r5.out Tryd.underlying27 rfl (info_key _) ?_) | (refine wpList_wknown rfl (run_neq_key2 zeroN zeroN false hz.out rfl rfl rfl _) ?_))
          refine LF.out.mono ?_
          rintro e w6 ⟨rfl, hb6⟩
          replace b3 := b3.trans (hb6.mono b3.size)
          replace D5 := Lib.hid (D5.out.after hb6)
          clear hb6 LF z4 r5
          go_wp2
          go_roundw
          case rel =>
            refine ⟨i + 1, t, by omega, by go_num, ?_, D5, b3⟩
            unfold Hid
            omega
          case measure => simp [intOf]; omega
      · have li : ¬ (i : Int) < (n : Int) := by omega
        have ei : i = n := by omega
        subst ei
        have ltc : t ≤ c := by have := ht.out; omega
        have lt2 : t ≤ l := by have := ht.out; omega
        have sl := slice_head a l c t ltc
        have wi := Lib.hid (wrap_nat i (by omega))
        have mn := Lib.hid (run_min2 (i : Int) (l : Int) (t : Int) (by have := ht.out; omega))
        have s3 := Lib.hid (hs.out.after b3)
        have HC : TellC w.heap.size wr p a1 l c1 K t a wr.drew := ⟨⟨(Below.refl _ _).drew, D3.out.after (Below.refl _ _).drew⟩, s3.out.after (Below.refl _ _).drew⟩
        go_wp2
        refine wp_region_steady (TellC w.heap.size wr p a1 l c1 K t a) [eqv (.pointer (some ⟨p, 0, none⟩)), keysv w.heap.size t K, eqv (.slice a l c), eqv (.int .u8 (i : Int)), eqv (.int .i64 (i : Int)), eqv (.slice a l c), eqv (.int .i64 (l : Int)), eqv (.int .i64 (t : Int)), eqv (.slice a t c), eqv (.bool true), eqv (.bool true)] (by kernel_rfl) (by kernel_rfl) HC
          (.cons (steady_eqv _) (.cons (steady_keysv _ _ _) (.cons (steady_eqv _) (.cons (steady_eqv _) (.cons (steady_eqv _) (.cons (steady_eqv _) (.cons (steady_eqv _) (.cons (steady_eqv _) (.cons (steady_eqv _) (.cons (steady_eqv _) (.cons (steady_eqv _) .nil))))))))))) ?_
        intro R hR
        refine wpRely_cons (fun w' hC hf => ?_) (fun v0 => ?_)
        · (repeat (first | (obtain ⟨rfl, hf⟩ := hf) | (obtain ⟨⟨q, rfl, hq⟩, hf⟩ := hf) | (obtain ⟨_, hf⟩ := hf)))
          exact grows_eqv (by rfl) hC (by go_simp)
        simp only [Act.put, List.setIfInBounds_toArray, List.set_cons_succ, List.set_cons_zero, List.nil_append]
        refine wpRely_cons (fun w' hC hf => ?_) (fun v1 => ?_)
        · (repeat (first | (obtain ⟨rfl, hf⟩ := hf) | (obtain ⟨⟨q, rfl, hq⟩, hf⟩ := hf) | (obtain ⟨_, hf⟩ := hf)))
          exact grows_keys hR (fun _ _ hb h => h.after hb) hC (Nat.le_trans b3.size hC.draws.1.size) (by rfl) (by go_simp) (drawUsed_any w.heap.size p l c1 t (by omega) a1 K w' hC.draws.2)
        simp only [Act.put, List.setIfInBounds_toArray, List.set_cons_succ, List.set_cons_zero, List.nil_append, List.cons_append]
        refine wpRely_cons (fun w' hC hf => ?_) (fun v2 => ?_)
        · (repeat (first | (obtain ⟨rfl, hf⟩ := hf) | (obtain ⟨⟨q, rfl, hq⟩, hf⟩ := hf) | (obtain ⟨_, hf⟩ := hf)))
          exact grows_eqv (by rfl) hC (by go_simp)
        simp only [Act.put, List.setIfInBounds_toArray, List.set_cons_succ, List.set_cons_zero, List.nil_append, List.cons_append]
        refine wpRely_cons (fun w' hC hf => ?_) (fun v3 => ?_)
        · (repeat (first | (obtain ⟨rfl, hf⟩ := hf) | (obtain ⟨⟨q, rfl, hq⟩, hf⟩ := hf) | (obtain ⟨_, hf⟩ := hf)))
          exact grows_eqv (by rfl) hC (by go_simp)
        simp only [Act.put, List.setIfInBounds_toArray, List.set_cons_succ, List.set_cons_zero, List.nil_append, List.cons_append]
        refine wpRely_cons (fun w' hC hf => ?_) (fun v4 => ?_)
        · (repeat (first | (obtain ⟨rfl, hf⟩ := hf) | (obtain ⟨⟨q, rfl, hq⟩, hf⟩ := hf) | (obtain ⟨_, hf⟩ := hf)))
          exact grows_eqv (by rfl) hC (by go_simp; exact wi.out)
        simp only [Act.put, List.setIfInBounds_toArray, List.set_cons_succ, List.set_cons_zero, List.nil_append, List.cons_append]
        refine wpRely_cons (fun w' hC hf => ?_) (fun v5 => ?_)
        · (repeat (first | (obtain ⟨rfl, hf⟩ := hf) | (obtain ⟨⟨q, rfl, hq⟩, hf⟩ := hf) | (obtain ⟨_, hf⟩ := hf)))
          exact grows_eqv (by rfl) hC (by go_simp)
        simp only [Act.put, List.setIfInBounds_toArray, List.set_cons_succ, List.set_cons_zero, List.nil_append, List.cons_append]
        refine wpRely_cons (fun w' hC hf => ?_) (fun v6 => ?_)
        · (repeat (first | (obtain ⟨rfl, hf⟩ := hf) | (obtain ⟨⟨q, rfl, hq⟩, hf⟩ := hf) | (obtain ⟨_, hf⟩ := hf)))
          exact grows_eqv (by rfl) hC (by go_simp)
        simp only [Act.put, List.setIfInBounds_toArray, List.set_cons_succ, List.set_cons_zero, List.nil_append, List.cons_append]
        refine wpRely_cons (fun w' hC hf => ?_) (fun v7 => ?_)
        · (repeat (first | (obtain ⟨rfl, hf⟩ := hf) | (obtain ⟨⟨q, rfl, hq⟩, hf⟩ := hf) | (obtain ⟨_, hf⟩ := hf)))
          have m1 := mn.out w'
          exact grows_eqv (by rfl) hC (by simp [execOp, resolve, invoke, builtin, m1, Result.andThen, Act.eval])
        simp only [Act.put, List.setIfInBounds_toArray, List.set_cons_succ, List.set_cons_zero, List.nil_append, List.cons_append]
        refine wpRely_cons (fun w' hC hf => ?_) (fun v8 => ?_)
        · (repeat (first | (obtain ⟨rfl, hf⟩ := hf) | (obtain ⟨⟨q, rfl, hq⟩, hf⟩ := hf) | (obtain ⟨_, hf⟩ := hf)))
          exact grows_eqv (by rfl) hC (by go_simp)
        simp only [Act.put, List.setIfInBounds_toArray, List.set_cons_succ, List.set_cons_zero, List.nil_append, List.cons_append]
        refine wpRely_cons (fun w' hC hf => ?_) (fun v9 => ?_)
        · skip
          obtain ⟨hv, rfl, _⟩ := hf
          obtain ⟨a3, c3, rfl, q3, _⟩ := own_seesK hv
          exact grows_calls hR (fun _ _ hb h => h.after hb) hC (by rfl) (by go_simp) (same_yes t (by omega) K a3 a c3 c w' q3 (hC.keys.take lt2))
        simp only [Act.put, List.setIfInBounds_toArray, List.set_cons_succ, List.set_cons_zero, List.nil_append, List.cons_append]
        refine wpRely_cons (fun w' hC hf => ?_) (fun v10 => ?_)
        · (repeat (first | (obtain ⟨rfl, hf⟩ := hf) | (obtain ⟨⟨q, rfl, hq⟩, hf⟩ := hf) | (obtain ⟨_, hf⟩ := hf)))
          exact grows_eqv (by rfl) hC (by go_simp)
        simp only [Act.put, List.setIfInBounds_toArray, List.set_cons_succ, List.set_cons_zero, List.nil_append, List.cons_append]
        refine wpRely_nil fun w9 hC hf => ?_
        obtain ⟨_, _, _, _, _, _, _, _, _, _, rfl, _⟩ := hf
        have b9 := b3.trans (hC.draws.1.mono b3.size)
        go_wp2
        go_ret
        exact ⟨rfl, b9⟩
  · have d1 : (l : Int) > 200 := by omega
    go_enter Tryd.func3, Tryd.ntmps3
    go_wp2_with fail
    refine S0.out.mono ?_
    rintro e w1 ⟨rfl, b1⟩
    clear S0
    go_wp2
    go_ret
    exact ⟨rfl, b1⟩

end Go.Proofs.YtedmdojmgccclaaDoor
