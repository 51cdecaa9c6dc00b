/-
  Contract: the document's Erase, that is an act.
-/
import Derived.Test.YtogeccmeaacgnaaNandRefA
import Derived.Test.YtogeccmeaacgnaaMinMax
namespace Go.Proofs.Ytogeccmeaacgnaa
open Go.RowKit
set_option linter.unusedVariables false

theorem run_allocEmpty (w : World) : True := trivial
/-- The power, laid into the chip. -/
theorem ref_pow (n m : Nat) (S Sa : St) (M : Mem) (h : ∀ j, 4 ≤ j → refF n m S M j = refF n m Sa M j) : rowOf 139 (laidV (refF n m S M) (pwF Sa) 0 4) = rowOf 139 (refF n m Sa M) := rowOf_congr fun j _ => by
  unfold laidV
  by_cases c : j < 4
  · rw [if_pos (by omega), Nat.sub_zero]
    unfold refF
    rw [if_pos c]
  · rw [if_neg (by omega)]
    exact h j (by omega)
theorem ref_act (n m : Nat) (S : St) (M : Mem) (b : Bool) (l : Int) : rowOf 139 (laidV (refF n m S M) (pwF (actS S b l)) 0 4) = rowOf 139 (refF n m (actS S b l) M) :=
  ref_pow n m S _ M fun j hj => by
    unfold refF
    rw [if_neg (show ¬ j < 4 by omega), if_neg (show ¬ j < 4 by omega)]
    rfl
theorem isB_nilC : isB ⟨#[]⟩ = false := by kernel_rfl
def zeroC : Nat → Value := fun j => if j = 0 then .bool false else .string ⟨#[]⟩
theorem zeroC_one (j : Nat) : (zeroC j).oneCell' = true := by
  unfold zeroC
  split <;> rfl
theorem refA_act (S : St) (w : World) (hu : S.up = true) (hh : S.left < 9223372036854775808) (b : Bool) (hb : (S.left - 1 != 0) = b) :
    Calls Try.prog 24 #[.agg (rowOf 4 (pwF S))] w fun e w' => e = .returned (.tuple #[.agg (rowOf 4 (pwF (actS S b (S.left - 1)))), .bool true, .bool b]) ∧ Below w.heap.size w w' := by
  by_cases c0 : S.left.toNat = 0
  · have e : b = true := by rw [← hb, bne_iff_ne]; omega
    rw [e]
    have hp : pwF S = pwF (actS S true (S.left - 1)) := pwF_of hu (by show S.left.toNat = (S.left - 1).toNat; omega) rfl rfl
    have := refAct_none S w hu c0
    rw [← hp]
    exact this
  · by_cases c1 : S.left.toNat = 1
    · have e : b = false := by
        rw [← hb, show S.left = 1 by omega]
        rfl
      rw [e]
      exact refAct_last S w hu c1
    · have e : b = true := by rw [← hb, bne_iff_ne]; omega
      rw [e]
      exact refAct_more S w hu S.left.toNat rfl (by omega) (by omega)

set_option maxHeartbeats 4000000 in
set_option maxRecDepth 8000 in
theorem refErase_whole (n m : Nat) (S : St) (M : Mem) (w : World) (hc : Hid (RefC w n m S M)) (i : Nat) (hi : i < n) (hn64 : n ≤ 64) (hm1 : 1 ≤ m) (hm16 : m ≤ 16) (hu : S.up = true) (hin : (inB ((i : Nat) : Int) n && inB 0 m) = true) (hw : wornB S i = false) (hl : (S.left - 1 != 0) = true) (hh : S.left < 9223372036854775808) (lw : Hid (S.wear i ≤ 1000000 ∧ S.erases ≤ 1000000)) :
    Calls Try.prog 15 #[.agg (rowOf 139 (refF n m S M)), .int .i64 (i : Nat)] w (RefEnd n m M (erS (cntE (actS S true (S.left - 1))) i 9223372036854775807) 0 w) := by
  have b1 : Below w.heap.size w ((w.alloc (.cells (rowOf 139 (refF n m S M)) 36)).alloc (.cells (rowOf 139 (refF 0 0 noneS noneM)) 36)) := allocs_below [.cells (rowOf 139 (refF n m S M)) 36, .cells (rowOf 139 (refF 0 0 noneS noneM)) 36] w
  have r1 : Hid (RowAt ((w.alloc (.cells (rowOf 139 (refF n m S M)) 36)).alloc (.cells (rowOf 139 (refF 0 0 noneS noneM)) 36)) w.heap.size 36 (rowOf 139 (refF n m S M))) := allocs_row [.cells (rowOf 139 (refF n m S M)) 36, .cells (rowOf 139 (refF 0 0 noneS noneM)) 36] w 0 _ _ rfl
  have s1 : Hid (RowAt ((w.alloc (.cells (rowOf 139 (refF n m S M)) 36)).alloc (.cells (rowOf 139 (refF 0 0 noneS noneM)) 36)) (w.heap.size + 1) 36 (rowOf 139 (refF 0 0 noneS noneM))) := allocs_row [.cells (rowOf 139 (refF n m S M)) 36, .cells (rowOf 139 (refF 0 0 noneS noneM)) 36] w 1 _ _ rfl
  have c0 := rf0 r1.out
  rw [hu, Bool.not_true] at c0
  have I := Lib.hid (refIn_any n m S M ((w.alloc (.cells (rowOf 139 (refF n m S M)) 36)).alloc (.cells (rowOf 139 (refF 0 0 noneS noneM)) 36)) (i : Int) 0)
  rw [hin] at I
  have d1 : decide (((S.wear i : Nat) : Int) ≥ S.rated) = false := decide_eq_false (by
    intro h
    unfold wornB at hw
    rw [decide_eq_true h, Bool.or_true] at hw
    cases hw)
  have hb0 : S.bad i = false := by
    unfold wornB at hw
    cases hb : S.bad i with
    | true =>
      rw [hb] at hw
      cases hw
    | false => rfl
  have hl2 := Lib.hid hl
  have hh2 := Lib.hid hh
  have hwl := Lib.hid (wrap_one _ lw.out.1)
  have hel := Lib.hid (wrap_one _ lw.out.2)
  have lw' := lw
  clear hw hl hh lw
  go_enter Try.func15, Try.ntmps15
  go_wp2_with (first | (refine wpList_new rfl (run_allocChip rfl _) ?_; generalize (w.alloc (.cells (rowOf 139 (refF n m S M)) 36)).alloc (.cells (rowOf 139 (refF 0 0 noneS noneM)) 36) = w1 at *) | (refine wpList_load_row rfl 36 _ rfl w.heap.size rfl 36 (rowOf 139 (refF n m S M)) (0, 0) _ r1.out Try.underlying36 rfl (infoChip _) ?_))
  refine I.out.mono ?_
  rintro e w2 ⟨rfl, bi⟩
  have r2 := Lib.hid (r1.out.below bi r1.out.lt)
  have s2 := Lib.hid (s1.out.below bi s1.out.lt)
  have b2 := b1.trans (bi.mono b1.size)
  clear I r1 s1 b1 bi c0
  have c6 := rf6 r2.out
  have cb := rfBad r2.out (i := i) (by omega)
  have cw := rfWear r2.out (i := i) (by omega)
  have i64 : (i : Int) < 64 := by omega
  rw [hb0] at cb
  go_wp2_with fail
  go_quiet (fail)
  have bq : Below w2.heap.size w2 (w2.drewN nq) := ⟨rfl, rfl, rfl, Nat.le_refl _, fun _ _ => rfl⟩
  have r3 := Lib.hid (r2.out.below bq r2.out.lt)
  have s3 := Lib.hid (s2.out.below bq s2.out.lt)
  have b3 := b2.trans (bq.mono b2.size)
  clear r2 s2 b2 bq cb cw c6 d1 i64
  generalize w2.drewN nq = w3 at *
  have A := Lib.hid (refA_act S w3 hu hh2.out true hl2.out)
  go_wp2_with (first | (refine wpList_load_at rfl 30 _ rfl w.heap.size 0 rfl 36 _ _ 4 (pwF S) r3.out (fun j hj => by rw [Nat.zero_add, rowOf_get _ _ _ (by omega)]; unfold refF; rw [if_pos hj]) Try.underlying30 rfl infoPow4 ?_))
  refine A.out.mono ?_
  rintro e w4 ⟨rfl, ba⟩
  obtain ⟨Sa, hSa⟩ : ∃ Sa, actS S true (S.left - 1) = Sa := ⟨_, rfl⟩
  rw [hSa]
  have rp := Lib.hid (fun (M : Mem) => ref_act n m S M true (S.left - 1))
  rw [hSa] at rp
  have r4 := Lib.hid (r3.out.below ba r3.out.lt)
  have s4 := Lib.hid (s3.out.below ba s3.out.lt)
  have b4 := b3.trans (ba.mono b3.size)
  have lp : w.heap.size < w4.heap.size := r4.out.lt
  have ls : w.heap.size + 1 < w4.heap.size := s4.out.lt
  clear A r3 s3 b3 ba
  have rA := Lib.hid (r4.out.alloc (.cells (rowOf 4 (pwF noneS)) 30))
  have sA := Lib.hid (s4.out.alloc (.cells (rowOf 4 (pwF noneS)) 30))
  have qA := Lib.hid (RowAt.new w4 30 (rowOf 4 (pwF noneS)))
  have bA := b4.alloc b4.size (.cells (rowOf 4 (pwF noneS)) 30)
  have rB := Lib.hid (rA.out.setRowOther w4.heap.size (rowOf 4 (pwF Sa)) (by omega))
  have sB := Lib.hid (sA.out.setRowOther w4.heap.size (rowOf 4 (pwF Sa)) (by omega))
  have qB := Lib.hid (qA.out.setRow (rowOf 4 (pwF Sa)))
  have bB := below_setRow' bA (show w.heap.size ≤ w4.heap.size by omega) (rowOf 4 (pwF Sa))
  have rC := Lib.hid (rB.out.setRow (rowOf 139 (laidV (refF n m S M) (pwF Sa) 0 4)))
  have sC := Lib.hid (sB.out.setRowOther w.heap.size (rowOf 139 (laidV (refF n m S M) (pwF Sa) 0 4)) (by omega))
  have qC := Lib.hid (qB.out.setRowOther w.heap.size (rowOf 139 (laidV (refF n m S M) (pwF Sa) 0 4)) (by omega))
  have bC := below_setRow' bB (Nat.le_refl w.heap.size) (rowOf 139 (laidV (refF n m S M) (pwF Sa) 0 4))
  rw [rp.out M] at rC sC qC bC
  clear r4 s4 b4
  go_wp2_with (first | (refine wpList_new rfl (run_allocPow rfl _) ?_; generalize w4.alloc (.cells (rowOf 4 (pwF noneS)) 30) = w5 at *) | (refine wpList_store_row rfl 30 _ _ rfl w4.heap.size (rowOf 4 (pwF Sa)) rfl rfl 30 (rowOf 4 (pwF noneS)) qA.out (infoPow _) (by rw [rowOf_size, rowOf_size]) (pwF_all _) ?_; generalize w5.setRow w4.heap.size (rowOf 4 (pwF Sa)) = w6 at *) | (refine wpList_load_row rfl 30 _ rfl w4.heap.size rfl 30 (rowOf 4 (pwF Sa)) (0, 0) _ qB.out Try.underlying30 rfl (infoPow _) ?_) | (refine wpList_store_at rfl 30 _ _ rfl w.heap.size 0 139 4 (refF n m S M) (pwF Sa) rfl rfl 36 rB.out infoPow4 (pwF_all _) (by decide) ?_; rw [rp.out M]; refine Hid.out ?_))
  unfold Hid
  clear rA sA qA bA rB sB qB bB rp
  generalize w6.setRow w.heap.size (rowOf 139 (refF n m Sa M)) = w7 at *
  obtain ⟨N, hN⟩ : ∃ N, n * m = N := ⟨_, rfl⟩
  have hN6 : Hid (N ≤ 1024) := by
    unfold Hid
    rw [← hN]
    exact Nat.le_trans (Nat.mul_le_mul hn64 hm16) (by decide)
  have hN0 : Hid (0 < N) := by
    unfold Hid
    rw [← hN]
    exact Nat.mul_pos (by omega) hm1
  have lp7 : w.heap.size < w7.heap.size := rC.out.lt
  have ls7 : w.heap.size + 1 < w7.heap.size := sC.out.lt
  have c5 := rf5 rC.out
  have c71 := rf71 rC.out
  rw [hN] at c71
  have nm : m ≤ m := Nat.le_refl _
  have rD := Lib.hid (rC.out.alloc (.cells #[] 94))
  have sD := Lib.hid (sC.out.alloc (.cells #[] 94))
  have bD := bC.alloc bC.size (.cells #[] 94)
  have cD := rf71 rD.out
  rw [hN] at cD
  have hF := Lib.hid (hc.out.cells.after bD)
  rw [hN] at hF
  have own0 : Hid ((w7.alloc (.cells #[] 94)).ownsRow w7.heap.size 94 2 (.slice (some ⟨w7.heap.size, 0, none⟩) 0 0) 0 []) := World.ownsRow_made w7 #[] 0 (Nat.le_refl _) (by decide) rfl
  have szD : w7.heap.size ≤ (w7.alloc (.cells #[] 94)).heap.size := by simp
  have hN66 : N ≤ 1000000 := by have := hN6.out; omega
  clear rC sC bC qC
  go_wp2_with (first | (refine wpList_append_K Try.underlying32 infoCell rfl (by decide) (by decide) rfl _ _ rfl w7.heap.size _ 0 [] rfl own0.out szD M.al N M.cl rfl (cellV m S.page) hF.out (cellV_one m S.page) (by decide) hN66 hN0.out ?_; intro v8 w8 h8 b8; refine Hid.out ?_))
  unfold Hid
  have h9 := h8.out
  rw [List.nil_append, Nat.zero_add] at h9
  obtain ⟨g, cap, G, rfl, rg, hG, hgb, hcap, hmx⟩ := own_rowOf h9 hN0.out
  have hGG : Hid (∀ j, j < N * 2 → G j = cellV m S.page j) := fun j hj => by
    have h1 := hG j hj
    rw [cellL_get _ _ _ hj] at h1
    exact (Option.some.inj h1).symm
  have r8 := Lib.hid (rD.out.below b8.out (by omega))
  have s8 := Lib.hid (sD.out.below b8.out (by omega))
  have b9 := bD.trans (b8.out.mono (by omega))
  have gp : g ≠ w.heap.size := by omega
  have gs : g ≠ w.heap.size + 1 := by omega
  clear h8 h9 hG b8 own0 hF rD sD bD cD szD c71 c5
  have rE := Lib.hid ((r8.out.set 71 (.slice (some ⟨g, 0, none⟩) (n * m) cap)).congr (ref_set (ref_L n m Sa M g cap Sa.page)))
  have sE := Lib.hid (s8.out.other 71 (.slice (some ⟨g, 0, none⟩) (n * m) cap) (p := w.heap.size) (by omega))
  have gE := Lib.hid (rg.other 71 (.slice (some ⟨g, 0, none⟩) (n * m) cap) (p := w.heap.size) gp)
  have bE := b9.setCell (p := ⟨w.heap.size, 71, none⟩) (Nat.le_refl _) (.slice (some ⟨g, 0, none⟩) (n * m) cap)
  obtain ⟨M1, hM1⟩ : ∃ M1 : Mem, M1 = { M with al := some ⟨g, 0, none⟩, cl := cap } := ⟨_, rfl⟩
  rw [← hM1] at rE
  change Hid (RowAt _ _ _ (rowOf 139 (refF n m Sa M1))) at rE
  rw [hN] at rE sE gE bE
  have c8 := rf71 r8.out
  have f8 := r8.out.free 71
  clear r8 s8 rg b9
  go_wp2_with fail
  generalize w8.setCell ⟨w.heap.size, 71, none⟩ (.slice (some ⟨g, 0, none⟩) N cap) = w9 at *
  clear c8 f8
  have hal : Hid (M1.al = some ⟨g, 0, none⟩ ∧ M1.cl = cap ∧ M1.ap = M.ap ∧ M1.cp = M.cp) := by subst hM1; exact ⟨rfl, rfl, rfl, rfl⟩
  clear hM1
  have hM0 : 0 < m := hm1
  go_loopw [11] (fun v wr => ∃ (x : Nat) (G' : Nat → Value), x ≤ m ∧ v = .int .i64 (x : Int) ∧ Hid (RowAt wr w.heap.size 36 (rowOf 139 (refF n m Sa M1))) ∧ Hid (RowAt wr (w.heap.size + 1) 36 (rowOf 139 (refF 0 0 noneS noneM))) ∧ Hid (RowAt wr g 94 (rowOf (cap * 2) G')) ∧ Hid (∀ j, j < N * 2 → G' j = cellV m (updP S.page i (clr x (S.page i))) j) ∧ Below w.heap.size w wr) (fun v _ => m - (intOf v).toNat)
  case atStart => exact ⟨0, G, Nat.zero_le _, rfl, rE, sE, gE, fun j hj => by
    rw [hGG.out j hj]
    refine cellV_congr hM0 (fun a y _ => ?_) j
    unfold updP clr
    by_cases c : a = i
    · rw [if_pos c, if_neg (by omega), c]
    · rw [if_neg c], bE⟩
  case round =>
    clear rE sE gE bE hGG
    obtain ⟨x, G', hx, rfl, rL, sL, gL, hG, bL⟩ := hrel
    have c5 := rf5 rL.out
    have c71 := rf71 rL.out
    rw [hN, hal.out.1, hal.out.2.1] at c71
    by_cases hlt : x < m
    · have lt : (x : Int) < (m : Int) := by omega
      obtain ⟨r, hr⟩ : ∃ r, r = i * m := ⟨_, rfl⟩
      obtain ⟨q, hq⟩ : ∃ q, q = r + x := ⟨_, rfl⟩
      have hqq : q = i * m + x := by rw [hq, hr]
      have hr6 : r ≤ 1024 := by
        rw [hr]
        exact Nat.le_trans (Nat.mul_le_mul (show i ≤ 64 by omega) hm16) (by decide)
      have er : (i : Int) * (m : Int) = (r : Int) := by rw [hr, Int.natCast_mul]
      have eq : (r : Int) + (x : Int) = (q : Int) := by rw [hq, Int.natCast_add]
      have hqN : q < N := by rw [← hN]; exact place_lt hi (by omega) hqq
      have hqI : (q : Int) < (N : Int) := by omega
      have x6 : x ≤ 16 := by omega
      have gN := Lib.hid (gL.out.setRow (rowOf (cap * 2) (laidV G' zeroC (q * 2) 2)))
      have rN := Lib.hid (rL.out.setRowOther g (rowOf (cap * 2) (laidV G' zeroC (q * 2) 2)) (by omega))
      have sN := Lib.hid (sL.out.setRowOther g (rowOf (cap * 2) (laidV G' zeroC (q * 2) 2)) (by omega))
      have bN := below_setRow' bL (show w.heap.size ≤ g by omega) (rowOf (cap * 2) (laidV G' zeroC (q * 2) 2))
      have hGN : Hid (∀ j, j < N * 2 → laidV G' zeroC (q * 2) 2 j = cellV m (updP S.page i (clr (x + 1) (S.page i))) j) :=
        cell_lay (s := ⟨#[]⟩) (b := false) (by omega) hqq hG.out isB_nilC (fun a y hy => by
          unfold updP clr
          by_cases c : a = i
          · rw [if_pos c, if_pos c]
            by_cases d : y = x
            · rw [if_pos (show y < x + 1 by omega), if_pos (show a = i ∧ y = x from ⟨c, d⟩)]
            · by_cases e : y < x
              · rw [if_pos (show y < x + 1 by omega), if_neg (show ¬ (a = i ∧ y = x) from fun h => d h.2), if_pos e]
              · rw [if_neg (show ¬ y < x + 1 by omega), if_neg (show ¬ (a = i ∧ y = x) from fun h => d h.2), if_neg e]
          · rw [if_neg c, if_neg c, if_neg (show ¬ (a = i ∧ y = x) from fun h => c h.1)]) rfl rfl
      have hle : q * 2 + 2 ≤ cap * 2 := by omega
      clear hr hq hqq hG rL sL bL hqN
      go_wp2_with (first | (refine wpList_buildTo rfl 94 _ rfl _ rfl (rowOf 2 zeroC) (by kernel_rfl) ?_) | (refine wpList_store_at rfl 94 _ _ rfl g (q * 2) (cap * 2) 2 G' zeroC rfl rfl 94 gL.out sz_cell (rowOf_one zeroC_one) hle ?_))
      go_roundw
      case rel => exact ⟨x + 1, _, by omega, by go_num, rN, sN, gN, hGN, bN⟩
      case measure => simp [intOf]; omega
    · have lt : ¬ (x : Int) < (m : Int) := by omega
      have ex : x = m := by omega
      rw [ex] at hG
      have cw := rfWear rL.out (i := i) (by omega)
      have fw := rL.out.free (72 + i)
      have eW : Sa.wear i = S.wear i := by subst hSa; rfl
      have eE : Sa.erases = S.erases := by subst hSa; rfl
      have hw6 : S.wear i ≤ 1000000 := lw'.out.1
      have he6 : S.erases ≤ 1000000 := lw'.out.2
      have i64 : (i : Int) < 64 := by omega
      obtain ⟨Sw, hSw⟩ : ∃ Sw : St, Sw = erS Sa i 9223372036854775807 := ⟨_, rfl⟩
      obtain ⟨S9, hS9⟩ : ∃ S9 : St, S9 = { Sw with erases := Sw.erases + 1 } := ⟨_, rfl⟩
      have eQ : Hid (erS (cntE (actS S true (S.left - 1))) i 9223372036854775807 = S9) := by subst hS9; subst hSw; subst hSa; rfl
      have rW := (rL.out.set (72 + i) (.int .i64 ((Sa.wear i + 1 : Nat) : Int))).congr (ref_set (ref_wear n m Sa M1 i (by omega) (updP Sa.page i (clr 9223372036854775807 (Sa.page i)))))
      change RowAt _ _ _ (rowOf 139 (refF n m (erS Sa i 9223372036854775807) M1)) at rW
      rw [← hSw, eW] at rW
      replace rW := Lib.hid rW
      have sW := Lib.hid (sL.out.other (72 + i) (.int .i64 ((S.wear i + 1 : Nat) : Int)) (p := w.heap.size) (by omega))
      have gW := Lib.hid (gL.out.other (72 + i) (.int .i64 ((S.wear i + 1 : Nat) : Int)) (p := w.heap.size) gp)
      have bW := bL.setCell (p := ⟨w.heap.size, 72 + i, none⟩) (Nat.le_refl _) (.int .i64 ((S.wear i + 1 : Nat) : Int))
      have eE2 : Sw.erases = S.erases := by rw [hSw]; exact eE
      have ce := rf138 rW.out
      have fe := rW.out.free 138
      rw [eE2] at ce
      have rX := (rW.out.set 138 (.int .i64 ((Sw.erases + 1 : Nat) : Int))).congr (ref_set (ref_era n m Sw M1))
      rw [← hS9, eE2] at rX
      replace rX := Lib.hid rX
      have sX := Lib.hid (sW.out.other 138 (.int .i64 ((S.erases + 1 : Nat) : Int)) (p := w.heap.size) (by omega))
      have gX := Lib.hid (gW.out.other 138 (.int .i64 ((S.erases + 1 : Nat) : Int)) (p := w.heap.size) gp)
      have bX := bW.setCell (p := ⟨w.heap.size, 138, none⟩) (Nat.le_refl _) (.int .i64 ((S.erases + 1 : Nat) : Int))
      have hP : Hid (S9.page = updP S.page i (clr 9223372036854775807 (S.page i)) ∧ S9.hist = S.hist) := by subst hS9; subst hSw; subst hSa; exact ⟨rfl, rfl⟩
      have hG9 : Hid (∀ j, j < N * 2 → G' j = cellV m S9.page j) := fun j hj => by
        rw [hG.out j hj, hP.out.1]
        refine cellV_congr hM0 (fun a y hy => ?_) j
        unfold updP clr
        by_cases c : a = i
        · rw [if_pos c, if_pos c]
          by_cases d : y < m
          · rw [if_pos d, if_pos (by omega)]
          · rw [if_neg d, if_neg (by omega)]
        · rw [if_neg c, if_neg c]
      rw [eW] at cw
      rw [show ((S.wear i + 1 : Nat) : Int) = ((S.wear i : Nat) : Int) + 1 by omega] at rW sW gW bW ce fe rX sX gX bX
      rw [show ((S.erases + 1 : Nat) : Int) = ((S.erases : Nat) : Int) + 1 by omega] at rX sX gX bX
      clear hSa hSw hS9 eW eE eE2 hG rL sL gL bL ex hlt hx c5 c71
      go_wp2_with (first | (refine wpList_load_row rfl 36 _ rfl w.heap.size rfl 36 (rowOf 139 (refF n m S9 M1)) (0, 0) _ rX.out Try.underlying36 rfl (infoChip _) ?_) | (refine wpList_store_row rfl 36 _ _ rfl (w.heap.size + 1) (rowOf 139 (refF n m S9 M1)) rfl rfl 36 (rowOf 139 (refF 0 0 noneS noneM)) sX.out (infoChip _) (by rw [rowOf_size, rowOf_size]) (refF_all _ _ _ _) ?_))
      have gY := gX.out.setRowOther (w.heap.size + 1) (rowOf 139 (refF n m S9 M1)) gs
      refine bodyPost_ret (v := .tuple #[.agg (rowOf 139 (refF n m S9 M1)), .int .i64 0]) ?_ rfl ⟨M1, by rw [eQ.out], by rw [eQ.out]; exact ⟨by rw [hal.out.1]; exact RowAt.seesV gY (by omega) (by rw [hN]; exact hG9.out), by rw [hP.out.2, hal.out.2.2.1]; exact (hc.out.past.after (below_setRow' bX (Nat.le_succ _) _)), by rw [hal.out.2.2.1, hal.out.2.2.2]; exact hc.out.nil⟩, below_setRow' bX (Nat.le_succ _) _, fun ad e => by rw [hal.out.1] at e; cases e; exact .inr ⟨by show w.heap.size ≤ g; omega, gY.lt⟩, fun ad e => .inl (by rw [← e, hal.out.2.2.1])⟩
      exact results_row_one Try.results15 _ _ (w.heap.size + 1) 36 (rowOf 139 (refF n m S9 M1)) (0, 0) _ rfl (sX.out.setRow _) Try.underlying36 rfl (infoChip _)

set_option maxHeartbeats 4000000 in
set_option maxRecDepth 8000 in
theorem refErase_part (n m : Nat) (S : St) (M : Mem) (w : World) (hc : Hid (RefC w n m S M)) (i : Nat) (hi : i < n) (hn64 : n ≤ 64) (hm1 : 1 ≤ m) (hm16 : m ≤ 16) (hu : S.up = true) (hin : (inB ((i : Nat) : Int) n && inB 0 m) = true) (hw : wornB S i = false) (hl : (S.left - 1 != 0) = false) (hh : S.left < 9223372036854775808) (lw : Hid (S.wear i ≤ 1000000 ∧ S.erases ≤ 1000000)) (hk : Hid ((S.keep : Int) < 9223372036854775808)) :
    Calls Try.prog 15 #[.agg (rowOf 139 (refF n m S M)), .int .i64 (i : Nat)] w (RefEnd n m M (erS (cntE (actS S false (S.left - 1))) i S.keep) 4 w) := by
  have b1 : Below w.heap.size w ((w.alloc (.cells (rowOf 139 (refF n m S M)) 36)).alloc (.cells (rowOf 139 (refF 0 0 noneS noneM)) 36)) := allocs_below [.cells (rowOf 139 (refF n m S M)) 36, .cells (rowOf 139 (refF 0 0 noneS noneM)) 36] w
  have r1 : Hid (RowAt ((w.alloc (.cells (rowOf 139 (refF n m S M)) 36)).alloc (.cells (rowOf 139 (refF 0 0 noneS noneM)) 36)) w.heap.size 36 (rowOf 139 (refF n m S M))) := allocs_row [.cells (rowOf 139 (refF n m S M)) 36, .cells (rowOf 139 (refF 0 0 noneS noneM)) 36] w 0 _ _ rfl
  have s1 : Hid (RowAt ((w.alloc (.cells (rowOf 139 (refF n m S M)) 36)).alloc (.cells (rowOf 139 (refF 0 0 noneS noneM)) 36)) (w.heap.size + 1) 36 (rowOf 139 (refF 0 0 noneS noneM))) := allocs_row [.cells (rowOf 139 (refF n m S M)) 36, .cells (rowOf 139 (refF 0 0 noneS noneM)) 36] w 1 _ _ rfl
  have c0 := rf0 r1.out
  rw [hu, Bool.not_true] at c0
  have I := Lib.hid (refIn_any n m S M ((w.alloc (.cells (rowOf 139 (refF n m S M)) 36)).alloc (.cells (rowOf 139 (refF 0 0 noneS noneM)) 36)) (i : Int) 0)
  rw [hin] at I
  have d1 : decide (((S.wear i : Nat) : Int) ≥ S.rated) = false := decide_eq_false (by
    intro h
    unfold wornB at hw
    rw [decide_eq_true h, Bool.or_true] at hw
    cases hw)
  have hb0 : S.bad i = false := by
    unfold wornB at hw
    cases hb : S.bad i with
    | true =>
      rw [hb] at hw
      cases hw
    | false => rfl
  have hl2 := Lib.hid hl
  have hh2 := Lib.hid hh
  have hwl := Lib.hid (wrap_one _ lw.out.1)
  have hel := Lib.hid (wrap_one _ lw.out.2)
  have lw' := lw
  clear hw hl hh lw
  go_enter Try.func15, Try.ntmps15
  go_wp2_with (first | (refine wpList_new rfl (run_allocChip rfl _) ?_; generalize (w.alloc (.cells (rowOf 139 (refF n m S M)) 36)).alloc (.cells (rowOf 139 (refF 0 0 noneS noneM)) 36) = w1 at *) | (refine wpList_load_row rfl 36 _ rfl w.heap.size rfl 36 (rowOf 139 (refF n m S M)) (0, 0) _ r1.out Try.underlying36 rfl (infoChip _) ?_))
  refine I.out.mono ?_
  rintro e w2 ⟨rfl, bi⟩
  have r2 := Lib.hid (r1.out.below bi r1.out.lt)
  have s2 := Lib.hid (s1.out.below bi s1.out.lt)
  have b2 := b1.trans (bi.mono b1.size)
  clear I r1 s1 b1 bi c0
  have c6 := rf6 r2.out
  have cb := rfBad r2.out (i := i) (by omega)
  have cw := rfWear r2.out (i := i) (by omega)
  have i64 : (i : Int) < 64 := by omega
  rw [hb0] at cb
  go_wp2_with fail
  go_quiet (fail)
  have bq : Below w2.heap.size w2 (w2.drewN nq) := ⟨rfl, rfl, rfl, Nat.le_refl _, fun _ _ => rfl⟩
  have r3 := Lib.hid (r2.out.below bq r2.out.lt)
  have s3 := Lib.hid (s2.out.below bq s2.out.lt)
  have b3 := b2.trans (bq.mono b2.size)
  clear r2 s2 b2 bq cb cw c6 d1 i64
  generalize w2.drewN nq = w3 at *
  have A := Lib.hid (refA_act S w3 hu hh2.out false hl2.out)
  go_wp2_with (first | (refine wpList_load_at rfl 30 _ rfl w.heap.size 0 rfl 36 _ _ 4 (pwF S) r3.out (fun j hj => by rw [Nat.zero_add, rowOf_get _ _ _ (by omega)]; unfold refF; rw [if_pos hj]) Try.underlying30 rfl infoPow4 ?_))
  refine A.out.mono ?_
  rintro e w4 ⟨rfl, ba⟩
  obtain ⟨Sa, hSa⟩ : ∃ Sa, actS S false (S.left - 1) = Sa := ⟨_, rfl⟩
  rw [hSa]
  have rp := Lib.hid (fun (M : Mem) => ref_act n m S M false (S.left - 1))
  rw [hSa] at rp
  have r4 := Lib.hid (r3.out.below ba r3.out.lt)
  have s4 := Lib.hid (s3.out.below ba s3.out.lt)
  have b4 := b3.trans (ba.mono b3.size)
  have lp : w.heap.size < w4.heap.size := r4.out.lt
  have ls : w.heap.size + 1 < w4.heap.size := s4.out.lt
  clear A r3 s3 b3 ba
  have rA := Lib.hid (r4.out.alloc (.cells (rowOf 4 (pwF noneS)) 30))
  have sA := Lib.hid (s4.out.alloc (.cells (rowOf 4 (pwF noneS)) 30))
  have qA := Lib.hid (RowAt.new w4 30 (rowOf 4 (pwF noneS)))
  have bA := b4.alloc b4.size (.cells (rowOf 4 (pwF noneS)) 30)
  have rB := Lib.hid (rA.out.setRowOther w4.heap.size (rowOf 4 (pwF Sa)) (by omega))
  have sB := Lib.hid (sA.out.setRowOther w4.heap.size (rowOf 4 (pwF Sa)) (by omega))
  have qB := Lib.hid (qA.out.setRow (rowOf 4 (pwF Sa)))
  have bB := below_setRow' bA (show w.heap.size ≤ w4.heap.size by omega) (rowOf 4 (pwF Sa))
  have rC := Lib.hid (rB.out.setRow (rowOf 139 (laidV (refF n m S M) (pwF Sa) 0 4)))
  have sC := Lib.hid (sB.out.setRowOther w.heap.size (rowOf 139 (laidV (refF n m S M) (pwF Sa) 0 4)) (by omega))
  have qC := Lib.hid (qB.out.setRowOther w.heap.size (rowOf 139 (laidV (refF n m S M) (pwF Sa) 0 4)) (by omega))
  have bC := below_setRow' bB (Nat.le_refl w.heap.size) (rowOf 139 (laidV (refF n m S M) (pwF Sa) 0 4))
  rw [rp.out M] at rC sC qC bC
  clear r4 s4 b4
  go_wp2_with (first | (refine wpList_new rfl (run_allocPow rfl _) ?_; generalize w4.alloc (.cells (rowOf 4 (pwF noneS)) 30) = w5 at *) | (refine wpList_store_row rfl 30 _ _ rfl w4.heap.size (rowOf 4 (pwF Sa)) rfl rfl 30 (rowOf 4 (pwF noneS)) qA.out (infoPow _) (by rw [rowOf_size, rowOf_size]) (pwF_all _) ?_; generalize w5.setRow w4.heap.size (rowOf 4 (pwF Sa)) = w6 at *) | (refine wpList_load_row rfl 30 _ rfl w4.heap.size rfl 30 (rowOf 4 (pwF Sa)) (0, 0) _ qB.out Try.underlying30 rfl (infoPow _) ?_) | (refine wpList_store_at rfl 30 _ _ rfl w.heap.size 0 139 4 (refF n m S M) (pwF Sa) rfl rfl 36 rB.out infoPow4 (pwF_all _) (by decide) ?_; rw [rp.out M]; refine Hid.out ?_))
  unfold Hid
  clear rA sA qA bA rB sB qB bB rp
  generalize w6.setRow w.heap.size (rowOf 139 (refF n m Sa M)) = w7 at *
  obtain ⟨N, hN⟩ : ∃ N, n * m = N := ⟨_, rfl⟩
  have hN6 : Hid (N ≤ 1024) := by
    unfold Hid
    rw [← hN]
    exact Nat.le_trans (Nat.mul_le_mul hn64 hm16) (by decide)
  have hN0 : Hid (0 < N) := by
    unfold Hid
    rw [← hN]
    exact Nat.mul_pos (by omega) hm1
  have lp7 : w.heap.size < w7.heap.size := rC.out.lt
  have ls7 : w.heap.size + 1 < w7.heap.size := sC.out.lt
  have c5 := rf5 rC.out
  have c71 := rf71 rC.out
  rw [hN] at c71
  have k2 := pf2 qC.out
  have eK : Sa.keep = S.keep := by subst hSa; rfl
  rw [eK] at k2
  obtain ⟨nn, hnn⟩ : ∃ nn : Nat, (S.keep : Int) < (m : Int) ∧ (nn : Int) = (S.keep : Int) ∨ (m : Int) ≤ (S.keep : Int) ∧ (nn : Int) = (m : Int) := by
    by_cases d : S.keep < m
    · exact ⟨S.keep, .inl ⟨by omega, rfl⟩⟩
    · exact ⟨m, .inr ⟨by omega, rfl⟩⟩
  have hnn' := Lib.hid hnn
  have nm : nn ≤ m := by omega
  clear hnn eK
  have rD := Lib.hid (rC.out.alloc (.cells #[] 94))
  have sD := Lib.hid (sC.out.alloc (.cells #[] 94))
  have bD := bC.alloc bC.size (.cells #[] 94)
  have cD := rf71 rD.out
  rw [hN] at cD
  have hF := Lib.hid (hc.out.cells.after bD)
  rw [hN] at hF
  have own0 : Hid ((w7.alloc (.cells #[] 94)).ownsRow w7.heap.size 94 2 (.slice (some ⟨w7.heap.size, 0, none⟩) 0 0) 0 []) := World.ownsRow_made w7 #[] 0 (Nat.le_refl _) (by decide) rfl
  have szD : w7.heap.size ≤ (w7.alloc (.cells #[] 94)).heap.size := by simp
  have hN66 : N ≤ 1000000 := by have := hN6.out; omega
  clear rC sC bC qC
  go_wp2_with (first | (refine wpList_min2 rfl _ _ rfl rfl (S.keep : Int) (m : Int) (nn : Int) rfl rfl hnn'.out ?_) | (refine wpList_append_K Try.underlying32 infoCell rfl (by decide) (by decide) rfl _ _ rfl w7.heap.size _ 0 [] rfl own0.out szD M.al N M.cl rfl (cellV m S.page) hF.out (cellV_one m S.page) (by decide) hN66 hN0.out ?_; intro v8 w8 h8 b8; refine Hid.out ?_))
  unfold Hid
  have h9 := h8.out
  rw [List.nil_append, Nat.zero_add] at h9
  obtain ⟨g, cap, G, rfl, rg, hG, hgb, hcap, hmx⟩ := own_rowOf h9 hN0.out
  have hGG : Hid (∀ j, j < N * 2 → G j = cellV m S.page j) := fun j hj => by
    have h1 := hG j hj
    rw [cellL_get _ _ _ hj] at h1
    exact (Option.some.inj h1).symm
  have r8 := Lib.hid (rD.out.below b8.out (by omega))
  have s8 := Lib.hid (sD.out.below b8.out (by omega))
  have b9 := bD.trans (b8.out.mono (by omega))
  have gp : g ≠ w.heap.size := by omega
  have gs : g ≠ w.heap.size + 1 := by omega
  clear h8 h9 hG b8 own0 hF rD sD bD cD szD c71 c5 k2
  have rE := Lib.hid ((r8.out.set 71 (.slice (some ⟨g, 0, none⟩) (n * m) cap)).congr (ref_set (ref_L n m Sa M g cap Sa.page)))
  have sE := Lib.hid (s8.out.other 71 (.slice (some ⟨g, 0, none⟩) (n * m) cap) (p := w.heap.size) (by omega))
  have gE := Lib.hid (rg.other 71 (.slice (some ⟨g, 0, none⟩) (n * m) cap) (p := w.heap.size) gp)
  have bE := b9.setCell (p := ⟨w.heap.size, 71, none⟩) (Nat.le_refl _) (.slice (some ⟨g, 0, none⟩) (n * m) cap)
  obtain ⟨M1, hM1⟩ : ∃ M1 : Mem, M1 = { M with al := some ⟨g, 0, none⟩, cl := cap } := ⟨_, rfl⟩
  rw [← hM1] at rE
  change Hid (RowAt _ _ _ (rowOf 139 (refF n m Sa M1))) at rE
  rw [hN] at rE sE gE bE
  have c8 := rf71 r8.out
  have f8 := r8.out.free 71
  clear r8 s8 rg b9
  go_wp2_with fail
  generalize w8.setCell ⟨w.heap.size, 71, none⟩ (.slice (some ⟨g, 0, none⟩) N cap) = w9 at *
  clear c8 f8
  have hal : Hid (M1.al = some ⟨g, 0, none⟩ ∧ M1.cl = cap ∧ M1.ap = M.ap ∧ M1.cp = M.cp) := by subst hM1; exact ⟨rfl, rfl, rfl, rfl⟩
  clear hM1
  have hM0 : 0 < m := hm1
  go_loopw [11] (fun v wr => ∃ (x : Nat) (G' : Nat → Value), x ≤ nn ∧ v = .int .i64 (x : Int) ∧ Hid (RowAt wr w.heap.size 36 (rowOf 139 (refF n m Sa M1))) ∧ Hid (RowAt wr (w.heap.size + 1) 36 (rowOf 139 (refF 0 0 noneS noneM))) ∧ Hid (RowAt wr g 94 (rowOf (cap * 2) G')) ∧ Hid (∀ j, j < N * 2 → G' j = cellV m (updP S.page i (clr x (S.page i))) j) ∧ Below w.heap.size w wr) (fun v _ => nn - (intOf v).toNat)
  case atStart => exact ⟨0, G, Nat.zero_le _, rfl, rE, sE, gE, fun j hj => by
    rw [hGG.out j hj]
    refine cellV_congr hM0 (fun a y _ => ?_) j
    unfold updP clr
    by_cases c : a = i
    · rw [if_pos c, if_neg (by omega), c]
    · rw [if_neg c], bE⟩
  case round =>
    clear rE sE gE bE hGG
    obtain ⟨x, G', hx, rfl, rL, sL, gL, hG, bL⟩ := hrel
    have c5 := rf5 rL.out
    have c71 := rf71 rL.out
    rw [hN, hal.out.1, hal.out.2.1] at c71
    by_cases hlt : x < nn
    · have lt : (x : Int) < (nn : Int) := by omega
      obtain ⟨r, hr⟩ : ∃ r, r = i * m := ⟨_, rfl⟩
      obtain ⟨q, hq⟩ : ∃ q, q = r + x := ⟨_, rfl⟩
      have hqq : q = i * m + x := by rw [hq, hr]
      have hr6 : r ≤ 1024 := by
        rw [hr]
        exact Nat.le_trans (Nat.mul_le_mul (show i ≤ 64 by omega) hm16) (by decide)
      have er : (i : Int) * (m : Int) = (r : Int) := by rw [hr, Int.natCast_mul]
      have eq : (r : Int) + (x : Int) = (q : Int) := by rw [hq, Int.natCast_add]
      have hqN : q < N := by rw [← hN]; exact place_lt hi (by omega) hqq
      have hqI : (q : Int) < (N : Int) := by omega
      have x6 : x ≤ 16 := by omega
      have gN := Lib.hid (gL.out.setRow (rowOf (cap * 2) (laidV G' zeroC (q * 2) 2)))
      have rN := Lib.hid (rL.out.setRowOther g (rowOf (cap * 2) (laidV G' zeroC (q * 2) 2)) (by omega))
      have sN := Lib.hid (sL.out.setRowOther g (rowOf (cap * 2) (laidV G' zeroC (q * 2) 2)) (by omega))
      have bN := below_setRow' bL (show w.heap.size ≤ g by omega) (rowOf (cap * 2) (laidV G' zeroC (q * 2) 2))
      have hGN : Hid (∀ j, j < N * 2 → laidV G' zeroC (q * 2) 2 j = cellV m (updP S.page i (clr (x + 1) (S.page i))) j) :=
        cell_lay (s := ⟨#[]⟩) (b := false) (by omega) hqq hG.out isB_nilC (fun a y hy => by
          unfold updP clr
          by_cases c : a = i
          · rw [if_pos c, if_pos c]
            by_cases d : y = x
            · rw [if_pos (show y < x + 1 by omega), if_pos (show a = i ∧ y = x from ⟨c, d⟩)]
            · by_cases e : y < x
              · rw [if_pos (show y < x + 1 by omega), if_neg (show ¬ (a = i ∧ y = x) from fun h => d h.2), if_pos e]
              · rw [if_neg (show ¬ y < x + 1 by omega), if_neg (show ¬ (a = i ∧ y = x) from fun h => d h.2), if_neg e]
          · rw [if_neg c, if_neg c, if_neg (show ¬ (a = i ∧ y = x) from fun h => c h.1)]) rfl rfl
      have hle : q * 2 + 2 ≤ cap * 2 := by omega
      clear hr hq hqq hG rL sL bL hqN
      go_wp2_with (first | (refine wpList_buildTo rfl 94 _ rfl _ rfl (rowOf 2 zeroC) (by kernel_rfl) ?_) | (refine wpList_store_at rfl 94 _ _ rfl g (q * 2) (cap * 2) 2 G' zeroC rfl rfl 94 gL.out sz_cell (rowOf_one zeroC_one) hle ?_))
      go_roundw
      case rel => exact ⟨x + 1, _, by omega, by go_num, rN, sN, gN, hGN, bN⟩
      case measure => simp [intOf]; omega
    · have lt : ¬ (x : Int) < (nn : Int) := by omega
      have ex : x = nn := by omega
      rw [ex] at hG
      have cw := rfWear rL.out (i := i) (by omega)
      have fw := rL.out.free (72 + i)
      have eW : Sa.wear i = S.wear i := by subst hSa; rfl
      have eE : Sa.erases = S.erases := by subst hSa; rfl
      have hw6 : S.wear i ≤ 1000000 := lw'.out.1
      have he6 : S.erases ≤ 1000000 := lw'.out.2
      have i64 : (i : Int) < 64 := by omega
      obtain ⟨Sw, hSw⟩ : ∃ Sw : St, Sw = erS Sa i S.keep := ⟨_, rfl⟩
      obtain ⟨S9, hS9⟩ : ∃ S9 : St, S9 = { Sw with erases := Sw.erases + 1 } := ⟨_, rfl⟩
      have eQ : Hid (erS (cntE (actS S false (S.left - 1))) i S.keep = S9) := by subst hS9; subst hSw; subst hSa; rfl
      have rW := (rL.out.set (72 + i) (.int .i64 ((Sa.wear i + 1 : Nat) : Int))).congr (ref_set (ref_wear n m Sa M1 i (by omega) (updP Sa.page i (clr S.keep (Sa.page i)))))
      change RowAt _ _ _ (rowOf 139 (refF n m (erS Sa i S.keep) M1)) at rW
      rw [← hSw, eW] at rW
      replace rW := Lib.hid rW
      have sW := Lib.hid (sL.out.other (72 + i) (.int .i64 ((S.wear i + 1 : Nat) : Int)) (p := w.heap.size) (by omega))
      have gW := Lib.hid (gL.out.other (72 + i) (.int .i64 ((S.wear i + 1 : Nat) : Int)) (p := w.heap.size) gp)
      have bW := bL.setCell (p := ⟨w.heap.size, 72 + i, none⟩) (Nat.le_refl _) (.int .i64 ((S.wear i + 1 : Nat) : Int))
      have eE2 : Sw.erases = S.erases := by rw [hSw]; exact eE
      have ce := rf138 rW.out
      have fe := rW.out.free 138
      rw [eE2] at ce
      have rX := (rW.out.set 138 (.int .i64 ((Sw.erases + 1 : Nat) : Int))).congr (ref_set (ref_era n m Sw M1))
      rw [← hS9, eE2] at rX
      replace rX := Lib.hid rX
      have sX := Lib.hid (sW.out.other 138 (.int .i64 ((S.erases + 1 : Nat) : Int)) (p := w.heap.size) (by omega))
      have gX := Lib.hid (gW.out.other 138 (.int .i64 ((S.erases + 1 : Nat) : Int)) (p := w.heap.size) gp)
      have bX := bW.setCell (p := ⟨w.heap.size, 138, none⟩) (Nat.le_refl _) (.int .i64 ((S.erases + 1 : Nat) : Int))
      have hP : Hid (S9.page = updP S.page i (clr S.keep (S.page i)) ∧ S9.hist = S.hist) := by subst hS9; subst hSw; subst hSa; exact ⟨rfl, rfl⟩
      have hG9 : Hid (∀ j, j < N * 2 → G' j = cellV m S9.page j) := fun j hj => by
        rw [hG.out j hj, hP.out.1]
        refine cellV_congr hM0 (fun a y hy => ?_) j
        unfold updP clr
        by_cases c : a = i
        · rw [if_pos c, if_pos c]
          by_cases d : y < nn
          · rw [if_pos d, if_pos (by have := hnn'.out; omega)]
          · rw [if_neg d, if_neg (by have := hnn'.out; omega)]
        · rw [if_neg c, if_neg c]
      rw [eW] at cw
      rw [show ((S.wear i + 1 : Nat) : Int) = ((S.wear i : Nat) : Int) + 1 by omega] at rW sW gW bW ce fe rX sX gX bX
      rw [show ((S.erases + 1 : Nat) : Int) = ((S.erases : Nat) : Int) + 1 by omega] at rX sX gX bX
      clear hSa hSw hS9 eW eE eE2 hG rL sL gL bL ex hlt hx c5 c71
      go_wp2_with (first | (refine wpList_load_row rfl 36 _ rfl w.heap.size rfl 36 (rowOf 139 (refF n m S9 M1)) (0, 0) _ rX.out Try.underlying36 rfl (infoChip _) ?_) | (refine wpList_store_row rfl 36 _ _ rfl (w.heap.size + 1) (rowOf 139 (refF n m S9 M1)) rfl rfl 36 (rowOf 139 (refF 0 0 noneS noneM)) sX.out (infoChip _) (by rw [rowOf_size, rowOf_size]) (refF_all _ _ _ _) ?_))
      have gY := gX.out.setRowOther (w.heap.size + 1) (rowOf 139 (refF n m S9 M1)) gs
      refine bodyPost_ret (v := .tuple #[.agg (rowOf 139 (refF n m S9 M1)), .int .i64 4]) ?_ rfl ⟨M1, by rw [eQ.out], by rw [eQ.out]; exact ⟨by rw [hal.out.1]; exact RowAt.seesV gY (by omega) (by rw [hN]; exact hG9.out), by rw [hP.out.2, hal.out.2.2.1]; exact (hc.out.past.after (below_setRow' bX (Nat.le_succ _) _)), by rw [hal.out.2.2.1, hal.out.2.2.2]; exact hc.out.nil⟩, below_setRow' bX (Nat.le_succ _) _, fun ad e => by rw [hal.out.1] at e; cases e; exact .inr ⟨by show w.heap.size ≤ g; omega, gY.lt⟩, fun ad e => .inl (by rw [← e, hal.out.2.2.1])⟩
      exact results_row_one Try.results15 _ _ (w.heap.size + 1) 36 (rowOf 139 (refF n m S9 M1)) (0, 0) _ rfl (sX.out.setRow _) Try.underlying36 rfl (infoChip _)


end Go.Proofs.Ytogeccmeaacgnaa
