/-
  The walk of NodeWith.
-/
import Derived.Test.YtapebaoajknepaaNodeShown
import Derived.Test.YtapebaoajknepaaNodeIts
import Derived.Test.YtapebaoajknepaaNodeRefDec
import Derived.Test.YtapebaoajknepaaNodeRefEnc
import Derived.Test.YtapebaoajknepaaNodeOpen
import Derived.Test.YtapebaoajknepaaAdvStep
import Derived.Test.YtapebaoajknepaaNodeWith
namespace Go.Proofs.Ytapebaoajknepaa
open Go.RowKit
set_option linter.unusedVariables false

/-- Three blocks: the node, the child, the node that is made. -/
structure WitW (w0 w : World) (q : Nat) (N : Nod) (c : Chd) (M : Nod) : Prop where
  r3 : RowAt w w0.heap.size 29 (rowOf 85 (nF N))
  r5 : RowAt w (w0.heap.size + 1) 26 (rowOf 21 (chF c))
  r8 : RowAt w q 29 (rowOf 85 (nF M))
  bl : Below w0.heap.size w0 w
  up : w0.heap.size + 1 < q
section
variable {w0 w w' : World} {q : Nat} {N M : Nod} {c : Chd}
theorem WitW.after (h : WitW w0 w q N c M) (hb : Below w.heap.size w w') : WitW w0 w' q N c M := ⟨h.r3.below hb h.r3.lt, h.r5.below hb h.r5.lt, h.r8.below hb h.r8.lt, h.bl.trans (hb.mono h.bl.size), h.up⟩
theorem WitW.set (h : WitW w0 w q N c M) (X : Nod) : WitW w0 (w.setRow q (rowOf 85 (nF X))) q N c X := ⟨h.r3.setRowOther _ _ (by have := h.up; omega), h.r5.setRowOther _ _ (by have := h.up; omega), h.r8.setRow _, below_setRow' h.bl (by have := h.up; omega) _, h.up⟩
end
def WitC (w0 : World) (q : Nat) (N : Nod) (c : Chd) (M : Nod) (g : Nat) (x : Chd) (w w' : World) : Prop := WitW w0 w' q N c M ∧ RowAt w' g 26 (rowOf 21 (chF x)) ∧ Below w.heap.size w w'
theorem run_load_part {P : Program} {w : World} {g s n : Nat} {t ty : TypeId} {cs : Array Value} {d : TypeDesc} {f : Nat → Value} (hg : RowAt w g t cs) (hc : ∀ j, j < n → cs[s + j]? = some (f j)) {o : Oper} {a : Act} {x : Operand} (ho : o.op = .load ty x) (hx : a.eval x = .pointer (some ⟨g, s, none⟩)) (hu : P.underlying ty = some d) (hd : (match d with | .struct _ | .array _ _ => true | _ => false) = true) (hi : (P.info? ty).map (·.size) = some n) :
    (execOp a.eval o).run P w = .ok (.value (.agg (rowOf n f))) w := by
  unfold execOp
  simp only [ho, hx, Instr.loadAt, Instr.sureAddr, Sem.run_bind, Sem.run_pure, Result.andThen_ok, run_loadVar_at w g s t ty cs d n f hg hc hu hd hi]
theorem mayC_none (l : Bool) : mayC noChd l = true := by cases l <;> rfl
/-- The first i children are gone. -/
def cutN (M : Nod) (i : Nat) : Nod := ⟨M.l, fun j => if j < i then noChd else M.c j⟩
theorem cutN_zero (M : Nod) : cutN M 0 = M := by
  unfold cutN
  simp
theorem cutN_put (M : Nod) (i : Nat) : (cutN M i).put i noChd = cutN M (i + 1) := by
  unfold cutN Nod.put
  congr 1
  funext j
  by_cases e : j = i
  · subst e
    rw [if_pos rfl, if_pos (by omega)]
  · rw [if_neg e]
    show (if j < i then noChd else M.c j) = _
    by_cases h : j < i
    · rw [if_pos h, if_pos (by omega)]
    · rw [if_neg h, if_neg (by omega)]
theorem cutN_may {M : Nod} (h : mayN M = true) (i : Nat) : mayN (cutN M i) = true := (mayN_iff _).2 fun j hj => by
  show mayC (if j < i then noChd else M.c j) M.l = true
  split
  · exact mayC_none _
  · exact (mayN_iff M).1 h j hj
theorem cut_with {M : Nod} (h : mayN M = true) {i : Nat} (hi : i < 4) : withV (cutN M i) (i : Int) noChd = cutN M (i + 1) ∧ withE (cutN M i) (i : Int) noChd = 0 := by
  have hB : withB (cutN M i) (i : Int) noChd = true := by
    unfold withB
    rw [Int.toNat_natCast, cutN_put, cutN_may h]
    simp
    omega
  unfold withV withE
  rw [if_pos hB, if_pos hB, Int.toNat_natCast, cutN_put]
  exact ⟨rfl, rfl⟩
theorem cutN_empty (M : Nod) : emptyN (cutN M 4) = true := (emptyN_iff _).2 fun j hj => by
  show (if j < 4 then noChd else M.c j).h = false
  rw [if_pos hj]
  rfl

set_option maxHeartbeats 4000000 in
set_option maxRecDepth 8000 in
theorem with_walk (N : Nod) (hb : ∀ i, i < 4 → BndC (N.c i)) (u : Int) (hu : (Lit.int .u8 u).wf = true) (c : Chd) (hc : BndC c) (w : World) :
    Calls Try.prog 7 #[.agg (rowOf 85 (nF N)), .int .u8 u, .agg (rowOf 21 (chF c))] w fun e w' => e = .returned (.bool true) ∧ Below w.heap.size w w' := by
  have h8 := wf_u8 hu
  obtain ⟨k, hk, hk4⟩ : ∃ k : Nat, u % 4 = (k : Int) ∧ k < 4 := ⟨(u % 4).toNat, by omega, by omega⟩
  have hkm : u.tmod 4 = (k : Int) := by rw [Int.tmod_eq_emod_of_nonneg h8.1]; exact hk
  have r3 : Hid (RowAt ((w.alloc (.cells (rowOf 85 (nF N)) 29)).alloc (.cells (rowOf 21 (chF c)) 26)) w.heap.size 29 (rowOf 85 (nF N))) := (RowAt.new _ _ _).alloc _
  have r5 : Hid (RowAt ((w.alloc (.cells (rowOf 85 (nF N)) 29)).alloc (.cells (rowOf 21 (chF c)) 26)) (w.heap.size + 1) 26 (rowOf 21 (chF c))) := by
    have := RowAt.new (w.alloc (.cells (rowOf 85 (nF N)) 29)) 26 (rowOf 21 (chF c))
    rw [World.size_alloc] at this
    exact this
  have b0 := Lib.hid (((Below.refl _ w).alloc (Nat.le_refl _) (.cells (rowOf 85 (nF N)) 29)).alloc (by simp) (.cells (rowOf 21 (chF c)) 26))
  have z0 : Hid (((w.alloc (.cells (rowOf 85 (nF N)) 29)).alloc (.cells (rowOf 21 (chF c)) 26)).heap.size = w.heap.size + 1 + 1) := by unfold Hid; simp
  have WW := Lib.hid (fun W => with_any N (k : Int) c W)
  have SH := Lib.hid (fun W => shown14_any W)
  have hB : withB N (k : Int) c = mayN (N.put k c) := by
    unfold withB
    rw [Int.toNat_natCast]
    have : (decide ((0 : Int) ≤ (k : Int)) && decide ((k : Int) < 4)) = true := by simp; omega
    rw [this, Bool.true_and]
  cases hm : mayN (N.put k c) with
  | false =>
    rw [show withV N (k : Int) c = noNod by unfold withV; rw [hB, hm]; rfl, show withE N (k : Int) c = 1 by unfold withE; rw [hB, hm]; rfl] at WW
    have SN : sameN noNod noNod = true := sameN_rfl _
    clear hB hm
    go_enter Try.func7, Try.ntmps7
    go_wp2_with (first | (refine wpList_load_row rfl 29 _ rfl w.heap.size rfl 29 _ (0, 0) _ r3.out Try.underlying29 rfl (infoNod' _) ?_) | (refine wpList_load_row rfl 26 _ rfl (w.heap.size + 1) rfl 26 _ (0, 0) _ r5.out Try.underlying26 rfl (infoChd' _) ?_))
    refine (WW.out _).mono ?_
    rintro e w1 ⟨rfl, b1⟩
    have r8 := Lib.hid (RowAt.new w1 29 (rowOf 85 (nF noNod)))
    have b2 := b0.out.trans (b1.mono b0.out.size)
    have b3 := Lib.hid (b2.alloc b2.size (.cells (rowOf 85 (nF noNod)) 29))
    clear r3 r5 b0 b1 b2 WW z0
    go_wp2_with (first | (refine wpList_new rfl (run_allocNod rfl _) ?_) | (refine wpList_store_row rfl 29 _ _ rfl w1.heap.size (rowOf 85 (nF noNod)) rfl rfl 29 _ (RowAt.new _ _ _) (infoNod' _) (by simp only [rowOf_size]) (nF_all' _) ?_; rw [World.setRow_alloc_new]) | (refine wpList_load_row rfl 29 _ rfl w1.heap.size rfl 29 _ (0, 0) _ r8.out Try.underlying29 rfl (infoNod' _) ?_) | (refine wpList_buildTo rfl 29 _ rfl _ rfl (rowOf 85 (nF noNod)) (by kernel_rfl) ?_) | (refine wpList_known rfl (run_eql_nod SN rfl rfl rfl _) ?_))
    refine (SH.out _).mono ?_
    rintro e w3 ⟨rfl, b4⟩
    go_wp2
    go_ret
    exact ⟨rfl, b3.out.trans (b4.mono b3.out.size)⟩
  | true =>
    rw [show withV N (k : Int) c = N.put k c by unfold withV; rw [hB, hm, Int.toNat_natCast]; rfl, show withE N (k : Int) c = 0 by unfold withE; rw [hB, hm]; rfl] at WW
    have hl : Hid ((N.put k c).l = N.l) := rfl
    have hput : Hid (∀ j, (N.put k c).c j = if j = k then c else N.c j) := fun j => rfl
    clear hB
    replace hm := Lib.hid hm
    generalize N.put k c = M at *
    go_enter Try.func7, Try.ntmps7
    go_wp2_with (first | (refine wpList_load_row rfl 29 _ rfl w.heap.size rfl 29 _ (0, 0) _ r3.out Try.underlying29 rfl (infoNod' _) ?_) | (refine wpList_load_row rfl 26 _ rfl (w.heap.size + 1) rfl 26 _ (0, 0) _ r5.out Try.underlying26 rfl (infoChd' _) ?_))
    refine (WW.out _).mono ?_
    rintro e w1 ⟨rfl, b1⟩
    have T : Hid (WitW w (w1.alloc (.cells (rowOf 85 (nF M)) 29)) w1.heap.size N c M) :=
      ⟨(r3.out.below b1 r3.out.lt).alloc _, (r5.out.below b1 r5.out.lt).alloc _, RowAt.new _ _ _, (b0.out.trans (b1.mono b0.out.size)).alloc (b0.out.trans (b1.mono b0.out.size)).size _, by have := b1.size; have := z0.out; omega⟩
    clear r3 r5 b0 b1 WW z0
    go_wp2_with (first | (refine wpList_new rfl (run_allocNod rfl _) ?_) | (refine wpList_store_row rfl 29 _ _ rfl w1.heap.size (rowOf 85 (nF M)) rfl rfl 29 _ (RowAt.new _ _ _) (infoNod' _) (by simp only [rowOf_size]) (nF_all' _) ?_; rw [World.setRow_alloc_new]))
    generalize w1.heap.size = q at *
    generalize w1.alloc (.cells (rowOf 85 (nF M)) 29) = w2 at *
    clear w1
    replace hk := Lib.hid hk
    replace hkm := Lib.hid hkm
    go_loopw [10] (fun v wr => ∃ i : Nat, i ≤ 4 ∧ v = .int .i64 (i : Int) ∧ Hid (WitW w wr q N c M)) (fun v _ => 4 - (intOf v).toNat)
    case atStart => exact ⟨0, by decide, rfl, T⟩
    case round =>
      clear T
      obtain ⟨i, hi, rfl, T⟩ := hrel
      by_cases hi4 : i < 4
      · have l0 : (i : Int) < 4 := by omega
        have r3 := T.out.r3
        have r5 := T.out.r5
        by_cases hik : i = k
        · have hwant : Hid (sameC (M.c i) c = true) := by unfold Hid; rw [hput.out, if_pos hik]; exact sameC_rfl _
          have e1 : ((i : Int) == (k : Int)) = true := by simp [hik]
          have e2 : decide ((i : Int) = (k : Int)) = true := by simp [hik]
          have rc := RowAt.new wr 26 (rowOf 21 (chF c))
          replace T := Lib.hid (T.out.after ((Below.refl _ wr).alloc (Nat.le_refl _) (.cells (rowOf 21 (chF c)) 26)))
          have rc0 : Hid (RowAt (wr.alloc (.cells (rowOf 21 (chF (N.c i))) 26)) (w.heap.size + 1) 26 (rowOf 21 (chF c))) := r5.alloc _
          clear hik
          go_wp2_with (first | (refine wpList_load_at rfl 26 _ rfl w.heap.size (1 + i * 21) rfl 29 _ _ 21 (chF (N.c i)) r3 (fun j hj => by rw [rowOf_get _ _ _ (by omega), nF_at _ _ _ hj]) Try.underlying26 rfl infoChd ?_) | (refine wpList_new rfl (run_allocChd rfl _) ?_) | (refine wpList_store_row rfl 26 _ _ rfl wr.heap.size (rowOf 21 (chF (N.c i))) rfl rfl 26 _ (RowAt.new _ _ _) (infoChd' _) (by simp only [rowOf_size]) (rowOf_oneC (chF_one _)) ?_; rw [World.setRow_alloc_new]) | (refine wpList_load_row rfl 26 _ rfl (w.heap.size + 1) rfl 26 _ (0, 0) _ rc0.out Try.underlying26 rfl (infoChd' _) ?_) | (refine wpList_store_row rfl 26 _ _ rfl wr.heap.size (rowOf 21 (chF c)) rfl rfl 26 _ (RowAt.new _ _ _) (infoChd' _) (by simp only [rowOf_size]) (rowOf_oneC (chF_one _)) ?_; rw [World.setRow_alloc_new]))
          generalize wr.heap.size = g at *
          generalize wr.alloc (.cells (rowOf 21 (chF c)) 26) = w3 at *
          replace rc := Lib.hid rc
          have SMm : (!sameC (M.c i) c) = false := by rw [hwant.out]; rfl
          have HC : Hid (WitC w q N c M g c w3 w3.drew) := ⟨T.out.after ((Below.refl _ _).drew), RowAt.drew rc.out, (Below.refl _ _).drew⟩
          clear T rc e1 e2
          refine wp_region_class (WitC w q N c M g c w3) (by kernel_rfl) (by kernel_rfl) HC.out ?_
          refine wpQuiet_val (by rfl) (.int .i64 (i : Int)) (fun w' hC => by go_simp) ?_
          simp only [Act.put, List.setIfInBounds_toArray, List.set_cons_succ, List.set_cons_zero]
          refine wpQuiet_val (by rfl) (.pointer (some ⟨q, 1, none⟩)) (fun w' hC => by go_simp) ?_
          simp only [Act.put, List.setIfInBounds_toArray, List.set_cons_succ, List.set_cons_zero]
          refine wpQuiet_val (by rfl) (.pointer (some ⟨q, 1 + i * 21, none⟩)) (fun w' hC => by go_simp) ?_
          simp only [Act.put, List.setIfInBounds_toArray, List.set_cons_succ, List.set_cons_zero]
          refine wpQuiet_val (by rfl) (.agg (rowOf 21 (chF (M.c i)))) (fun w' hC => run_load_part hC.1.r8 (fun j hj => by rw [rowOf_get _ _ _ (by omega), nF_at _ _ _ hj]) rfl rfl Try.underlying26 rfl infoChd) ?_
          simp only [Act.put, List.setIfInBounds_toArray, List.set_cons_succ, List.set_cons_zero]
          refine wpQuiet_load_row (by rfl) 26 _ rfl g rfl 26 _ _ (fun w' hC => hC.2.1) Try.underlying26 rfl (infoChd' _) ?_
          simp only [Act.put, List.setIfInBounds_toArray, List.set_cons_succ, List.set_cons_zero]
          refine wpQuiet_val (by rfl) (.bool false) (fun w' hC => run_neq_chd SMm rfl rfl rfl _) ?_
          simp only [Act.put, List.setIfInBounds_toArray, List.set_cons_succ, List.set_cons_zero]
          refine wpQuiet_nil ?_
          intro w4 hC
          go_wp2
          go_roundw
          case rel => exact ⟨i + 1, by omega, by go_num, hC.1⟩
          case measure => simp [intOf]; omega
        · have hwant : Hid (sameC (M.c i) (N.c i) = true) := by unfold Hid; rw [hput.out, if_neg hik]; exact sameC_rfl _
          have e1 : ((i : Int) == (k : Int)) = false := by simpa using (by omega : ¬ (i : Int) = (k : Int))
          have e2 : decide ((i : Int) = (k : Int)) = false := decide_eq_false (by omega)
          have rc := RowAt.new wr 26 (rowOf 21 (chF (N.c i)))
          replace T := Lib.hid (T.out.after ((Below.refl _ wr).alloc (Nat.le_refl _) (.cells (rowOf 21 (chF (N.c i))) 26)))
          clear hik
          go_wp2_with (first | (refine wpList_load_at rfl 26 _ rfl w.heap.size (1 + i * 21) rfl 29 _ _ 21 (chF (N.c i)) r3 (fun j hj => by rw [rowOf_get _ _ _ (by omega), nF_at _ _ _ hj]) Try.underlying26 rfl infoChd ?_) | (refine wpList_new rfl (run_allocChd rfl _) ?_) | (refine wpList_store_row rfl 26 _ _ rfl wr.heap.size (rowOf 21 (chF (N.c i))) rfl rfl 26 _ (RowAt.new _ _ _) (infoChd' _) (by simp only [rowOf_size]) (rowOf_oneC (chF_one _)) ?_; rw [World.setRow_alloc_new]))
          generalize wr.heap.size = g at *
          generalize wr.alloc (.cells (rowOf 21 (chF (N.c i))) 26) = w3 at *
          replace rc := Lib.hid rc
          have SMm : (!sameC (M.c i) (N.c i)) = false := by rw [hwant.out]; rfl
          have HC : Hid (WitC w q N c M g (N.c i) w3 w3.drew) := ⟨T.out.after ((Below.refl _ _).drew), RowAt.drew rc.out, (Below.refl _ _).drew⟩
          clear T rc e1 e2
          refine wp_region_class (WitC w q N c M g (N.c i) w3) (by kernel_rfl) (by kernel_rfl) HC.out ?_
          refine wpQuiet_val (by rfl) (.int .i64 (i : Int)) (fun w' hC => by go_simp) ?_
          simp only [Act.put, List.setIfInBounds_toArray, List.set_cons_succ, List.set_cons_zero]
          refine wpQuiet_val (by rfl) (.pointer (some ⟨q, 1, none⟩)) (fun w' hC => by go_simp) ?_
          simp only [Act.put, List.setIfInBounds_toArray, List.set_cons_succ, List.set_cons_zero]
          refine wpQuiet_val (by rfl) (.pointer (some ⟨q, 1 + i * 21, none⟩)) (fun w' hC => by go_simp) ?_
          simp only [Act.put, List.setIfInBounds_toArray, List.set_cons_succ, List.set_cons_zero]
          refine wpQuiet_val (by rfl) (.agg (rowOf 21 (chF (M.c i)))) (fun w' hC => run_load_part hC.1.r8 (fun j hj => by rw [rowOf_get _ _ _ (by omega), nF_at _ _ _ hj]) rfl rfl Try.underlying26 rfl infoChd) ?_
          simp only [Act.put, List.setIfInBounds_toArray, List.set_cons_succ, List.set_cons_zero]
          refine wpQuiet_load_row (by rfl) 26 _ rfl g rfl 26 _ _ (fun w' hC => hC.2.1) Try.underlying26 rfl (infoChd' _) ?_
          simp only [Act.put, List.setIfInBounds_toArray, List.set_cons_succ, List.set_cons_zero]
          refine wpQuiet_val (by rfl) (.bool false) (fun w' hC => run_neq_chd SMm rfl rfl rfl _) ?_
          simp only [Act.put, List.setIfInBounds_toArray, List.set_cons_succ, List.set_cons_zero]
          refine wpQuiet_nil ?_
          intro w4 hC
          go_wp2
          go_roundw
          case rel => exact ⟨i + 1, by omega, by go_num, hC.1⟩
          case measure => simp [intOf]; omega
      · have ei : i = 4 := by omega
        subst ei
        have l0 : ¬ ((4 : Nat) : Int) < 4 := by omega
        go_wp2
        have e0 := cutN_zero M
        rw [← e0] at T
        clear e0
        go_loopw [12] (fun v wr => ∃ i : Nat, i ≤ 4 ∧ v = .int .i64 (i : Int) ∧ Hid (WitW w wr q N c (cutN M i))) (fun v _ => 4 - (intOf v).toNat)
        case atStart => exact ⟨0, by decide, rfl, T⟩
        case round =>
          clear T
          obtain ⟨i, hi, rfl, T⟩ := hrel
          by_cases hi4 : i < 4
          · have l0 : (i : Int) < 4 := by omega
            obtain ⟨cv, ce⟩ := cut_with hm.out hi4
            have WW := Lib.hid (fun W => with_any (cutN M i) (i : Int) noChd W)
            rw [cv, ce] at WW
            clear cv ce
            have r8 := T.out.r8
            go_wp2_with (first | (refine wpList_load_row rfl 29 _ rfl q rfl 29 _ (0, 0) _ r8 Try.underlying29 rfl (infoNod' _) ?_) | (refine wpList_buildTo rfl 26 _ rfl _ rfl (rowOf 21 (chF noChd)) (by kernel_rfl) ?_))
            refine (WW.out _).mono ?_
            rintro e w3 ⟨rfl, b3⟩
            replace T := Lib.hid ((T.out.after b3).after ((Below.refl _ w3).alloc (Nat.le_refl _) (.cells (rowOf 85 (nF (cutN M (i + 1)))) 29)))
            have r13 := RowAt.new w3 29 (rowOf 85 (nF (cutN M (i + 1))))
            have r8' := T.out.r8
            replace T := Lib.hid (T.out.set (cutN M (i + 1)))
            clear WW b3 r8
            generalize cutN M i = M0 at *
            generalize hM1 : cutN M (i + 1) = M1 at *
            replace hM1 := Lib.hid hM1
            go_wp2_with (first | (refine wpList_new rfl (run_allocNod rfl _) ?_) | (refine wpList_store_row rfl 29 _ _ rfl w3.heap.size (rowOf 85 (nF M1)) rfl rfl 29 _ (RowAt.new _ _ _) (infoNod' _) (by simp only [rowOf_size]) (nF_all' _) ?_; rw [World.setRow_alloc_new]) | (refine wpList_load_row rfl 29 _ rfl w3.heap.size rfl 29 _ (0, 0) _ r13 Try.underlying29 rfl (infoNod' _) ?_) | (refine wpList_store_row rfl 29 _ _ rfl q (rowOf 85 (nF M1)) rfl rfl 29 _ r8' (infoNod' _) (by simp only [rowOf_size]) (nF_all' _) ?_))
            go_roundw
            case rel => exact ⟨i + 1, by omega, by go_num, by rw [hM1.out]; exact T⟩
            case measure => simp [intOf]; omega
          · have ei : i = 4 := by omega
            subst ei
            have l0 : ¬ ((4 : Nat) : Int) < 4 := by omega
            have EM := Lib.hid (fun W => empty_any (cutN M 4) W)
            rw [cutN_empty] at EM
            have hl2 : Hid ((cutN M 4).l = N.l) := hl
            have r8 := T.out.r8
            go_wp2_with (refine wpList_load_row rfl 29 _ rfl q rfl 29 _ (0, 0) _ r8 Try.underlying29 rfl (infoNod' _) ?_)
            refine (EM.out _).mono ?_
            rintro e w3 ⟨rfl, b3⟩
            replace T := Lib.hid (T.out.after b3)
            have c8 : w3.cell? ⟨q, 0, none⟩ = some (.bool N.l) := by rw [T.out.r8.cell 0 (by decide), ← hl2.out]; rfl
            have c3 : w3.cell? ⟨w.heap.size, 0, none⟩ = some (.bool N.l) := T.out.r3.cell 0 (by decide)
            generalize N.l = l at *
            clear r8 EM b3 hl hl2
            go_wp2_with fail
            refine (SH.out _).mono ?_
            rintro e w4 ⟨rfl, b4⟩
            go_wp2
            go_ret
            exact ⟨rfl, T.out.bl.trans (b4.mono T.out.bl.size)⟩

end Go.Proofs.Ytapebaoajknepaa
