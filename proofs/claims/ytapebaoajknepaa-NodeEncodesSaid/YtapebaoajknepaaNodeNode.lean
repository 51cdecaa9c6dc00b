/-
  Contracts: the reader's node and end.
-/
import Derived.Test.YtapebaoajknepaaNodeChild
namespace Go.Proofs.Ytapebaoajknepaa
open Go.RowKit
set_option linter.unusedVariables false

/-- While a node is read: the answer's block, the node's own, the reader. -/
structure NodW (w0 w : World) (rp q : Nat) (L : List UInt8) (N : Nod) : Prop where
  rd : RdAt w rp L
  r2 : RowAt w w0.heap.size 29 (rowOf 85 (nF noNod))
  r3 : RowAt w q 29 (rowOf 85 (nF N))
  ap : Apart rp w0 w
  lt : rp < w0.heap.size
  up : w0.heap.size < q
section
variable {w0 w w' : World} {rp q : Nat} {L R : List UInt8} {N : Nod}
theorem NodW.call (h : NodW w0 w rp q L N) (hr : RdAt w' rp R) (ha : Apart rp w w') : NodW w0 w' rp q R N :=
  ⟨hr, ha.row h.r2 (by have := h.lt; omega), ha.row h.r3 (by have := h.lt; have := h.up; omega), h.ap.trans ha, h.lt, h.up⟩
theorem NodW.put (h : NodW w0 w rp q L N) (i : Nat) (x : Chd) : NodW w0 (w.setRow q (rowOf 85 (laidV (nF N) (chF x) (1 + i * 21) 21))) rp q L (N.put i x) :=
  ⟨RowAt.setRowOther h.rd _ _ (by have := h.lt; have := h.up; omega), h.r2.setRowOther _ _ (by have := h.up; omega), (h.r3.setRow _).congr (nF_set N i x), h.ap.above (by have := h.up; omega) _, h.lt, h.up⟩
theorem NodW.done (h : NodW w0 w rp q L N) (ds : Array Value) : RdAt (w.setRow w0.heap.size ds) rp L ∧ RowAt (w.setRow w0.heap.size ds) w0.heap.size 29 ds ∧ Apart rp w0 (w.setRow w0.heap.size ds) :=
  ⟨RowAt.setRowOther h.rd _ _ (by have := h.lt; omega), h.r2.setRow _, h.ap.above (Nat.le_refl _) _⟩
end
theorem nF_all' (N : Nod) : (rowOf 85 (nF N)).all (·.oneCell') = true := rowOf_oneC (nF_one N)

set_option maxHeartbeats 4000000 in
set_option maxRecDepth 8000 in
theorem rdNode_any (rp : Nat) (L : List UInt8) (w : World) (h : Hid (RdAt w rp L)) :
    Calls Try.prog 35 #[.pointer (some ⟨rp, 0, none⟩)] w (RdEnd (fun N : Nod => .agg (rowOf 85 (nF N))) rp w (rdA L)) := by
  have lt := RowAt.lt h.out
  have r2 := Lib.hid (RowAt.new w 29 (rowOf 85 (nF noNod)))
  have b2 := Lib.hid ((Below.refl _ w).alloc (Nat.le_refl _) (.cells (rowOf 85 (nF noNod)) 29))
  have h2 : Hid (RdAt (w.alloc (.cells (rowOf 85 (nF noNod)) 29)) rp L) := RowAt.alloc h.out _
  have up : w.heap.size < (w.alloc (.cells (rowOf 85 (nF noNod)) 29)).heap.size := by rw [World.size_alloc]; exact Nat.lt_succ_self _
  have K := Lib.hid (rdFlag_any rp L _ h2)
  cases hh : rdB 2 L with
  | error n =>
    have hd : rdA L = .error n := by unfold rdA; rw [hh]
    rw [hh] at K
    go_enter Try.func35, Try.ntmps35
    go_wp2_with (refine wpList_new rfl (run_allocNod rfl _) ?_)
    refine K.out.mono ?_
    rintro e w2 ⟨rfl, a2⟩
    unfold Pan
    go_wp2
    exact ⟨rfl, RdEnd.err hd rfl ((Apart.of_below b2.out).trans a2)⟩
  | ok a =>
    obtain ⟨b, L1⟩ := a
    have hd : Hid (rdA L = rdU ⟨decide (b = 1), fun _ => noChd⟩ L1 4) := by unfold Hid rdA; rw [hh]
    rw [hh] at K
    have eb : Value.bool ((b : Int) == 1) = .bool (decide (b = 1)) := by
      congr 1
      rw [Bool.eq_iff_iff, beq_iff_eq, decide_eq_true_eq]
      omega
    have eb' : ((b : Int) == 1) = decide (b = 1) := Value.bool.inj eb
    clear hh
    go_enter Try.func35, Try.ntmps35
    go_wp2_with (refine wpList_new rfl (run_allocNod rfl _) ?_)
    generalize w.alloc (.cells (rowOf 85 (nF noNod)) 29) = w0 at *
    refine K.out.mono ?_
    rintro e w1 ⟨rfl, h1, a1⟩
    dsimp only
    rw [eb']
    clear eb eb'
    generalize decide (b = 1) = l at *
    have up1 := a1.size
    have T : Hid (NodW w (w1.alloc (.cells (rowOf 85 (nF ⟨l, fun _ => noChd⟩)) 29)) rp w1.heap.size L1 ⟨l, fun _ => noChd⟩) :=
      ⟨RowAt.alloc h1 _, (a1.row r2.out (by omega)).alloc _, RowAt.new _ _ _, ((Apart.of_below b2.out).trans a1).alloc _, lt, by omega⟩
    clear K h1 a1 r2 h2 b2
    go_wp2_with (first | (refine wpList_buildTo rfl 29 _ rfl _ rfl (rowOf 85 (nF ⟨l, fun _ => noChd⟩)) (by kernel_rfl) ?_) | (refine wpList_new rfl (run_allocNod rfl _) ?_) | (refine wpList_store_row rfl 29 _ _ rfl w1.heap.size (rowOf 85 (nF ⟨l, fun _ => noChd⟩)) rfl rfl 29 _ (RowAt.new _ _ _) (infoNod' _) (by simp only [rowOf_size]) (nF_all' _) ?_; rw [World.setRow_alloc_new]; refine Hid.out ?_))
    unfold Hid
    generalize w1.heap.size = q at *
    generalize w1.alloc (.cells (rowOf 85 (nF ⟨l, fun _ => noChd⟩)) 29) = w2 at *
    obtain ⟨N0, hN0⟩ : ∃ N0 : Nod, Hid ((⟨l, fun _ => noChd⟩ : Nod) = N0) := ⟨_, rfl⟩
    have hl0 : Hid (N0.l = l) := by rw [← hN0.out]; rfl
    rw [hN0.out] at hd T
    go_wp2
    go_loopw [8] (fun u wr => ∃ (i : Nat) (M : Nod) (Li : List UInt8), i ≤ 4 ∧ u = .int .i64 (i : Int) ∧ Hid (rdU N0 L1 i = .ok (M, Li)) ∧ Hid (M.l = l) ∧ Hid (NodW w wr rp q Li M)) (fun u _ => 4 - (intOf u).toNat)
    case atStart => exact ⟨0, N0, L1, by decide, rfl, rfl, hl0, T⟩
    case round =>
      clear T hl0
      obtain ⟨i, M, Li, hi, rfl, hU, hl, T⟩ := hrel
      by_cases hi4 : i < 4
      · have l0 : (i : Int) < 4 := by omega
        have c0 : wr.cell? ⟨q, 0, none⟩ = some (.bool M.l) := T.out.r3.cell 0 (by decide)
        have K := Lib.hid (rdChild_any rp M.l Li wr T.out.rd)
        cases hh : rdC M.l Li with
        | error n =>
          have hd2 := hd.out.trans (rdU_fall hi4 hU.out hh)
          rw [hh] at K
          go_wp2_with fail
          refine K.out.mono ?_
          rintro e w3 ⟨rfl, a3⟩
          unfold Pan
          go_wp2
          exact ⟨rfl, RdEnd.err hd2 rfl (T.out.ap.trans a3)⟩
        | ok a =>
          obtain ⟨c, Lj⟩ := a
          have hU2 := Lib.hid (rdU_step hU.out hh)
          rw [hh] at K
          clear hh hU
          go_wp2_with fail
          refine K.out.mono ?_
          rintro e w3 ⟨rfl, h3, a3⟩
          replace T := Lib.hid (T.out.call h3 a3)
          clear K c0 h3 a3
          have T3 := T.out.r3
          replace T := Lib.hid (T.out.put i c)
          have hl2 : Hid ((M.put i c).l = l) := hl
          go_wp2_with (refine wpList_store_at rfl 26 _ _ rfl q (1 + i * 21) 85 21 _ (chF c) rfl rfl 29 T3 infoChd (rowOf_oneC (chF_one _)) (by omega) ?_)
          go_roundw
          case rel => exact ⟨i + 1, M.put i c, Lj, by omega, by go_num, hU2, hl2, T⟩
          case measure => simp [intOf]; omega
      · have ei : i = 4 := by omega
        subst ei
        have l0 : ¬ ((4 : Nat) : Int) < 4 := by omega
        have hd2 := Lib.hid (hd.out.trans hU.out)
        have T2 := T.out.r2
        have T3 := T.out.r3
        go_wp2_with (first | (refine wpList_load_row rfl 29 _ rfl q rfl 29 _ (0, 0) _ T3 Try.underlying29 rfl (infoNod' _) ?_) | (refine wpList_store_row rfl 29 _ _ rfl w.heap.size (rowOf 85 (nF M)) rfl rfl 29 _ T2 (infoNod' _) (by simp only [rowOf_size]) (nF_all' _) ?_))
        refine bodyPost_ret (v := .agg (rowOf 85 (nF M))) ?_ rfl (RdEnd.yes (val := fun N : Nod => Value.agg (rowOf 85 (nF N))) hd2.out rfl (T.out.done _).1 (T.out.done _).2.2)
        exact results_row_solo Try.results35 _ _ w.heap.size 29 _ (0, 0) _ rfl (T.out.done _).2.1 Try.underlying29 rfl (infoNod' _)

set_option maxRecDepth 8000 in
theorem rdEnd_any (rp : Nat) (L : List UInt8) (w : World) (h : Hid (RdAt w rp L)) :
    Calls Try.prog 36 #[.pointer (some ⟨rp, 0, none⟩)] w fun e w' => e = (if L = [] then .returned (.tuple #[]) else Pan 12) ∧ w' = w := by
  cases L with
  | nil =>
    have c : w.cell? ⟨rp, 0, none⟩ = some (.string ⟨#[]⟩) := h.out.one 0 rfl
    rw [if_pos rfl]
    go_enter Try.func36, Try.ntmps36
    go_wp2
    go_end0
    exact ⟨rfl, rfl⟩
  | cons x R =>
    have c : w.cell? ⟨rp, 0, none⟩ = some (.string (bs (x :: R))) := h.out.one 0 rfl
    have d : (bs (x :: R)).toList.isEmpty = false := by
      rw [ByteArray.toList_eq]
      rfl
    rw [if_neg (by simp)]
    generalize bs (x :: R) = s at *
    go_enter Try.func36, Try.ntmps36
    go_wp2
    exact ⟨rfl, rfl, rfl⟩

end Go.Proofs.Ytapebaoajknepaa
