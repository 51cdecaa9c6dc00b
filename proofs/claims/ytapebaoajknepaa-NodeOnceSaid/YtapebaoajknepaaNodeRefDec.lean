/-
  Contract: the document's Decode.
-/
import Derived.Test.YtapebaoajknepaaNodeRefChild
import Derived.Test.YtapebaoajknepaaNodeDec
namespace Go.Proofs.Ytapebaoajknepaa
open Go.RowKit
set_option linter.unusedVariables false

/-- Two blocks: the answer's, the node's. -/
structure DecW (w0 w : World) (q : Nat) (M : Nod) : Prop where
  r2 : RowAt w w0.heap.size 37 (rowOf 85 (nF noNod))
  r6 : RowAt w q 37 (rowOf 85 (nF M))
  bl : Below w0.heap.size w0 w
  up : w0.heap.size < q
section
variable {w0 w w' : World} {q : Nat} {M : Nod}
theorem DecW.at (h : DecW w0 w q M) {p : World → Prop} (f : ∀ w, p w) : p w := f w
theorem DecW.after (h : DecW w0 w q M) (hb : Below w.heap.size w w') : DecW w0 w' q M := ⟨h.r2.below hb h.r2.lt, h.r6.below hb h.r6.lt, h.bl.trans (hb.mono h.bl.size), h.up⟩
theorem DecW.put (h : DecW w0 w q M) (i : Nat) (x : Chd) : DecW w0 (w.setRow q (rowOf 85 (laidV (nF M) (chF x) (1 + i * 21) 21))) q (M.put i x) :=
  ⟨h.r2.setRowOther _ _ (by have := h.up; omega), (h.r6.setRow _).congr (nF_set M i x), below_setRow' h.bl (by have := h.up; omega) _, h.up⟩
theorem DecW.done (h : DecW w0 w q M) (ds : Array Value) : RowAt (w.setRow w0.heap.size ds) w0.heap.size 37 ds ∧ Below w0.heap.size w0 (w.setRow w0.heap.size ds) := ⟨h.r2.setRow _, below_setRow' h.bl (Nat.le_refl _) _⟩
end
theorem rdC_bad {l : Bool} {n : Nat} {L : List UInt8} (h : rdC l L = .error n) : n ≠ 0 := by
  unfold rdC at h
  cases e1 : rdB 2 L with
  | error m => rw [e1] at h; cases h; exact rdB_bad e1
  | ok a =>
    obtain ⟨b, L1⟩ := a
    rw [e1] at h
    simp only at h
    by_cases hb : b = 1
    · rw [if_pos hb] at h
      unfold rdS at h
      cases e2 : rdB 64 L1 with
      | error m => rw [e2] at h; cases h; exact rdB_bad e2
      | ok a =>
        obtain ⟨s, L2⟩ := a
        rw [e2] at h
        simp only at h
        unfold rdP at h
        cases e3 : rdB 16 L2 with
        | error m => rw [e3] at h; cases h; exact rdB_bad e3
        | ok a =>
          obtain ⟨p, L3⟩ := a
          rw [e3] at h
          simp only at h
          unfold rdK at h
          by_cases hk : L3.length < 16
          · rw [if_pos hk] at h
            cases h
            decide
          · rw [if_neg hk] at h
            unfold rdT at h
            cases l
            · cases h
            · simp only [if_true] at h
              cases e4 : rdN 8 (L3.drop 16) with
              | error m => rw [e4] at h; cases h; exact rdN_bad e4
              | ok a =>
                obtain ⟨x, L4⟩ := a
                rw [e4] at h
                simp only at h
                cases e5 : rdN 8 L4 with
                | error m => rw [e5] at h; cases h; exact rdN_bad e5
                | ok a => rw [e5] at h; cases h
    · rw [if_neg hb] at h
      cases h
theorem rdC_left {l : Bool} {c : Chd} {L R : List UInt8} (h : rdC l L = .ok (c, R)) : R.length ≤ L.length := by
  obtain ⟨e, _⟩ := rdC_ok h
  rw [e, List.length_append]
  omega

set_option maxHeartbeats 8000000 in
set_option maxRecDepth 8000 in
theorem refDecode_list (L : List UInt8) (hL : L.length ≤ 100000) (w : World) :
    Calls Try.prog 19 #[.string (bs L)] w fun e w' => e = .returned (.tuple #[.agg (rowOf 85 (nF (decV L))), .int .i64 (decE L : Nat)]) ∧ Below w.heap.size w w' := by
  have r2 := Lib.hid (RowAt.new w 37 (rowOf 85 (nF noNod)))
  have b0 := Lib.hid ((Below.refl _ w).alloc (Nat.le_refl _) (.cells (rowOf 85 (nF noNod)) 37))
  have K := Lib.hid (refByte_any 2 L hL (w.alloc (.cells (rowOf 85 (nF noNod)) 37)))
  cases hh : rdB 2 L with
  | error n =>
    have nz : ((n : Int) != 0) = true := by have := rdB_bad hh; simpa using this
    have hd : Hid (decV L = noNod ∧ decE L = n) := by unfold Hid decV decE decN rdA; rw [hh]; exact ⟨rfl, rfl⟩
    rw [hh] at K
    clear hh
    go_enter Try.func19, Try.ntmps19
    go_wp2_with (refine wpList_new rfl (run_allocNodRef rfl _) ?_)
    refine K.out.mono ?_
    rintro e w1 ⟨rfl, b1⟩
    dsimp only [stepV]
    have p1 := Lib.hid (r2.out.below b1 r2.out.lt)
    have b2 := Lib.hid (b0.out.trans (b1.mono b0.out.size))
    clear K r2 b0 b1
    go_wp2_with (first | (refine wpList_buildTo rfl 37 _ rfl _ rfl (rowOf 85 (nF noNod)) (by kernel_rfl) ?_) | (refine wpList_store_row rfl 37 _ _ rfl w.heap.size (rowOf 85 (nF noNod)) rfl rfl 37 (rowOf 85 (nF noNod)) p1.out (infoNodRef' _) (by simp only [rowOf_size]) (nF_all' _) ?_))
    refine bodyPost_ret (v := .tuple #[.agg (rowOf 85 (nF noNod)), .int .i64 (n : Int)]) ?_ rfl ⟨by rw [hd.out.1, hd.out.2], below_setRow' b2.out (Nat.le_refl _) _⟩
    exact results_row_one Try.results19 _ _ w.heap.size 37 (rowOf 85 (nF noNod)) (0, 0) _ rfl (p1.out.setRow _) Try.underlying37 rfl (infoNodRef' _)
  | ok a =>
    obtain ⟨b, L1⟩ := a
    have hL1 : L1.length ≤ 100000 := Nat.le_trans (rdB_left hh) hL
    have hd : Hid (∀ N0, (⟨decide (b = 1), fun _ => noChd⟩ : Nod) = N0 → decN L = match rdU N0 L1 4 with | .error e => .error e | .ok (N, L1) => if L1 = [] then .ok N else .error 12) := fun N0 h0 => by
      subst h0
      unfold decN rdA
      rw [hh]
      rfl
    rw [hh] at K
    have eb' : ((b : Int) == 1) = decide (b = 1) := by
      rw [Bool.eq_iff_iff, beq_iff_eq, decide_eq_true_eq]
      omega
    clear hh
    go_enter Try.func19, Try.ntmps19
    go_wp2_with (refine wpList_new rfl (run_allocNodRef rfl _) ?_)
    refine K.out.mono ?_
    rintro e w1 ⟨rfl, b1⟩
    dsimp only [stepV]
    obtain ⟨l, hl⟩ : ∃ l, decide (b = 1) = l := ⟨_, rfl⟩
    rw [hl] at eb' hd
    have T : Hid (DecW w (w1.alloc (.cells (rowOf 85 (nF ⟨l, fun _ => noChd⟩)) 37)) w1.heap.size ⟨l, fun _ => noChd⟩) :=
      ⟨(r2.out.below b1 r2.out.lt).alloc _, RowAt.new _ _ _, (b0.out.trans (b1.mono b0.out.size)).alloc (b0.out.trans (b1.mono b0.out.size)).size _, by have := r2.out.lt; have := b1.size; omega⟩
    clear K r2 b0 b1 hl
    go_wp2_with (first | (refine wpList_buildTo rfl 37 _ rfl _ rfl (rowOf 85 (nF ⟨l, fun _ => noChd⟩)) (by kernel_rfl) ?_) | (refine wpList_new rfl (run_allocNodRef rfl _) ?_) | (refine wpList_store_row rfl 37 _ _ rfl w1.heap.size (rowOf 85 (nF ⟨l, fun _ => noChd⟩)) rfl rfl 37 _ (RowAt.new _ _ _) (infoNodRef' _) (by simp only [rowOf_size]) (nF_all' _) ?_; rw [World.setRow_alloc_new]; refine Hid.out ?_))
    unfold Hid
    generalize w1.heap.size = q at *
    generalize w1.alloc (.cells (rowOf 85 (nF ⟨l, fun _ => noChd⟩)) 37) = w2 at *
    obtain ⟨N0, hN0⟩ : ∃ N0 : Nod, Hid ((⟨l, fun _ => noChd⟩ : Nod) = N0) := ⟨_, rfl⟩
    replace hd := Lib.hid (hd.out N0 hN0.out)
    rw [hN0.out] at T
    clear eb' w1
    go_wp2
    go_loopw [0, 7] (fun v u wr => ∃ (i : Nat) (M : Nod) (Li : List UInt8), i ≤ 4 ∧ u = .int .i64 (i : Int) ∧ v = .string (bs Li) ∧ Hid (rdU N0 L1 i = .ok (M, Li)) ∧ Hid (Li.length ≤ 100000) ∧ Hid (DecW w wr q M)) (fun _ u _ => 4 - (intOf u).toNat)
    case atStart => exact ⟨0, N0, L1, by decide, rfl, rfl, rfl, hL1, T⟩
    case round =>
      clear T hL1 hN0
      obtain ⟨i, M, Li, hi, rfl, rfl, hU, hLi, T⟩ := hrel
      by_cases hi4 : i < 4
      · have l0 : (i : Int) < 4 := by omega
        have c0 : wr.cell? ⟨q, 0, none⟩ = some (.bool M.l) := T.out.r6.cell 0 (by decide)
        have K := Lib.hid (refChild_any M.l Li hLi.out wr)
        cases hh : rdC M.l Li with
        | error n =>
          have nz : ((n : Int) != 0) = true := by have := rdC_bad hh; simpa using this
          have hdn : Hid (decV L = noNod ∧ decE L = n) := by
            unfold Hid decV decE
            rw [hd.out, rdU_fall hi4 hU.out hh]
            exact ⟨rfl, rfl⟩
          rw [hh] at K
          clear hh hU hd
          go_wp2_with fail
          refine K.out.mono ?_
          rintro e w3 ⟨rfl, b3⟩
          dsimp only [childV]
          replace T := Lib.hid ((T.out.after b3).after ((Below.refl _ w3).alloc (Nat.le_refl _) (.cells (rowOf 21 (chF noChd)) 34)))
          clear K c0 b3
          go_wp2_with (first | (refine wpList_buildTo rfl 37 _ rfl _ rfl (rowOf 85 (nF noNod)) (by kernel_rfl) ?_) | (refine wpList_new rfl (run_allocChdRef rfl _) ?_) | (refine wpList_store_row rfl 34 _ _ rfl w3.heap.size (rowOf 21 (chF noChd)) rfl rfl 34 _ (RowAt.new _ _ _) (infoChdRef' _) (by simp only [rowOf_size]) (rowOf_oneC (chF_one _)) ?_; rw [World.setRow_alloc_new]) | (refine wpList_store_row rfl 37 _ _ rfl w.heap.size (rowOf 85 (nF noNod)) rfl rfl 37 (rowOf 85 (nF noNod)) T.out.r2 (infoNodRef' _) (by simp only [rowOf_size]) (nF_all' _) ?_))
          refine bodyPost_ret (v := .tuple #[.agg (rowOf 85 (nF noNod)), .int .i64 (n : Int)]) ?_ rfl ⟨by (rw [hdn.out.1, hdn.out.2]; try rfl), (DecW.done T.out _).2⟩
          exact results_row_one Try.results19 _ _ w.heap.size 37 (rowOf 85 (nF noNod)) (0, 0) _ rfl (DecW.done T.out _).1 Try.underlying37 rfl (infoNodRef' _)
        | ok a =>
          obtain ⟨c, Lj⟩ := a
          have hU2 := Lib.hid (rdU_step hU.out hh)
          have hLj : Hid (Lj.length ≤ 100000) := Nat.le_trans (rdC_left hh) hLi.out
          rw [hh] at K
          clear hh hU
          go_wp2_with fail
          refine K.out.mono ?_
          rintro e w3 ⟨rfl, b3⟩
          dsimp only [childV]
          have rc := Lib.hid (RowAt.new w3 34 (rowOf 21 (chF c)))
          replace T := Lib.hid ((T.out.after b3).after ((Below.refl _ w3).alloc (Nat.le_refl _) (.cells (rowOf 21 (chF c)) 34)))
          clear K c0 b3
          have T6 := T.out.r6
          replace T := Lib.hid (T.out.put i c)
          go_wp2_with (first | (refine wpList_new rfl (run_allocChdRef rfl _) ?_) | (refine wpList_store_row rfl 34 _ _ rfl w3.heap.size (rowOf 21 (chF c)) rfl rfl 34 _ (RowAt.new _ _ _) (infoChdRef' _) (by simp only [rowOf_size]) (rowOf_oneC (chF_one _)) ?_; rw [World.setRow_alloc_new]) | (refine wpList_load_row rfl 34 _ rfl w3.heap.size rfl 34 _ (0, 0) _ rc.out Try.underlying34 rfl (infoChdRef' _) ?_) | (refine wpList_store_at rfl 34 _ _ rfl q (1 + i * 21) 85 21 _ (chF c) rfl rfl 37 T6 infoChdRef (rowOf_oneC (chF_one _)) (by omega) ?_))
          go_roundw
          case rel => exact ⟨i + 1, M.put i c, Lj, by omega, by go_num, rfl, hU2, hLj, T⟩
          case measure => simp [intOf]; omega
      · have ei : i = 4 := by omega
        subst ei
        have l0 : ¬ ((4 : Nat) : Int) < 4 := by omega
        by_cases hR : Li = []
        · have hdn : Hid (decV L = M ∧ decE L = 0) := by
            unfold Hid decV decE
            rw [hd.out, hU.out]
            simp only [if_pos hR]
            exact ⟨trivial, trivial⟩
          have z : ((bs Li).size : Int) = 0 := by rw [bs_size, hR]; rfl
          have z2 : (bs Li).size = 0 := by omega
          clear hd hU hR
          have T6 := T.out.r6
          go_wp2_with (first | (refine wpList_load_row rfl 37 _ rfl q rfl 37 _ (0, 0) _ T6 Try.underlying37 rfl (infoNodRef' _) ?_) | (refine wpList_store_row rfl 37 _ _ rfl w.heap.size (rowOf 85 (nF M)) rfl rfl 37 (rowOf 85 (nF noNod)) T.out.r2 (infoNodRef' _) (by simp only [rowOf_size]) (nF_all' _) ?_))
          refine bodyPost_ret (v := .tuple #[.agg (rowOf 85 (nF M)), .int .i64 0]) ?_ rfl ⟨by (rw [hdn.out.1, hdn.out.2]; try rfl), (DecW.done T.out _).2⟩
          exact results_row_one Try.results19 _ _ w.heap.size 37 (rowOf 85 (nF M)) (0, 0) _ rfl (DecW.done T.out _).1 Try.underlying37 rfl (infoNodRef' _)
        · have hdn : Hid (decV L = noNod ∧ decE L = 12) := by
            unfold Hid decV decE
            rw [hd.out, hU.out]
            simp only [if_neg hR]
            exact ⟨trivial, trivial⟩
          have z : 0 < (bs Li).size := by rw [bs_size]; exact List.length_pos_iff.2 hR
          have z2 : (0 : Int) < ((bs Li).size : Int) := by omega
          clear hd hU hR
          go_wp2_with (first | (refine wpList_buildTo rfl 37 _ rfl _ rfl (rowOf 85 (nF noNod)) (by kernel_rfl) ?_) | (refine wpList_store_row rfl 37 _ _ rfl w.heap.size (rowOf 85 (nF noNod)) rfl rfl 37 (rowOf 85 (nF noNod)) T.out.r2 (infoNodRef' _) (by simp only [rowOf_size]) (nF_all' _) ?_))
          refine bodyPost_ret (v := .tuple #[.agg (rowOf 85 (nF noNod)), .int .i64 12]) ?_ rfl ⟨by (rw [hdn.out.1, hdn.out.2]; try rfl), (DecW.done T.out _).2⟩
          exact results_row_one Try.results19 _ _ w.heap.size 37 (rowOf 85 (nF noNod)) (0, 0) _ rfl (DecW.done T.out _).1 Try.underlying37 rfl (infoNodRef' _)
theorem refDecode_any (s : ByteArray) (hs : s.size ≤ 100000) (w : World) :
    Calls Try.prog 19 #[.string s] w fun e w' => e = .returned (.tuple #[.agg (rowOf 85 (nF (decV s.data.toList))), .int .i64 (decE s.data.toList : Nat)]) ∧ Below w.heap.size w w' := by
  have := refDecode_list s.data.toList (by rw [ba_size]; exact hs) w
  rwa [bs_data] at this

end Go.Proofs.Ytapebaoajknepaa
