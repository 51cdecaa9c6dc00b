/-
  Contract: the document's Step.
-/
import Derived.Test.YtcglbbkphgdnmaaDoorShaStep
import Derived.Test.YtcglbbkphgdnmaaDoorShaWide
import Derived.Test.YtcglbbkphgdnmaaDoorCopyText
namespace Go.Proofs.YtcglbbkphgdnmaaDoor
open Go.RowKit


theorem byteL_bytes (l : List UInt8) : Bytes (byteL l) := fun j => (l.getD j 0).toNat_lt

theorem byteL_get (s : ByteArray) (j : Nat) (h : j < s.size) : ((s[j]'h).toNat : Int) = ((byteL s.data.toList j : Nat) : Int) := by
  unfold byteL
  have h' : j < s.data.toList.length := by simpa using h
  rw [List.getD_eq_getElem?_getD, List.getElem?_eq_getElem h']
  rfl

/-- The words of the first j bytes. -/
def wordsP (B : Nat → Nat) (j : Nat) : Nat → Nat := fun k => wordP B k (min 4 (j - 4 * k))

theorem wordsP_zero (B : Nat → Nat) : wordsP B 0 = zeroN := by
  funext k
  unfold wordsP
  rw [show 0 - 4 * k = 0 by omega]
  rfl

theorem wordsP_at (B : Nat → Nat) (j : Nat) : wordsP B j (j / 4) = wordP B (j / 4) (j % 4) := by
  unfold wordsP
  rw [show min 4 (j - 4 * (j / 4)) = j % 4 by omega]

theorem wordsP_step (B : Nat → Nat) (j : Nat) : upd (wordsP B j) (j / 4) (wordP B (j / 4) (j % 4) * 256 + B j) = wordsP B (j + 1) := by
  funext k
  unfold upd wordsP
  by_cases h : k = j / 4
  · subst h
    rw [if_pos rfl, show min 4 (j + 1 - 4 * (j / 4)) = j % 4 + 1 by omega, wordP, show 4 * (j / 4) + j % 4 = j by omega]
  · rw [if_neg h]
    by_cases h2 : k < j / 4
    · rw [show min 4 (j - 4 * k) = 4 by omega, show min 4 (j + 1 - 4 * k) = 4 by omega]
    · rw [show min 4 (j - 4 * k) = 0 by omega, show min 4 (j + 1 - 4 * k) = 0 by omega]

theorem wordsP_all (B : Nat → Nat) : wordsP B 64 = wordsN B := by
  funext k
  unfold wordsP wordsN
  by_cases h : k < 16
  · rw [if_pos h, show min 4 (64 - 4 * k) = 4 by omega, wordP_four]
  · rw [if_neg h, show min 4 (64 - 4 * k) = 0 by omega]
    rfl

theorem wrapU (n : Int) (h0 : 0 ≤ n) (h1 : n < 18446744073709551616) : IntKind.u64.wrap n = n := by
  simp [IntKind.wrap, IntKind.bits, IntKind.signed]
  omega

theorem ref_word (y b : Nat) (hy : y < 16777216) (hb : b < 256) (c : Int) (hc : c = (b : Int)) : IntKind.u64.wrap ((y : Int) * 256 + IntKind.u64.wrap c) = ((y * 256 + b : Nat) : Int) := by
  subst hc
  rw [wrapU (b : Int) (by omega) (by omega), wrapU _ (by omega) (by omega)]
  omega

theorem ref_next (x y z v : Nat) (hx : x < 4294967296) (hy : y < 4294967296) (hz : z < 4294967296) (hv : v < 4294967296) :
    (IntKind.u64.wrap (IntKind.u64.wrap (IntKind.u64.wrap ((z : Int) + bits .xor .u64 (bits .xor .u64 ((rotr x 7 : Nat) : Int) ((rotr x 18 : Nat) : Int)) ((x : Int) / 8)) + (v : Int)) +
      bits .xor .u64 (bits .xor .u64 ((rotr y 17 : Nat) : Int) ((rotr y 19 : Nat) : Int)) ((y : Int) / 1024))).tmod 4294967296 =
      (((z + (rotr x 7 ^^^ rotr x 18 ^^^ x / 8) + v + (rotr y 17 ^^^ rotr y 19 ^^^ y / 1024)) % 4294967296 : Nat) : Int) := by
  have a1 := rotr_lt x 7 hx (by decide)
  have a2 := rotr_lt x 18 hx (by decide)
  have a3 := rotr_lt y 17 hy (by decide)
  have a4 := rotr_lt y 19 hy (by decide)
  have b1 := xor_lt _ _ a1 a2
  have b2 := xor_lt _ _ a3 a4
  have c1 := xor_lt _ (x / 8) b1 (by omega)
  have c2 := xor_lt _ (y / 1024) b2 (by omega)
  rw [show (x : Int) / 8 = ((x / 8 : Nat) : Int) by omega, show (y : Int) / 1024 = ((y / 1024 : Nat) : Int) by omega]
  rw [bits_xor_u64_nat _ _ (by omega) (by omega), bits_xor_u64_nat _ _ (by omega) (by omega), bits_xor_u64_nat (rotr y 17) _ (by omega) (by omega), bits_xor_u64_nat _ _ (by omega) (by omega)]
  generalize rotr x 7 ^^^ rotr x 18 ^^^ x / 8 = A at *
  generalize rotr y 17 ^^^ rotr y 19 ^^^ y / 1024 = C at *
  rw [wrapU ((z : Int) + (A : Int)) (by omega) (by omega), wrapU ((z : Int) + (A : Int) + (v : Int)) (by omega) (by omega), wrapU _ (by omega) (by omega), Int.tmod_eq_emod_of_nonneg (by omega)]
  omega

theorem ref_t (s : Nat → Nat) (hs : Words s) (k v : Nat) (hk : k < 4294967296) (hv : v < 4294967296) :
    (IntKind.u64.wrap (IntKind.u64.wrap (IntKind.u64.wrap (IntKind.u64.wrap (((s 7 : Nat) : Int) + bits .xor .u64 (bits .xor .u64 ((rotr (s 4) 6 : Nat) : Int) ((rotr (s 4) 11 : Nat) : Int)) ((rotr (s 4) 25 : Nat) : Int)) +
      bits .xor .u64 (bits .and .u64 ((s 4 : Nat) : Int) ((s 5 : Nat) : Int)) (bits .and .u64 (4294967295 - ((s 4 : Nat) : Int)) ((s 6 : Nat) : Int))) + (k : Int)) + (v : Int))).tmod 4294967296 = ((tN s k v : Nat) : Int) := by
  have l4 := hs 4
  have l5 := hs 5
  have l6 := hs 6
  have l7 := hs 7
  have a1 := rotr_lt (s 4) 6 l4 (by decide)
  have a2 := rotr_lt (s 4) 11 l4 (by decide)
  have a3 := rotr_lt (s 4) 25 l4 (by decide)
  have b1 := xor_lt _ _ a1 a2
  have b2 := xor_lt _ _ b1 a3
  have c1 := and_lt (s 4) _ l5
  have c2 := and_lt (4294967295 - s 4) _ l6
  have c3 := xor_lt _ _ c1 c2
  unfold tN
  rw [show (4294967295 : Int) - ((s 4 : Nat) : Int) = ((4294967295 - s 4 : Nat) : Int) by omega]
  rw [bits_xor_u64_nat (rotr (s 4) 6) _ (by omega) (by omega), bits_xor_u64_nat _ _ (by omega) (by omega), bits_and_u64_nat (s 4) _ (by omega) (by omega), bits_and_u64_nat _ _ (by omega) (by omega), bits_xor_u64_nat _ _ (by omega) (by omega)]
  generalize rotr (s 4) 6 ^^^ rotr (s 4) 11 ^^^ rotr (s 4) 25 = A at *
  generalize (s 4 &&& s 5) ^^^ ((4294967295 - s 4) &&& s 6) = C at *
  rw [wrapU (((s 7 : Nat) : Int) + (A : Int)) (by omega) (by omega), wrapU (((s 7 : Nat) : Int) + (A : Int) + (C : Int)) (by omega) (by omega), wrapU (((s 7 : Nat) : Int) + (A : Int) + (C : Int) + (k : Int)) (by omega) (by omega), wrapU _ (by omega) (by omega), Int.tmod_eq_emod_of_nonneg (by omega)]
  omega

theorem ref_u (s : Nat → Nat) (hs : Words s) :
    (IntKind.u64.wrap (bits .xor .u64 (bits .xor .u64 ((rotr (s 0) 2 : Nat) : Int) ((rotr (s 0) 13 : Nat) : Int)) ((rotr (s 0) 22 : Nat) : Int) +
      bits .xor .u64 (bits .xor .u64 (bits .and .u64 ((s 0 : Nat) : Int) ((s 1 : Nat) : Int)) (bits .and .u64 ((s 0 : Nat) : Int) ((s 2 : Nat) : Int))) (bits .and .u64 ((s 1 : Nat) : Int) ((s 2 : Nat) : Int)))).tmod 4294967296 = ((uN s : Nat) : Int) := by
  have l0 := hs 0
  have l1 := hs 1
  have l2 := hs 2
  have a1 := rotr_lt (s 0) 2 l0 (by decide)
  have a2 := rotr_lt (s 0) 13 l0 (by decide)
  have a3 := rotr_lt (s 0) 22 l0 (by decide)
  have b1 := xor_lt _ _ a1 a2
  have b2 := xor_lt _ _ b1 a3
  have c1 := and_lt (s 0) _ l1
  have c2 := and_lt (s 0) _ l2
  have c3 := and_lt (s 1) _ l2
  have c4 := xor_lt _ _ c1 c2
  have c5 := xor_lt _ _ c4 c3
  unfold uN
  rw [bits_xor_u64_nat (rotr (s 0) 2) _ (by omega) (by omega), bits_xor_u64_nat _ _ (by omega) (by omega), bits_and_u64_nat (s 0) (s 1) (by omega) (by omega), bits_and_u64_nat (s 0) (s 2) (by omega) (by omega), bits_and_u64_nat (s 1) (s 2) (by omega) (by omega),
    bits_xor_u64_nat (s 0 &&& s 1) _ (by omega) (by omega), bits_xor_u64_nat _ _ (by omega) (by omega)]
  generalize rotr (s 0) 2 ^^^ rotr (s 0) 13 ^^^ rotr (s 0) 22 = A at *
  generalize (s 0 &&& s 1) ^^^ (s 0 &&& s 2) ^^^ (s 1 &&& s 2) = C at *
  rw [wrapU _ (by omega) (by omega), Int.tmod_eq_emod_of_nonneg (by omega)]
  omega

theorem mix_raw64 (s : Nat → Nat) (t u : Nat) : (#[.int .u64 (((t : Int) + (u : Int)) % 4294967296), .int .u64 ((s 0 : Nat) : Int), .int .u64 ((s 1 : Nat) : Int), .int .u64 ((s 2 : Nat) : Int), .int .u64 ((((s 3 : Nat) : Int) + (t : Int)) % 4294967296), .int .u64 ((s 4 : Nat) : Int), .int .u64 ((s 5 : Nat) : Int), .int .u64 ((s 6 : Nat) : Int)] : Array Value) = rowOf 8 (w64 (mixN s t u)) := by
  have e1 : ((t : Int) + (u : Int)) % 4294967296 = (((t + u) % 4294967296 : Nat) : Int) := by omega
  have e2 : (((s 3 : Nat) : Int) + (t : Int)) % 4294967296 = (((s 3 + t) % 4294967296 : Nat) : Int) := by omega
  rw [e1, e2]
  rfl

theorem three_rows (w : World) (c1 c2 c3 ds : Array Value) (t1 t2 t3 : TypeId) :
    RowAt ((((w.alloc (.cells c1 t1)).alloc (.cells c2 t2)).alloc (.cells c3 t3)).setRow (w.heap.size + 1 + 1) ds) w.heap.size t1 c1 ∧
    RowAt ((((w.alloc (.cells c1 t1)).alloc (.cells c2 t2)).alloc (.cells c3 t3)).setRow (w.heap.size + 1 + 1) ds) (w.heap.size + 1) t2 c2 ∧
    RowAt ((((w.alloc (.cells c1 t1)).alloc (.cells c2 t2)).alloc (.cells c3 t3)).setRow (w.heap.size + 1 + 1) ds) (w.heap.size + 1 + 1) t3 ds ∧
    Below w.heap.size w ((((w.alloc (.cells c1 t1)).alloc (.cells c2 t2)).alloc (.cells c3 t3)).setRow (w.heap.size + 1 + 1) ds) :=
  ⟨(((RowAt.new _ _ _).alloc _).alloc _).setRowOther _ _ (by omega), (row_new1 w _ _ _ _).setRowOther _ _ (by omega), (row_new2 w _ _ _ _).setRow _,
    below_setRow' ((((Below.refl _ _).alloc (Nat.le_refl _) _).alloc (by simp) _).alloc (by simp; omega) _) (by omega) _⟩

set_option maxHeartbeats 400000 in
set_option maxRecDepth 8000 in
theorem refStep_other (H : Nat → Nat) (s : ByteArray) (hs : s.size ≠ 64) (w : World) :
    Calls Tryd.prog 38 #[.agg (rowOf 8 (w64 H)), .string s] w fun e w' => e = .returned (.agg (rowOf 8 (w64 H))) ∧ Below w.heap.size w w' := by
  have d : ((s.size : Int) == 64) = false := by simp; omega
  have a0 : Hid (RowAt ((w.alloc (.cells (rowOf 8 (w64 H)) 73)).alloc (.cells (rowOf 8 (w64 zeroN)) 73)) w.heap.size 73 (rowOf 8 (w64 H))) := (RowAt.new _ _ _).alloc _
  have a1 : Hid (RowAt ((w.alloc (.cells (rowOf 8 (w64 H)) 73)).alloc (.cells (rowOf 8 (w64 zeroN)) 73)) (w.heap.size + 1) 73 (rowOf 8 (w64 zeroN))) := by
    have h := RowAt.new (w.alloc (.cells (rowOf 8 (w64 H)) 73)) 73 (rowOf 8 (w64 zeroN))
    rw [World.size_alloc] at h
    exact h
  have b0 : Below w.heap.size w ((w.alloc (.cells (rowOf 8 (w64 H)) 73)).alloc (.cells (rowOf 8 (w64 zeroN)) 73)) := ((Below.refl _ _).alloc (Nat.le_refl _) _).alloc (by simp) _
  rw [z64_8] at a0 a1 b0
  go_enter Tryd.func38, Tryd.ntmps38
  go_wp2_with (first | (refine wpList_load_row rfl 73 _ rfl w.heap.size rfl 73 _ (0, 0) _ a0.out Tryd.underlying73 rfl (info_d8 _) ?_) | (refine wpList_store_row rfl 73 _ _ rfl (w.heap.size + 1) (rowOf 8 (w64 H)) rfl rfl 73 _ a1.out (info_d8 _) (by rw [rowOf_size]; rfl) (rowOf_cells64 _ _) ?_))
  refine bodyPost_ret (v := .agg (rowOf 8 (w64 H))) ?_ rfl ⟨rfl, below_setRow' b0 (by omega) _⟩
  exact results_cell_row Tryd.results38 _ _ (w.heap.size + 1) 73 (rowOf 8 (w64 H)) (0, 0) _ rfl (a1.out.setRow _) Tryd.underlying73 rfl (info_d8 _)

set_option maxHeartbeats 1000000 in
set_option maxRecDepth 8000 in
theorem refStep_yes (H : Nat → Nat) (hh : Hid (Words H)) (s : ByteArray) (hs : s.size = 64) (w : World) :
    Calls Tryd.prog 38 #[.agg (rowOf 8 (w64 H)), .string s] w fun e w' => e = .returned (.agg (rowOf 8 (w64 (stepN H (byteL s.data.toList))))) ∧ Below w.heap.size w w' := by
  obtain ⟨B, eB⟩ : ∃ B, byteL s.data.toList = B := ⟨_, rfl⟩
  have hB : Hid (Bytes B) := by rw [← eB]; exact byteL_bytes _
  have hg : Hid (∀ j (h : j < s.size), ((s[j]'h).toNat : Int) = (B j : Int)) := by rw [← eB]; exact byteL_get s
  rw [eB]
  clear eB
  have E : stepN H B = finN (spreadN B 48) H := rfl
  rw [E]
  clear E
  go_enter Tryd.func38, Tryd.ntmps38
  go_wp2_with (refine wpList_store_row rfl 93 _ _ rfl (w.heap.size + 1 + 1) (rowOf 64 (w64 zeroN)) rfl rfl 93 _ (row_new2 _ _ _ _ _) (info_d64 _) (by rw [rowOf_size]; rfl) (rowOf_cells64 _ _) ?_; rw [← z64_64, ← z64_8]; have tr := Lib.hid (three_rows w (rowOf 8 (w64 H)) (rowOf 8 (w64 zeroN)) (rowOf 64 (w64 zeroN)) (rowOf 64 (w64 zeroN)) 73 73 93); generalize World.setRow _ _ _ = w1 at *)
  have r0 := Lib.hid tr.out.1
  have r1 := Lib.hid tr.out.2.1
  have r2 := Lib.hid tr.out.2.2.1
  have b0 := tr.out.2.2.2
  clear tr
  obtain ⟨p, hp⟩ : ∃ p, w.heap.size + 1 + 1 = p := ⟨_, rfl⟩
  rw [hp] at r2
  rw [hp]
  have hp2 : w.heap.size + 2 ≤ p := by omega
  clear hp
  go_loopw [6] (fun i wr => ∃ j : Nat, j ≤ 64 ∧ i = .int .i64 j ∧ Hid (RowAt wr p 93 (rowOf 64 (w64 (wordsP B j)))) ∧ Below p w1 wr)
    (fun i _ => 64 - (intOf i).toNat)
  case atStart => exact ⟨0, by omega, rfl, by rw [wordsP_zero]; exact r2, Below.refl _ _⟩
  case round =>
    obtain ⟨j, hj, rfl, hr, hbl⟩ := hrel
    by_cases hlt : j < 64
    · go_wp2
      refine wp_region_still_tail 13 (by kernel_rfl) (by kernel_rfl) ?_
      change wpStill _ _ wr.drew (fun a' => wpList _ _ _ _ a' wr.drew) _ _
      replace hr : Hid (RowAt wr.drew p 93 (rowOf 64 (w64 (wordsP B j)))) := hr
      replace hbl : Below p w1 wr.drew := hbl.drew
      generalize wr.drew = w5 at *
      have c1 := hr.out.cell (j / 4) (by omega)
      have f1 := hr.out.free (j / 4)
      unfold w64 at c1
      rw [wordsP_at] at c1
      have l1 := wordP_lt3 hB.out (j / 4) (j % 4) (Nat.mod_lt _ (by decide))
      have l2 := hB.out j
      have js : j < s.size := by omega
      have js' : (j : Int) < (s.size : Int) := by omega
      have G1 := Lib.hid (hg.out j js)
      have e3 : Hid ((rowOf 64 (w64 (wordsP B j))).setIfInBounds (j / 4) (.int .u64 ((wordP B (j / 4) (j % 4) * 256 + B j : Nat) : Int)) = rowOf 64 (w64 (wordsP B (j + 1)))) := by
        unfold Hid; rw [rowOf_upd64, wordsP_step]
      generalize wordP B (j / 4) (j % 4) = y at *
      simp only [List.take_succ_cons, List.take_zero, List.drop_succ_cons, List.drop_zero]
      refine wpStill_of_quiet _ _ ?_
      repeat (first | go_big_quiet_skip | (go_big_quiet_want; go_big_quiet_op; go_big_quiet_on))
      refine wpQuiet_nil ?_
      have EV := Lib.hid (ref_word y (B j) l1 l2 _ G1.out)
      go_wp2
      go_roundw
      case rel => exact ⟨j + 1, by omega, by go_num, by rw [EV.out]; exact (hr.out.set (j / 4) _).congr e3.out, hbl.setCell (Nat.le_refl _) _⟩
      case measure => simp [intOf]; omega
    · have : j = 64 := by omega
      subst this
      rw [wordsP_all] at hr
      clear hg r2 hs
      go_wp2
      go_loopw [7] (fun i wr => ∃ i' n : Nat, n ≤ 48 ∧ i = .int .i64 i' ∧ i' = n + 16 ∧ Hid (RowAt wr p 93 (rowOf 64 (w64 (spreadN B n)))) ∧ Below p w1 wr)
        (fun i _ => 64 - (intOf i).toNat)
      case atStart => exact ⟨16, 0, by omega, rfl, rfl, hr, hbl⟩
      case round =>
        clear hr hbl
        obtain ⟨i, n, hn, rfl, hin, hr, hbl⟩ := hrel
        by_cases hlt : i < 64
        · have e15 : (i : Int) - 15 = ((n + 1 : Nat) : Int) := by omega
          have e2 : (i : Int) - 2 = ((n + 14 : Nat) : Int) := by omega
          have e16 : (i : Int) - 16 = (n : Int) := by omega
          have e7 : (i : Int) - 7 = ((n + 9 : Nat) : Int) := by omega
          have l15 : n + 1 < 64 := by omega
          have l2 : n + 14 < 64 := by omega
          have l16 : n < 64 := by omega
          have l7 : n + 9 < 64 := by omega
          have hW := spreadN_words hB.out n
          have c15 := hr.out.cell (n + 1) l15
          have c2 := hr.out.cell (n + 14) l2
          unfold w64 at c15 c2
          have hx := hW (n + 1)
          have hy := hW (n + 14)
          have hz := hW n
          have hv := hW (n + 9)
          have E0 : Hid (nextN (spreadN B n) i = nextN (spreadN B n) i) := rfl
          unfold Hid at E0
          rw (occs := [1]) [nextN] at E0
          rw [show i - 16 = n by omega, show i - 15 = n + 1 by omega, show i - 7 = n + 9 by omega, show i - 2 = n + 14 by omega] at E0
          obtain ⟨x, gx⟩ : ∃ x, spreadN B n (n + 1) = x := ⟨_, rfl⟩
          obtain ⟨y, gy⟩ : ∃ y, spreadN B n (n + 14) = y := ⟨_, rfl⟩
          obtain ⟨z, gz⟩ : ∃ z, spreadN B n n = z := ⟨_, rfl⟩
          obtain ⟨v, gv⟩ : ∃ v, spreadN B n (n + 9) = v := ⟨_, rfl⟩
          rw [gx] at c15 hx
          rw [gy] at c2 hy
          rw [gz] at hz
          rw [gv] at hv
          rw [gx, gy, gz, gv] at E0
          replace gz := Lib.hid gz
          replace gv := Lib.hid gv
          have E1 := Lib.hid E0
          have HI := Lib.hid hin
          clear gx gy hW E0 hin
          go_wp2
          clear c15 c2
          refine wp_region_still_tail 30 (by kernel_rfl) (by kernel_rfl) ?_
          change wpStill _ _ (World.drew wr) (fun a' => wpList _ _ _ _ a' (World.drew wr)) _ _
          have hr2 : Hid (RowAt (World.drew wr) p 93 (rowOf 64 (w64 (spreadN B n)))) := hr
          have hbl2 : Below p w1 (World.drew wr) := hbl.drew
          generalize World.drew wr = w2 at *
          clear hr hbl
          have c16 := hr2.out.cell n l16
          have c7 := hr2.out.cell (n + 9) l7
          have ci := hr2.out.cell i (by omega)
          have fi := hr2.out.free i
          unfold w64 at c16 c7
          rw [gz.out] at c16
          rw [gv.out] at c7
          have K1 := Lib.hid (turn_any x 7 hx (by decide) w2)
          have K2 := Lib.hid (turn_any x 18 hx (by decide) w2)
          have K3 := Lib.hid (right_any x 3 (by omega) (by decide) w2)
          have K4 := Lib.hid (turn_any y 17 hy (by decide) w2)
          have K5 := Lib.hid (turn_any y 19 hy (by decide) w2)
          have K6 := Lib.hid (right_any y 10 (by omega) (by decide) w2)
          simp only [List.take_succ_cons, List.take_zero, List.drop_succ_cons, List.drop_zero]
          refine wpStill_of_quiet _ _ ?_
          repeat (first | go_big_quiet_skip | (go_big_quiet_want; go_big_quiet_op; go_big_quiet_on))
          (go_big_quiet_want; go_big_quiet_op; apply Exists.intro; refine ⟨K1.out, ?_⟩; go_big_quiet_on)
          repeat (first | go_big_quiet_skip | (go_big_quiet_want; go_big_quiet_op; go_big_quiet_on))
          (go_big_quiet_want; go_big_quiet_op; apply Exists.intro; refine ⟨K2.out, ?_⟩; go_big_quiet_on)
          repeat (first | go_big_quiet_skip | (go_big_quiet_want; go_big_quiet_op; go_big_quiet_on))
          (go_big_quiet_want; go_big_quiet_op; apply Exists.intro; refine ⟨K3.out, ?_⟩; go_big_quiet_on)
          repeat (first | go_big_quiet_skip | (go_big_quiet_want; go_big_quiet_op; go_big_quiet_on))
          (go_big_quiet_want; go_big_quiet_op; apply Exists.intro; refine ⟨K4.out, ?_⟩; go_big_quiet_on)
          repeat (first | go_big_quiet_skip | (go_big_quiet_want; go_big_quiet_op; go_big_quiet_on))
          (go_big_quiet_want; go_big_quiet_op; apply Exists.intro; refine ⟨K5.out, ?_⟩; go_big_quiet_on)
          repeat (first | go_big_quiet_skip | (go_big_quiet_want; go_big_quiet_op; go_big_quiet_on))
          (go_big_quiet_want; go_big_quiet_op; apply Exists.intro; refine ⟨K6.out, ?_⟩; go_big_quiet_on)
          repeat (first | go_big_quiet_skip | (go_big_quiet_want; go_big_quiet_op; go_big_quiet_on))
          refine wpQuiet_nil ?_
          clear K1 K2 K3 K4 K5 K6
          have EV := Lib.hid ((ref_next x y z v hx hy hz hv).trans (congrArg Int.ofNat E1.out))
          have e3 : Hid ((rowOf 64 (w64 (spreadN B n))).setIfInBounds i (.int .u64 ((nextN (spreadN B n) i : Nat) : Int)) = rowOf 64 (w64 (spreadN B (n + 1)))) := by
            unfold Hid; rw [rowOf_upd64]; rw [HI.out, Nat.add_comm n 16]; rfl
          go_wp2
          go_roundw
          case rel => exact ⟨i + 1, n + 1, by omega, by go_num, by rw [HI.out], by rw [EV.out]; exact (hr2.out.set i _).congr e3.out, hbl2.setCell (Nat.le_refl _) _⟩
          case measure => simp [intOf]; omega
        · have : n = 48 := by omega
          subst this
          clear hin
          have hW := Lib.hid (spreadN_words hB.out 48)
          obtain ⟨W, gW⟩ : ∃ W, spreadN B 48 = W := ⟨_, rfl⟩
          rw [gW] at hr hW
          replace gW := Lib.hid gW
          clear hB
          have hp3 : p < wr.heap.size := hr.out.lt
          replace r0 : Hid (RowAt wr w.heap.size 73 (rowOf 8 (w64 H))) := r0.out.below hbl (by omega)
          replace r1 : Hid (RowAt wr (w.heap.size + 1) 73 (rowOf 8 (w64 zeroN))) := r1.out.below hbl (by omega)
          replace b0 : Below w.heap.size w wr := b0.trans (hbl.mono (by omega))
          clear hbl
          go_wp2_with (first | (refine wpList_load_row rfl 73 _ rfl w.heap.size rfl 73 _ (0, 0) _ r0.out Tryd.underlying73 rfl (info_d8 _) ?_) | (refine wpList_store_row rfl 73 _ _ rfl wr.heap.size (rowOf 8 (w64 H)) rfl rfl 73 _ (RowAt.new _ _ _) (info_d8 _) (by rw [rowOf_size]; rfl) (rowOf_cells64 _ _) ?_; rw [World.setRow_alloc_new]))
          refine (refK_any _).mono ?_
          rintro e w6 ⟨rfl, hb6⟩
          have r3 : Hid (RowAt w6 wr.heap.size 73 (rowOf 8 (w64 H))) := (RowAt.new wr _ _).below hb6 (by simp)
          have hb7 : Below wr.heap.size wr w6 := ((Below.refl _ _).alloc (Nat.le_refl _) _).trans (hb6.mono (by simp))
          have q1 : wr.heap.size < w6.heap.size := r3.out.lt
          replace r0 : Hid (RowAt w6 w.heap.size 73 (rowOf 8 (w64 H))) := r0.out.below hb7 (by omega)
          replace r1 : Hid (RowAt w6 (w.heap.size + 1) 73 (rowOf 8 (w64 zeroN))) := r1.out.below hb7 (by omega)
          replace hr : Hid (RowAt w6 p 93 (rowOf 64 (w64 W))) := hr.out.below hb7 hp3
          replace b0 : Below w.heap.size w w6 := b0.trans (hb7.mono (by omega))
          clear hb6 hb7
          obtain ⟨q, hq⟩ : ∃ q, wr.heap.size = q := ⟨_, rfl⟩
          rw [hq] at r3 q1 hp3
          rw [hq]
          clear hq
          go_wp2_with (first | (refine wpList_store_row rfl 93 _ _ rfl w6.heap.size (rowOf 64 (w64 kN)) rfl rfl 93 _ (RowAt.new _ _ _) (info_d64 _) (by rw [rowOf_size]; rfl) (rowOf_cells64 _ _) ?_; rw [World.setRow_alloc_new]))
          have rk : Hid (RowAt (w6.alloc (.cells (rowOf 64 (w64 kN)) 93)) w6.heap.size 93 (rowOf 64 (w64 kN))) := RowAt.new _ _ _
          replace r0 := Lib.hid (r0.out.alloc (.cells (rowOf 64 (w64 kN)) 93))
          replace r1 := Lib.hid (r1.out.alloc (.cells (rowOf 64 (w64 kN)) 93))
          replace r3 := Lib.hid (r3.out.alloc (.cells (rowOf 64 (w64 kN)) 93))
          replace hr := Lib.hid (hr.out.alloc (.cells (rowOf 64 (w64 kN)) 93))
          replace b0 := b0.alloc b0.size (.cells (rowOf 64 (w64 kN)) 93)
          generalize w6.alloc (.cells (rowOf 64 (w64 kN)) 93) = w7 at *
          generalize w6.heap.size = q2 at *
          have G := Lib.hid hlt
          clear hlt
          go_loopw [12] (fun i wr => ∃ j : Nat, j ≤ 64 ∧ i = .int .i64 j ∧ Hid (RowAt wr q 73 (rowOf 8 (w64 (roundsN W H j)))) ∧ Hid (RowAt wr q2 93 (rowOf 64 (w64 kN))) ∧ Below q w7 wr)
            (fun i _ => 64 - (intOf i).toNat)
          case atStart => exact ⟨0, by omega, rfl, r3, rk, Below.refl _ _⟩
          case round =>
            clear r3 rk
            obtain ⟨j, hj, rfl, hv, hk, hbl⟩ := hrel
            by_cases hlt : j < 64
            · have hs := Lib.hid (roundsN_words (W := W) hh.out j)
              have E1 : Hid (roundsN W H (j + 1) = roundN (roundsN W H j) (kN j) (W j)) := rfl
              generalize roundsN W H j = s at *
              have h0 := hs.out 0
              have h1 := hs.out 1
              have h2 := hs.out 2
              have h3 := hs.out 3
              have h4 := hs.out 4
              have h5 := hs.out 5
              have h6 := hs.out 6
              have h7 := hs.out 7
              have hkl := kN_lt j
              have hwl := hW.out j
              have c0 := hv.out.cell 0 (by decide)
              have c4 := hv.out.cell 4 (by decide)
              unfold w64 at c0 c4
              go_wp2
              clear c0 c4
              refine wp_region_one (by kernel_rfl) (by kernel_rfl) ?_
              replace hv : Hid (RowAt wr.drew q 73 (rowOf 8 (w64 s))) := hv
              replace hk : Hid (RowAt wr.drew q2 93 (rowOf 64 (w64 kN))) := hk
              replace hbl : Below q w7 wr.drew := hbl.drew
              generalize wr.drew = w8 at *
              have c5 := hv.out.cell 5 (by decide)
              have c6 := hv.out.cell 6 (by decide)
              have c7 := hv.out.cell 7 (by decide)
              have ck := hk.out.cell j hlt
              have cw := (hr.out.below hbl hp3).cell j hlt
              unfold w64 at c5 c6 c7 ck cw
              generalize kN j = k at *
              generalize W j = wj at *
              have K1 := Lib.hid (turn_any (s 4) 6 h4 (by decide) w8)
              have K2 := Lib.hid (turn_any (s 4) 11 h4 (by decide) w8)
              have K3 := Lib.hid (turn_any (s 4) 25 h4 (by decide) w8)
              repeat (first | go_big_quiet_skip | (go_big_quiet_want; go_big_quiet_op; go_big_quiet_on))
              (go_big_quiet_want; go_big_quiet_op; apply Exists.intro; refine ⟨K1.out, ?_⟩; go_big_quiet_on)
              repeat (first | go_big_quiet_skip | (go_big_quiet_want; go_big_quiet_op; go_big_quiet_on))
              (go_big_quiet_want; go_big_quiet_op; apply Exists.intro; refine ⟨K2.out, ?_⟩; go_big_quiet_on)
              repeat (first | go_big_quiet_skip | (go_big_quiet_want; go_big_quiet_op; go_big_quiet_on))
              (go_big_quiet_want; go_big_quiet_op; apply Exists.intro; refine ⟨K3.out, ?_⟩; go_big_quiet_on)
              repeat (first | go_big_quiet_skip | (go_big_quiet_want; go_big_quiet_op; go_big_quiet_on))
              refine wpQuiet_nil ?_
              clear K1 K2 K3 c5 c6 c7 ck cw
              go_wp2
              refine wp_region_one (by kernel_rfl) (by kernel_rfl) ?_
              replace hv : Hid (RowAt w8.drew q 73 (rowOf 8 (w64 s))) := hv
              replace hk : Hid (RowAt w8.drew q2 93 (rowOf 64 (w64 kN))) := hk
              replace hbl : Below q w7 w8.drew := hbl.drew
              generalize w8.drew = w9 at *
              have c1 := hv.out.cell 1 (by decide)
              have c2 := hv.out.cell 2 (by decide)
              unfold w64 at c1 c2
              have K1 := Lib.hid (turn_any (s 0) 2 h0 (by decide) w9)
              have K2 := Lib.hid (turn_any (s 0) 13 h0 (by decide) w9)
              have K3 := Lib.hid (turn_any (s 0) 22 h0 (by decide) w9)
              repeat (first | go_big_quiet_skip | (go_big_quiet_want; go_big_quiet_op; go_big_quiet_on))
              (go_big_quiet_want; go_big_quiet_op; apply Exists.intro; refine ⟨K1.out, ?_⟩; go_big_quiet_on)
              repeat (first | go_big_quiet_skip | (go_big_quiet_want; go_big_quiet_op; go_big_quiet_on))
              (go_big_quiet_want; go_big_quiet_op; apply Exists.intro; refine ⟨K2.out, ?_⟩; go_big_quiet_on)
              repeat (first | go_big_quiet_skip | (go_big_quiet_want; go_big_quiet_op; go_big_quiet_on))
              (go_big_quiet_want; go_big_quiet_op; apply Exists.intro; refine ⟨K3.out, ?_⟩; go_big_quiet_on)
              repeat (first | go_big_quiet_skip | (go_big_quiet_want; go_big_quiet_op; go_big_quiet_on))
              refine wpQuiet_nil ?_
              clear K1 K2 K3
              rw [ref_t s hs.out k wj hkl hwl, ref_u s hs.out]
              have ht := tN_lt s k wj
              have E2 : Hid (roundsN W H (j + 1) = mixN s (tN s k wj) (uN s)) := E1
              have hu := uN_lt s
              generalize tN s k wj = t at *
              generalize uN s = u at *
              clear E1
              have c3 := hv.out.cell 3 (by decide)
              have c5 := hv.out.cell 5 (by decide)
              have c6 := hv.out.cell 6 (by decide)
              unfold w64 at c3 c5 c6
              go_wp2_with (refine wpList_store_row rfl 73 _ _ rfl q _ rfl rfl 73 _ hv.out ?hi ?hold ?h1 ?_; (case hi => kernel_rfl); (case hold => rw [rowOf_size]; rfl); (case h1 => kernel_rfl); rw [mix_raw64 s t u, ← E2.out]; have hv9 := Lib.hid (hv.out.setRow (rowOf 8 (w64 (roundsN W H (j + 1))))); have hk9 := Lib.hid (hk.out.setRowOther q (rowOf 8 (w64 (roundsN W H (j + 1)))) (by omega)); have hb9 := below_setRow' hbl (Nat.le_refl q) (rowOf 8 (w64 (roundsN W H (j + 1)))); clear hv hk hbl c1 c2 c3 c5 c6; generalize World.setRow _ _ _ = w10 at *)
              go_roundw
              case rel => exact ⟨j + 1, by omega, by go_num, hv9, hk9, hb9⟩
              case measure => simp [intOf]; omega
            · have : j = 64 := by omega
              subst this
              clear hW hk
              have X := Lib.hid (roundsN_words (W := W) hh.out 64)
              obtain ⟨x, HX⟩ : ∃ x : Nat → Nat, Hid (finN W H = fun k => (x k + H k) % 4294967296) ∧ roundsN W H 64 = x := ⟨roundsN W H 64, rfl, rfl⟩
              rw [HX.2] at hv X
              replace HX := HX.1
              go_wp2
              go_loopw [17] (fun i wr => ∃ j : Nat, j ≤ 8 ∧ i = .int .i64 j ∧ Hid (RowAt wr q 73 (rowOf 8 (w64 (part (fun k => (x k + H k) % 4294967296) x j)))) ∧ Below q w7 wr)
                (fun i _ => 8 - (intOf i).toNat)
              case atStart => exact ⟨0, by omega, rfl, by rw [part_zero]; exact hv, hbl⟩
              case round =>
                clear hv hbl
                obtain ⟨j, hj, rfl, hv, hbl⟩ := hrel
                by_cases hlt : j < 8
                · go_wp2
                  refine wp_region_still_tail 10 (by kernel_rfl) (by kernel_rfl) ?_
                  change wpStill _ _ wr.drew (fun a' => wpList _ _ _ _ a' wr.drew) _ _
                  replace hv : Hid (RowAt wr.drew q 73 (rowOf 8 (w64 (part (fun k => (x k + H k) % 4294967296) x j)))) := hv
                  replace hbl : Below q w7 wr.drew := hbl.drew
                  generalize wr.drew = w8 at *
                  have c1 := hv.out.cell j hlt
                  have f1 := hv.out.free j
                  have c2 := (r0.out.below hbl (by omega)).cell j hlt
                  unfold w64 at c1 c2
                  rw [part_above _ _ _ _ (Nat.le_refl j)] at c1
                  have l1 := X.out j
                  have l2 := hh.out j
                  have e3 : Hid ((rowOf 8 (w64 (part (fun k => (x k + H k) % 4294967296) x j))).setIfInBounds j (.int .u64 (((x j + H j) % 4294967296 : Nat) : Int)) = rowOf 8 (w64 (part (fun k => (x k + H k) % 4294967296) x (j + 1)))) := by
                    unfold Hid; rw [rowOf_upd64, ← part_upd]
                  simp only [List.take_succ_cons, List.take_zero, List.drop_succ_cons, List.drop_zero]
                  refine wpStill_of_quiet _ _ ?_
                  repeat (first | go_big_quiet_skip | (go_big_quiet_want; go_big_quiet_op; go_big_quiet_on))
                  refine wpQuiet_nil ?_
                  go_wp2
                  go_roundw
                  case rel =>
                    refine ⟨j + 1, by omega, by go_num, (hv.out.set j _).congr (Eq.trans ?_ e3.out), hbl.setCell (Nat.le_refl _) _⟩
                    congr 2
                  case measure => simp [intOf]; omega
                · have : j = 8 := by omega
                  subst this
                  have hr2 : Hid (RowAt wr q 73 (rowOf 8 (w64 (fun k => (x k + H k) % 4294967296)))) := hv.out.congr (rowOf_congr fun k hk => by unfold w64; rw [part_below _ _ _ _ hk])
                  have hq : Hid (RowAt wr (w.heap.size + 1) 73 (rowOf 8 (w64 zeroN))) := r1.out.below hbl (by omega)
                  clear hv
                  rw [← HX.out] at hr2
                  obtain ⟨y, hy⟩ : ∃ y, finN W H = y := ⟨_, rfl⟩
                  rw [hy] at hr2
                  replace hy := Lib.hid hy
                  go_wp2_with (first | (refine wpList_load_row rfl 73 _ rfl q rfl 73 _ (0, 0) _ hr2.out Tryd.underlying73 rfl (info_d8 _) ?_) | (refine wpList_store_row rfl 73 _ _ rfl (w.heap.size + 1) (rowOf 8 (w64 y)) rfl rfl 73 _ hq.out (info_d8 _) (by rw [rowOf_size, rowOf_size]) (rowOf_cells64 _ _) ?_))
                  refine bodyPost_ret (v := .agg (rowOf 8 (w64 y))) ?_ rfl ⟨by rw [gW.out, hy.out], below_setRow' (b0.trans (hbl.mono (by omega))) (by omega) _⟩
                  exact results_cell_row Tryd.results38 _ _ (w.heap.size + 1) 73 (rowOf 8 (w64 y)) (0, 0) _ rfl (hq.out.setRow _) Tryd.underlying73 rfl (info_d8 _)

end Go.Proofs.YtcglbbkphgdnmaaDoor
