/-
  Contracts: the document's mixed, Short, Mac.
-/
import Derived.Test.YtedmdojmgccclaaDoorMac
namespace Go.Proofs.YtedmdojmgccclaaDoor
open Go.RowKit

theorem ofNat_bv (n : Nat) (h : n < 256) : Value.int .u8 ((n : Nat) : Int) = bv (UInt8.ofNat n) := by
  unfold bv
  rw [UInt8.toNat_ofNat', Nat.mod_eq_of_lt h]

theorem news_one (w : World) (x : Value) (t : TypeId) : ∀ j u, [x][j]? = some u → (w.alloc (.cells #[x] t)).cell? ((⟨w.heap.size, 0, none⟩ : Addr).add j) = some u := by
  intro j u hj
  match j, hj with
  | 0, hj => simp at hj; subst hj; simp [Addr.add]
theorem one_byte (n : Int) : ∀ u ∈ [Value.int .u8 n], u.oneCell' = true := by
  intro u hu
  simp at hu
  subst hu
  rfl

set_option maxHeartbeats 400000 in
set_option maxRecDepth 8000 in
theorem refMixed_any (key : ByteArray) (c : Nat) (hc : c < 256) (w : World) :
    Calls Tryd.prog 37 #[.string key, .int .u8 (c : Int)] w fun e w' => e = .returned (.string (bs (mixL (byteL key.data.toList) c))) ∧ Below w.heap.size w w' := by
  obtain ⟨i0, hi, hz0, hz1, hz2⟩ := info_parts Tryd.info5
  have hB := Lib.hid (byteL_bytes key.data.toList)
  obtain ⟨f, hf⟩ : ∃ f, xorN (byteL key.data.toList) c = f := ⟨_, rfl⟩
  have hfb : Hid (Bytes f) := by rw [← hf]; exact xorN_bytes hB.out hc
  have E : Hid (mixL (byteL key.data.toList) c = listB 64 f) := by unfold Hid mixL; rw [hf]
  have HF := Lib.hid hf
  clear hf
  have hL : key.data.toList.length = key.size := by simp
  have HL := Lib.hid hL
  clear hL
  go_enter Tryd.func37, Tryd.ntmps37
  go_wp2
  go_loopw [5, 6] (fun v i wr => ∃ j : Nat, j ≤ 64 ∧ i = .int .i64 j ∧ wr.ownsRow w.heap.size 5 1 v j ((listB j f).map bv) ∧ Below w.heap.size w wr)
    (fun _ i _ => 64 - (intOf i).toNat)
  case atStart => exact ⟨0, by omega, rfl, World.ownsRow_made _ _ _ (Nat.le_refl _) (by unfold maxLen; omega) (by simp), (Below.refl _ _).alloc (Nat.le_refl _) _⟩
  case round =>
    obtain ⟨j, hj, rfl, hown, hbl⟩ := hrel
    have hsz := hbl.size
    by_cases hlt : j < 64
    · have hfj := hfb.out j
      by_cases hk : j < key.size
      · have hkI : (j : Int) < (key.size : Int) := by omega
        have e1 : Hid (bits .xor .u8 ((key[j]'hk).toNat : Int) (c : Int) = ((f j : Nat) : Int)) := by
          unfold Hid
          rw [byteL_get key j hk, u8_xor_nat _ _ (hB.out j) hc, ← HF.out]
          rfl
        go_wp2_with (at_builtin; refine wpList_append_own _ rfl _ _ 54 rfl w.heap.size 5 i0 (.int .u8 0) 1 1 Tryd.underlying54 hi hz0 hz1 hz2 rfl (by decide) _ _ _ rfl (hown.alloc _) ⟨wr.heap.size, 0, none⟩ 1 1 [.int .u8 (bits .xor .u8 ((key[j]'hk).toNat : Int) (c : Int))] rfl rfl (news_one _ _ _) (one_byte _) (by unfold maxLen; omega) (by omega) (by simp; omega) ?_)
        · intro v' w1 hown' hgrow _
          have hown2 : w1.ownsRow w.heap.size 5 1 v' (j + 1) ((listB (j + 1) f).map bv) := by
            rw [listB_succ, List.map_append, List.map_singleton, ← ofNat_bv _ hfj, ← e1.out]
            exact hown'
          have hbl2 : Below w.heap.size w w1 := (hbl.alloc (by omega) _).grown hgrow (by simp; omega) (fun g hg => (hown.lt g hg).1)
          clear hown' hgrow hown hbl
          go_wp2
          go_roundw
          case rel => exact ⟨j + 1, by omega, by go_num, hown2, hbl2⟩
          case measure => simp [intOf]; omega
      · have hkI : ¬ (j : Int) < (key.size : Int) := by omega
        have e1 : Hid (f j = c) := by
          unfold Hid
          rw [← HF.out]
          unfold xorN
          rw [byteL_none _ _ (by rw [HL.out]; omega), Nat.zero_xor]
        have dk : decide (j < key.size) = false := decide_eq_false hk
        go_wp2_with (at_builtin; refine wpList_append_own _ rfl _ _ 54 rfl w.heap.size 5 i0 (.int .u8 0) 1 1 Tryd.underlying54 hi hz0 hz1 hz2 rfl (by decide) _ _ _ rfl (hown.alloc _) ⟨wr.heap.size, 0, none⟩ 1 1 [.int .u8 (c : Int)] rfl rfl (news_one _ _ _) (one_byte _) (by unfold maxLen; omega) (by omega) (by simp; omega) ?_)
        · intro v' w1 hown' hgrow _
          have hown2 : w1.ownsRow w.heap.size 5 1 v' (j + 1) ((listB (j + 1) f).map bv) := by
            rw [listB_succ, List.map_append, List.map_singleton, ← ofNat_bv _ hfj, e1.out]
            exact hown'
          have hbl2 : Below w.heap.size w w1 := (hbl.alloc (by omega) _).grown hgrow (by simp; omega) (fun g hg => (hown.lt g hg).1)
          clear hown' hgrow hown hbl
          go_wp2
          go_roundw
          case rel => exact ⟨j + 1, by omega, by go_num, hown2, hbl2⟩
          case measure => simp [intOf]; omega
    · have : j = 64 := by omega
      subst this
      have hcv := own_string (P := Tryd.prog) (src := 54) (dst := 9) (listB 64 f) Tryd.underlying54 Tryd.underlying5 Tryd.underlying9 hown
      go_wp2
      go_ret
      exact ⟨by rw [E.out]; rfl, hbl⟩

set_option maxHeartbeats 400000 in
set_option maxRecDepth 8000 in
theorem refShort_any (f : Nat → Nat) (w : World) :
    Calls Tryd.prog 27 #[.agg (rowOf 32 (w8 f))] w fun e w' => e = .returned (.agg (rowOf 16 (w8 f))) ∧ Below w.heap.size w w' := by
  go_enter Tryd.func27, Tryd.ntmps27
  go_wp2_with (refine wpList_store_row rfl 27 _ _ rfl (w.heap.size + 1 + 1) (rowOf 16 (w8 zeroN)) rfl rfl 27 _ (row_new2 w _ _ _ _) (info_key _) (by rw [rowOf_size]; rfl) (rowOf_cells8 _ _) ?_)
  rw [← z8_16]
  obtain ⟨w1, hw1⟩ : ∃ w1, World.setRow (((w.alloc (.cells (rowOf 32 (w8 f)) 59)).alloc (.cells (rowOf 16 (w8 zeroN)) 27)).alloc (.cells (rowOf 16 (w8 zeroN)) 27)) (w.heap.size + 1 + 1) (rowOf 16 (w8 zeroN)) = w1 := ⟨_, rfl⟩
  have tr := Lib.hid (three_rows w (rowOf 32 (w8 f)) (rowOf 16 (w8 zeroN)) (rowOf 16 (w8 zeroN)) (rowOf 16 (w8 zeroN)) 59 27 27)
  rw [hw1] at tr
  rw [hw1]
  clear hw1
  obtain ⟨r0', r1', r2', b0⟩ := tr.out
  have r0 := Lib.hid r0'
  have r1 := Lib.hid r1'
  have r2 := Lib.hid r2'
  clear r0' r1' r2' tr
  go_loopw [4] (fun i wr => ∃ j : Nat, j ≤ 16 ∧ i = .int .i64 j ∧ Hid (RowAt wr (w.heap.size + 1 + 1) 27 (rowOf 16 (w8 (part f zeroN j)))) ∧ Below (w.heap.size + 1 + 1) w1 wr)
    (fun i _ => 16 - (intOf i).toNat)
  case atStart => exact ⟨0, by omega, rfl, by rw [part_zero]; exact r2, Below.refl _ _⟩
  case round =>
    obtain ⟨j, hj, rfl, hr, hbl⟩ := hrel
    by_cases hlt : j < 16
    · have c0 := (r0.out.below hbl (by omega)).cell j (by omega)
      have c2 := hr.out.cell j hlt
      have f2 := hr.out.free j
      unfold w8 at c0
      have e3 : Hid ((rowOf 16 (w8 (part f zeroN j))).setIfInBounds j (.int .u8 ((f j : Nat) : Int)) = rowOf 16 (w8 (part f zeroN (j + 1)))) := by
        unfold Hid; rw [rowOf_upd8, part_upd]
      go_wp2
      go_roundw
      case rel => exact ⟨j + 1, by omega, by go_num, (hr.out.set j _).congr e3.out, hbl.setCell (Nat.le_refl _) _⟩
      case measure => simp [intOf]; omega
    · have : j = 16 := by omega
      subst this
      have hr2 : Hid (RowAt wr (w.heap.size + 1 + 1) 27 (rowOf 16 (w8 f))) := hr.out.congr (rowOf_congr fun k hk => by unfold w8; rw [part_below _ _ _ _ hk])
      have hq : Hid (RowAt wr (w.heap.size + 1) 27 (rowOf 16 (w8 zeroN))) := r1.out.below hbl (by omega)
      clear hr
      go_wp2_with (first | (refine wpList_load_row rfl 27 _ rfl (w.heap.size + 1 + 1) rfl 27 _ (0, 0) _ hr2.out Tryd.underlying27 rfl (info_key _) ?_) | (refine wpList_store_row rfl 27 _ _ rfl (w.heap.size + 1) (rowOf 16 (w8 f)) rfl rfl 27 _ hq.out (info_key _) (by rw [rowOf_size, rowOf_size]) (rowOf_cells8 _ _) ?_))
      refine bodyPost_ret (v := .agg (rowOf 16 (w8 f))) ?_ rfl ⟨rfl, below_setRow' (b0.trans (hbl.mono (by omega))) (by omega) _⟩
      exact results_cell_row Tryd.results27 _ _ (w.heap.size + 1) 27 (rowOf 16 (w8 f)) (0, 0) _ rfl (hq.out.setRow _) Tryd.underlying27 rfl (info_key _)

end Go.Proofs.YtedmdojmgccclaaDoor
