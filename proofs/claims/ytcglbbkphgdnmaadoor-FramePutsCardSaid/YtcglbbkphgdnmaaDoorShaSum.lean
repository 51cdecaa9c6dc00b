/-
  Contract: Sum.
-/
import Derived.Test.YtcglbbkphgdnmaaDoorShaAdd
import Derived.Test.YtcglbbkphgdnmaaDoorShaWide
namespace Go.Proofs.YtcglbbkphgdnmaaDoor
open Go.RowKit

/-- The first j texts of a list, one behind the other. -/
def joinTo (ss : List ByteArray) (j : Nat) : List UInt8 := ((ss.take j).map fun s => s.data.toList).flatten

theorem joinTo_succ (ss : List ByteArray) (j : Nat) (h : j < ss.length) : joinTo ss (j + 1) = joinTo ss j ++ ss[j].data.toList := by
  unfold joinTo
  rw [List.take_succ_eq_append_getElem h, List.map_append, List.flatten_append]
  simp only [List.map_cons, List.map_nil, List.flatten_cons, List.flatten_nil, List.append_nil]

theorem joinTo_le (ss : List ByteArray) (j : Nat) : (joinTo ss j).length ≤ (joinTo ss ss.length).length := by
  unfold joinTo
  rw [List.take_length]
  conv => rhs; rw [← List.take_append_drop j ss]
  rw [List.map_append, List.flatten_append, List.length_append]
  omega

theorem fed_nil (blk : Nat → Nat) : Fed [] blk := fun j hj => by simp at hj

theorem zero_bytes : Bytes zeroN := fun _ => by unfold zeroN; decide

set_option maxHeartbeats 1000000 in
set_option maxRecDepth 8000 in
theorem sum_any (a : Option Addr) (c : Nat) (ss : List ByteArray) (hl : ss.length ≤ 100000) (hz : Hid ((joinTo ss ss.length).length ≤ 1000000)) (w : World) (hk : Hid (KRow w)) (hs : Hid (Sees w a ss)) :
    Calls Tryd.prog 36 #[.slice a ss.length c] w fun e w' => e = .returned (.agg (rowOf 32 (w8 (sumN (joinTo ss ss.length))))) ∧ Below w.heap.size w w' := by
  go_enter Tryd.func36, Tryd.ntmps36
  go_wp2_with fail
  rw [← z8_32]
  have r0 : Hid (RowAt (w.alloc (.cells (rowOf 32 (w8 zeroN)) 44)) w.heap.size 44 (rowOf 32 (w8 zeroN))) := RowAt.new _ _ _
  have b0 : Below w.heap.size w (w.alloc (.cells (rowOf 32 (w8 zeroN)) 44)) := (Below.refl _ _).alloc (Nat.le_refl _) _
  generalize w.alloc (.cells (rowOf 32 (w8 zeroN)) 44) = w0 at *
  refine (firstWords_any w0).mono ?_
  rintro e w1 ⟨rfl, hb1⟩
  replace r0 : Hid (RowAt w1 w.heap.size 44 (rowOf 32 (w8 zeroN))) := r0.out.below hb1 r0.out.lt
  replace b0 : Below w.heap.size w w1 := b0.trans (hb1.mono b0.size)
  clear hb1
  go_wp2_with (refine wpList_store_row rfl 87 _ _ rfl w1.heap.size (rowOf 8 (w32 firstN)) rfl rfl 87 _ (RowAt.new _ _ _) (info_w8 _) (by rw [rowOf_size]; rfl) (rowOf_cells32 _ _) ?_; rw [World.setRow_alloc_new])
  rw [← z8_64]
  obtain ⟨os, hos⟩ : ∃ os : List Obj, os = [.cells (rowOf 8 (w32 firstN)) 87, .cells (rowOf 64 (w8 zeroN)) 89, .cells #[.int .i64 0] 3] := ⟨_, rfl⟩
  obtain ⟨w2, hw2⟩ : ∃ w2, os.foldl World.alloc w1 = w2 := ⟨_, rfl⟩
  have hS : Hid (SumAt w2 (w1.heap.size + 1) (w1.heap.size + 1 + 1) w1.heap.size (joinTo ss 0)) := by
    rw [← hw2, show joinTo ss 0 = [] by simp [joinTo]]
    exact ⟨zeroN, zero_bytes, fed_nil _, allocs_row os w1 1 _ _ (by rw [hos]; rfl), allocs_row os w1 2 _ _ (by rw [hos]; rfl), allocs_row os w1 0 _ _ (by rw [hos]; rfl)⟩
  have b2 : Below w1.heap.size w1 w2 := by rw [← hw2]; exact allocs_below os w1
  rw [hos] at hw2
  simp only [List.foldl_cons, List.foldl_nil] at hw2
  rw [hw2]
  clear hw2 hos os
  have q1 : w.heap.size < w1.heap.size := r0.out.lt
  have hsB : Hid (∀ wr, Below w1.heap.size w1 wr → Sees wr a ss) := fun wr hb => (hs.out.below b0 (Nat.le_refl _)).below hb (Nat.le_refl _)
  obtain ⟨p, hp⟩ : ∃ p, w1.heap.size = p := ⟨_, rfl⟩
  rw [hp] at hS b2 q1 hsB
  rw [hp]
  clear hp
  have hk1 := Lib.hid (hk.out.below b0 hk.out.1 b0.size)
  have p0 : 0 < p := by omega
  clear hk hs
  go_loopw [7, 14] (fun t i wr => ∃ j T : Nat, j ≤ ss.length ∧ i = .int .i64 j ∧ t = .int .i64 T ∧ Hid (T = (joinTo ss j).length) ∧ T ≤ 1000000 ∧ Hid (SumAt wr (p + 1) (p + 1 + 1) p (joinTo ss j)) ∧ Below p w1 wr)
    (fun _ i _ => ss.length - (intOf i).toNat)
  case atStart => exact ⟨0, 0, by omega, rfl, rfl, rfl, by omega, hS, b2⟩
  case round =>
    clear hS b2
    obtain ⟨j, T, hj, rfl, rfl, hT, lT, hS, hbl⟩ := hrel
    by_cases hlt : j < ss.length
    · obtain ⟨ad, ha, hadb, hcell⟩ := (hsB.out wr hbl) j hlt
      subst ha
      obtain ⟨s, hse⟩ : ∃ s, s = ss[j] := ⟨_, rfl⟩
      rw [← hse] at hcell
      have HS : Hid (joinTo ss (j + 1) = joinTo ss j ++ s.data.toList) := by rw [hse]; exact joinTo_succ ss j hlt
      have hle := joinTo_le ss (j + 1)
      have hTs : Hid (T + s.size = (joinTo ss (j + 1)).length) := by
        unfold Hid
        rw [HS.out, List.length_append, hT.out]
        simp
      have lT2 : T + s.size ≤ 1000000 := by rw [hTs.out]; exact Nat.le_trans hle hz.out
      clear hse hle
      go_wp2_with fail
      refine (add_any p (p + 1) (p + 1 + 1) p (joinTo ss j) s (by omega) _ (hk1.out.below hbl p0 hbl.size) hS p0 (by omega) (by omega) (Nat.le_refl _) (by omega) (by omega) (by omega)).mono ?_
      rintro e w3 ⟨rfl, hS3, hb3⟩
      rw [← HS.out] at hS3
      have hb4 := hbl.trans hb3
      clear hb3 hS hbl hcell
      go_wp2
      go_roundw
      case rel => exact ⟨j + 1, T + s.size, by omega, by go_num, by go_num, hTs, lT2, hS3, hb4⟩
      case measure => simp [intOf]; omega
    · have : j = ss.length := by omega
      subst this
      obtain ⟨X, hX⟩ : ∃ X, joinTo ss ss.length = X := ⟨_, rfl⟩
      rw [hX] at hT hS
      replace hX := Lib.hid hX
      have HF : Hid (fillL T = fillL X.length) := by rw [hT.out]; rfl
      have FL : Hid ((bs (fillL T)).size ≤ 100) := by
        unfold Hid
        show (fillL T).toArray.size ≤ 100
        rw [List.size_toArray, fillL_length]
        unfold fillZ
        omega
      clear hsB
      go_wp2_with fail
      refine (fill_any T lT _).mono ?_
      rintro e w3 ⟨rfl, hb3⟩
      have hsz3 := hb3.size
      obtain ⟨_, _, _, u1, u2, u3⟩ := hS.out
      have hS3 : Hid (SumAt w3 (p + 1) (p + 1 + 1) p X) := hS.out.below hb3 u1.lt u2.lt u3.lt
      have hpw : p ≤ wr.heap.size := Nat.le_of_lt u3.lt
      have hbl3 : Below p w1 w3 := hbl.trans (hb3.mono hpw)
      clear u1 u2 u3 hS hbl hb3 hsz3
      go_wp2_with fail
      refine (add_any p (p + 1) (p + 1 + 1) p X (bs (fillL T)) (by have := FL.out; omega) _ (hk1.out.below hbl3 p0 hbl3.size) hS3 p0 (by omega) (by omega) (Nat.le_refl _) (by omega) (by omega) (by omega)).mono ?_
      rintro e w4 ⟨rfl, hS4, hb4⟩
      have e4 : X ++ (bs (fillL T)).data.toList = X ++ fillL X.length := by rw [← HF.out]; rfl
      rw [e4] at hS4
      obtain ⟨_, _, _, _, _, rh⟩ := hS4.out
      have RH := Lib.hid rh
      have hb5 : Below p w1 w4 := hbl3.trans hb4
      have hw4 := Lib.hid (foldN_words (X ++ fillL X.length) ((X ++ fillL X.length).length / 64))
      have E : Hid (hashN (foldN (X ++ fillL X.length) ((X ++ fillL X.length).length / 64)) = sumN X) := rfl
      generalize foldN (X ++ fillL X.length) ((X ++ fillL X.length).length / 64) = y at *
      clear rh hS4 hS3 hb4 hbl3
      go_wp2_with (refine wpList_load_row rfl 87 _ rfl p rfl 87 _ (0, 0) _ RH.out Tryd.underlying87 rfl (info_w8 _) ?_)
      refine (hashOf_any y hw4 _).mono ?_
      rintro e w5 ⟨rfl, hb6⟩
      rw [E.out]
      have hq : Hid (RowAt w5 w.heap.size 44 (rowOf 32 (w8 zeroN))) := (r0.out.below hb5 q1).below hb6 (r0.out.below hb5 q1).lt
      have hb7 : Below w.heap.size w w5 := b0.trans ((hb5.mono (by omega)).trans (hb6.mono (by have := hb5.size; have := b0.size; omega)))
      go_wp2_with (refine wpList_store_row rfl 44 _ _ rfl w.heap.size (rowOf 32 (w8 (sumN X))) rfl rfl 44 _ hq.out (info_hash _) (by rw [rowOf_size, rowOf_size]) (rowOf_cells8 _ _) ?_)
      refine bodyPost_ret (v := .agg (rowOf 32 (w8 (sumN X)))) ?_ rfl ⟨by rw [hX.out], below_setRow' hb7 (Nat.le_refl _) _⟩
      exact results_cell_row Tryd.results36 _ _ w.heap.size 44 (rowOf 32 (w8 (sumN X))) (0, 0) _ rfl (hq.out.setRow _) Tryd.underlying44 rfl (info_hash _)

end Go.Proofs.YtcglbbkphgdnmaaDoor
