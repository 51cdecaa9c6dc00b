/-
  The document's Stream.
-/
import Derived.Test.YtmbkjbkbnigcfaaCtrStream
import Derived.Test.YtmbkjbkbnigcfaaAesRefLock
namespace Go.Proofs.Ytmbkjbkbnigcfaa
open Go.RowKit

theorem numS_8 (n : Nat) (h : n < 18446744073709551616) : numS (n : Int) 8 = bs (numB 8 n) ∧ numE (n : Int) 8 = 0 := by
  have hf : fitsB (n : Int) 8 = true := fits_8 _ (by omega)
  unfold numS numE
  rw [if_pos ⟨by decide, by decide, hf⟩, if_pos ⟨by decide, by decide, hf⟩]
  exact ⟨rfl, rfl⟩

theorem refNumber8 (n : Nat) (h : n < 18446744073709551616) (w : World) :
    Calls Try.prog 16 #[.int .u64 (n : Int), .int .i64 8] w fun e w' => e = .returned (.tuple #[.string (bs (numB 8 n)), .int .i64 0]) ∧ Below w.heap.size w w' := by
  have := refNumber_any (n : Int) 8 (by omega) (by unfold Hid; omega) w
  rw [(numS_8 n h).1, (numS_8 n h).2] at this
  exact this

theorem refTakeKey_cnt (nonce i : Nat) : ∃ z : ByteArray, ∀ w, Calls Try.prog 17 #[.string (bs (numB 8 nonce) ++ bs (numB 8 i))] w fun e w' => e = .returned (.tuple #[.agg (rowOf 16 (w8 (cntN nonce i))), .string z, .int .i64 0]) ∧ Below w.heap.size w w' := by
  obtain ⟨hl, hk⟩ := cnt_key nonce i _ rfl
  refine ⟨bs ((bs (numB 8 nonce) ++ bs (numB 8 i)).data.toList.drop 16), fun w => ?_⟩
  rw [← hk]
  exact refTakeKey_yes _ (by rw [← ba_size, hl]; exact Nat.le_refl _) (by rw [← ba_size, hl]; decide) w

/-- Sixteen more bytes of the stream. -/
theorem stream_more (key : Nat → Nat) (nonce i : Nat) : bs (listB (16 * i) (streamN key nonce)) ++ bs (listB 16 (lockN key (cntN nonce i))) = bs (listB (16 * (i + 1)) (streamN key nonce)) := by
  have e : listB 16 (lockN key (cntN nonce i)) = listB 16 (fun j => streamN key nonce (16 * i + j)) :=
    listB_congr fun j hj => by unfold streamN; rw [show (16 * i + j) / 16 = i by omega, show (16 * i + j) % 16 = j by omega]
  rw [e, bs_app, listB_bs, show 16 * (i + 1) = 16 * i + 16 by omega, listB_append]

theorem bs_take (n m : Nat) (f : Nat → Nat) (h : m ≤ n) : (bs (listB n f)).extract 0 m = bs (listB m f) := by
  apply ba_ext
  rw [ba_take, listB_bs, listB_bs, listB_take _ _ _ h]

set_option maxHeartbeats 2000000 in
set_option maxRecDepth 8000 in
theorem refStream_any (key : Nat → Nat) (hk : Hid (Byt key)) (nonce : Nat) (hn : Hid (nonce < 18446744073709551616)) (m : Nat) (hm : m ≤ 4000) (w : World) :
    Calls Try.prog 10 #[.agg (rowOf 16 (w8 key)), .int .u64 (nonce : Int), .int .i64 (m : Int)] w fun e w' => e = .returned (.string (bs (listB m (streamN key nonce)))) ∧ Below w.heap.size w w' := by
  have N1 := Lib.hid (refNumber8 nonce hn.out)
  have r0 : Hid (RowAt (w.alloc (.cells (rowOf 16 (w8 key)) 23)) w.heap.size 23 (rowOf 16 (w8 key))) := RowAt.new _ _ _
  have b0 : Below w.heap.size w (w.alloc (.cells (rowOf 16 (w8 key)) 23)) := (Below.refl _ _).alloc (Nat.le_refl _) _
  go_enter Try.func10, Try.ntmps10
  go_wp2_with fail
  generalize w.alloc (.cells (rowOf 16 (w8 key)) 23) = w0 at *
  refine (N1.out w0).mono ?_
  rintro e w1 ⟨rfl, hb1⟩
  replace r0 := Lib.hid (r0.out.below hb1 r0.out.lt)
  replace b0 := b0.trans (hb1.mono b0.size)
  clear hb1 N1
  go_wp2
  go_loopw [7, 10] (fun t c wr => ∃ i : Nat, c = .int .i64 (i : Int) ∧ t = .string (bs (listB (16 * i) (streamN key nonce))) ∧ 16 * i < m + 16 ∧ Hid (RowAt wr w.heap.size 23 (rowOf 16 (w8 key))) ∧ Below w.heap.size w wr)
    (fun _ c _ => m - 16 * (intOf c).toNat)
  case atStart => exact ⟨0, rfl, rfl, by omega, r0, b0⟩
  case round =>
    clear r0 b0
    obtain ⟨i, rfl, rfl, hil, hr, hbl⟩ := hrel
    obtain ⟨z, hz⟩ : ∃ z, z = 16 * i := ⟨_, rfl⟩
    have hzs : (bs (listB (16 * i) (streamN key nonce))).size = z := by rw [bs_size, listB_length, hz]
    have E1 := Lib.hid (stream_more key nonce i)
    have E2 : Hid (¬ 16 * i < m → (bs (listB (16 * i) (streamN key nonce))).extract 0 m = bs (listB m (streamN key nonce))) := fun h => bs_take _ _ _ (by omega)
    generalize bs (listB (16 * i) (streamN key nonce)) = T at *
    by_cases hlt : z < m
    · have t1 : (z : Int) < (m : Int) := by omega
      have t2 : (i : Int) < 256 := by omega
      replace hz := Lib.hid hz
      obtain ⟨k9, TK⟩ := refTakeKey_cnt nonce i
      replace TK := Lib.hid TK
      have N2 := Lib.hid (refNumber8 i (by omega))
      have hs1 : (bs (numB 8 nonce)).size = 8 := by rw [bs_size, numB_length]
      have hs2 : (bs (numB 8 i)).size = 8 := by rw [bs_size, numB_length]
      go_wp2_with fail
      refine (N2.out wr).mono ?_
      rintro e w2 ⟨rfl, hb2⟩
      replace hr := Lib.hid (hr.out.below hb2 hr.out.lt)
      replace hbl := hbl.trans (hb2.mono hbl.size)
      clear hb2 N2
      go_wp2_with fail
      clear hs1 hs2
      refine (TK.out w2).mono ?_
      rintro e w3 ⟨rfl, hb2⟩
      replace hr := Lib.hid (hr.out.below hb2 hr.out.lt)
      replace hbl := hbl.trans (hb2.mono hbl.size)
      clear hb2 TK
      have hlt3 := hr.out.lt
      have r1 : Hid (RowAt (w3.alloc (.cells (rowOf 16 (w8 zeroN)) 23)) w3.heap.size 23 (rowOf 16 (w8 zeroN))) := RowAt.new _ _ _
      have hr4 : Hid (RowAt ((w3.alloc (.cells (rowOf 16 (w8 zeroN)) 23)).setRow w3.heap.size (rowOf 16 (w8 (cntN nonce i)))) w.heap.size 23 (rowOf 16 (w8 key))) := (hr.out.alloc _).setRowOther _ _ (by omega)
      have r4 : Hid (RowAt ((w3.alloc (.cells (rowOf 16 (w8 zeroN)) 23)).setRow w3.heap.size (rowOf 16 (w8 (cntN nonce i)))) w3.heap.size 23 (rowOf 16 (w8 (cntN nonce i)))) := r1.out.setRow _
      have hbl4 : Below w.heap.size w ((w3.alloc (.cells (rowOf 16 (w8 zeroN)) 23)).setRow w3.heap.size (rowOf 16 (w8 (cntN nonce i)))) := below_setRow' (hbl.alloc hbl.size _) hbl.size _
      rw [z8_16] at r1 hr4 r4 hbl4
      go_wp2_with (first | (refine wpList_store_row rfl 23 _ _ rfl w3.heap.size (rowOf 16 (w8 (cntN nonce i))) rfl rfl 23 _ r1.out (info_key _) (by rw [rowOf_size]; rfl) (rowOf_cells8 _ _) ?_) | (refine wpList_load_row rfl 23 _ rfl w.heap.size rfl 23 (rowOf 16 (w8 key)) (0, 0) _ hr4.out Try.underlying23 rfl (info_key _) ?_) | (refine wpList_load_row rfl 23 _ rfl w3.heap.size rfl 23 (rowOf 16 (w8 (cntN nonce i))) (0, 0) _ r4.out Try.underlying23 rfl (info_key _) ?_))
      generalize (World.alloc w3 _).setRow _ _ = w4 at *
      refine (refLock_any key (cntN nonce i) hk (cnt_byt nonce i) w4).mono ?_
      rintro e w5 ⟨rfl, hb5⟩
      have hL := Lib.hid (lock_byt hk.out (cnt_byt nonce i))
      generalize lockN key (cntN nonce i) = L at *
      replace hr4 := Lib.hid (hr4.out.below hb5 hr4.out.lt)
      replace hbl4 := hbl4.trans (hb5.mono hbl4.size)
      clear hb5 r4 r1 hr hbl
      have hlt5 := hr4.out.lt
      have r5 : Hid (RowAt (w5.alloc (.cells (rowOf 16 (w8 zeroN)) 23)) w5.heap.size 23 (rowOf 16 (w8 zeroN))) := RowAt.new _ _ _
      have hr6 : Hid (RowAt ((w5.alloc (.cells (rowOf 16 (w8 zeroN)) 23)).setRow w5.heap.size (rowOf 16 (w8 L))) w.heap.size 23 (rowOf 16 (w8 key))) := (hr4.out.alloc _).setRowOther _ _ (by omega)
      have r6 : RowAt ((w5.alloc (.cells (rowOf 16 (w8 zeroN)) 23)).setRow w5.heap.size (rowOf 16 (w8 L))) w5.heap.size 23 (rowOf 16 (w8 L)) := r5.out.setRow _
      have hbl6 : Below w.heap.size w ((w5.alloc (.cells (rowOf 16 (w8 zeroN)) 23)).setRow w5.heap.size (rowOf 16 (w8 L))) := below_setRow' (hbl4.alloc hbl4.size _) hbl4.size _
      have sl := run_slice_all (P := Try.prog) Try.underlying23 sz8 w5.heap.size ((w5.alloc (.cells (rowOf 16 (w8 zeroN)) 23)).setRow w5.heap.size (rowOf 16 (w8 L)))
      have cv := block_string (P := Try.prog) (src := 34) (dst := 9) (cap := 16) hL.out Try.underlying34 Try.underlying5 Try.underlying9 r6
      have hs3 : (bs (listB 16 L)).size = 16 := by rw [bs_size, listB_length]
      rw [z8_16] at r5 hr6 hbl6 sl cv
      clear r6 hL
      go_wp2_with (refine wpList_store_row rfl 23 _ _ rfl w5.heap.size (rowOf 16 (w8 L)) rfl rfl 23 _ r5.out (info_key _) (by rw [rowOf_size]; rfl) (rowOf_cells8 _ _) ?_)
      go_roundw
      case rel => exact ⟨i + 1, by go_num, by rw [E1.out], by have := hz.out; omega, hr6, hbl6⟩
      case measure =>
        have := hz.out
        simp [intOf]
        omega
    · have t1 : ¬ ((z : Int) < (m : Int)) := by omega
      have t3 : (m : Int) ≤ (z : Int) := by omega
      have t4 : ¬ ((m : Int) < 0) := by omega
      have E3 := Lib.hid (E2.out (by omega))
      clear E1 E2 hz
      go_wp2
      go_ret
      exact ⟨by rw [← E3.out]; rfl, hbl⟩

end Go.Proofs.Ytmbkjbkbnigcfaa
