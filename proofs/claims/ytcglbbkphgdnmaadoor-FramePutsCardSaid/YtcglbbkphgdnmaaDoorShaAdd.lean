/-
  Contract: the closure of Sum that takes one part.
-/
import Derived.Test.YtcglbbkphgdnmaaDoorShaFold
namespace Go.Proofs.YtcglbbkphgdnmaaDoor
open Go.RowKit

/-- The captured variables, where the text T has come. -/
def SumAt (w : World) (pb pa ph : Nat) (T : List UInt8) : Prop :=
  ∃ blk, Bytes blk ∧ Fed T blk ∧ RowAt w pb 89 (rowOf 64 (w8 blk)) ∧ RowAt w pa 3 #[.int .i64 ((T.length % 64 : Nat) : Int)] ∧ RowAt w ph 87 (rowOf 8 (w32 (foldN T (T.length / 64))))

theorem SumAt.below {B : Nat} {w w' : World} {pb pa ph : Nat} {T : List UInt8} (h : SumAt w pb pa ph T) (hb : Below B w w') (h1 : pb < B) (h2 : pa < B) (h3 : ph < B) : SumAt w' pb pa ph T := by
  obtain ⟨blk, a, b, c, d, e⟩ := h
  exact ⟨blk, a, b, c.below hb h1, d.below hb h2, e.below hb h3⟩

theorem row_one_set {w : World} {p : Nat} {t : TypeId} {v : Value} (h : RowAt w p t #[v]) (u : Value) : RowAt (w.setCell ⟨p, 0, none⟩ u) p t #[u] := (h.set 0 u).congr rfl

theorem bytes_drop (s : ByteArray) (k : Nat) : (s.extract k s.size).data.toList = s.data.toList.drop k := by
  rw [ByteArray.data_extract]
  have h : s.size = s.data.size := rfl
  rw [h, Array.toList_extract, List.extract_eq_take_drop]
  apply List.take_of_length_le
  simp

theorem bytes_take (s : ByteArray) (k : Nat) : (s.extract 0 k).data.toList = s.data.toList.take k := by
  rw [ByteArray.data_extract, Array.toList_extract, List.extract_eq_take_drop]
  simp

set_option maxHeartbeats 1000000 in
set_option maxRecDepth 8000 in
theorem add_any (base pb pa ph : Nat) (T : List UInt8) (s : ByteArray) (hm : s.size ≤ 9223372036854775807) (w : World) (hk : Hid (KRow w)) (hS : Hid (SumAt w pb pa ph T)) (b0 : 0 < base) (h1 : base ≤ pb) (h2 : base ≤ pa) (h3 : base ≤ ph) (n1 : pb ≠ pa) (n2 : pb ≠ ph) (n3 : pa ≠ ph) :
    Calls Tryd.prog 50 #[.string s, .pointer (some ⟨pb, 0, none⟩), .pointer (some ⟨pa, 0, none⟩), .pointer (some ⟨ph, 0, none⟩)] w
      fun e w' => e = .returned (.tuple #[]) ∧ Hid (SumAt w' pb pa ph (T ++ s.data.toList)) ∧ Below base w w' := by
  go_enter Tryd.func50, Tryd.ntmps50
  go_wp2
  go_loopw [0] (fun t wr => ∃ (c : List UInt8) (r : ByteArray), t = .string r ∧ r.size ≤ 9223372036854775807 ∧ Hid (s.data.toList = c ++ r.data.toList) ∧ Hid (SumAt wr pb pa ph (T ++ c)) ∧ Below base w wr)
    (fun t _ => match t with | .string r => r.size | _ => 0)
  case atStart => exact ⟨[], s, rfl, hm, rfl, by rw [List.append_nil]; exact hS, Below.refl _ _⟩
  case round =>
    clear hS
    obtain ⟨c, r, rfl, hrm, hcr, hS, hbl⟩ := hrel
    obtain ⟨blk, hB, hF, rb, ra, rh⟩ := hS.out
    have HB := Lib.hid hB
    have HF := Lib.hid hF
    have RB := Lib.hid rb
    have RA := Lib.hid ra
    have RH := Lib.hid rh
    clear hB hF rb ra rh hS
    by_cases hr0 : 0 < r.size
    · generalize hT : T ++ c = U at *
      have HT := Lib.hid hT
      clear hT
      obtain ⟨a, ha⟩ : ∃ a, U.length % 64 = a := ⟨_, rfl⟩
      have la : a < 64 := by rw [← ha]; exact Nat.mod_lt _ (by decide)
      rw [ha] at RA
      have HA := Lib.hid ha
      obtain ⟨n, hn⟩ : ∃ n, min r.size (64 - a) = n := ⟨_, rfl⟩
      have l1 : n ≤ r.size := by omega
      have l2 : a + n ≤ 64 := by omega
      have l0 : 0 < n := by omega
      have HN := Lib.hid hn
      have sl := run_slice_l (P := Tryd.prog) Tryd.underlying89 sz8 pb (a : Int) a rfl la
      have cp := Lib.hid (run_copy_text (P := Tryd.prog) wr 42 9 3 5 pb a (64 - a) (64 - a) r blk 64 89 Tryd.underlying42 sz8 RB.out n hn.symm l2)
      have ca := cell_of_one RA.out
      have rg : (0 : Int) < (r.size : Int) := by omega
      have rl : (n : Int) ≤ (r.size : Int) := by omega
      have R9 : r.data.toList.length = r.size := by simp
      have hnl : n ≤ r.data.toList.length := by rw [R9]; exact l1
      have hB2 := Lib.hid (laid_bytes HB.out (byteL_bytes r.data.toList) a n)
      have hcr2 : Hid (s.data.toList = (c ++ r.data.toList.take n) ++ (r.extract n r.size).data.toList) := by
        unfold Hid
        rw [hcr.out, List.append_assoc]
        congr 1
        rw [show (r.extract n r.size).data.toList = r.data.toList.drop n from ?_, List.take_append_drop]
        exact bytes_drop r n
      clear hn ha
      have rb2 := Lib.hid (RB.out.setRow (rowOf 64 (w8 (laid blk (byteL r.data.toList) a n))))
      have ra2 := Lib.hid (RA.out.setRowOther pb (rowOf 64 (w8 (laid blk (byteL r.data.toList) a n))) n1.symm)
      have rh2 := Lib.hid (RH.out.setRowOther pb (rowOf 64 (w8 (laid blk (byteL r.data.toList) a n))) n2.symm)
      have hb2 := below_setRow' hbl h1 (rowOf 64 (w8 (laid blk (byteL r.data.toList) a n)))
      have hrm2 : (r.extract n r.size).size ≤ 9223372036854775807 := by rw [ByteArray.size_extract]; omega
      have hms : (r.extract n r.size).size < r.size := by rw [ByteArray.size_extract]; omega
      by_cases hfull : a + n = 64
      · have ef : (a : Int) + (n : Int) = 64 := by omega
        have FF := Lib.hid (fun blk' => fed_full U r.data.toList blk n hnl HF.out (by rw [HA.out]; exact hfull) blk')
        rw [HA.out] at FF
        have hB3 := Lib.hid (laid_bytes HB.out (byteL_bytes r.data.toList) a n)
        have hW3 := Lib.hid (foldN_words U (U.length / 64))
        generalize laid blk (byteL r.data.toList) a n = blk2 at *
        generalize hV : U ++ r.data.toList.take n = V at *
        have HV := Lib.hid hV
        have HFU := Lib.hid hfull
        clear hV hfull HF HB
        go_wp2_with (first | (refine wpList_copy_known _ rfl _ _ 42 9 rfl _ _ rfl rfl cp.out ?_; clear cp sl ca; generalize World.setRow _ _ _ = w2 at *; have ca2 := cell_of_one ra2.out; have fa2 := free_of_one ra2.out; have rb3 := Lib.hid (rb2.out.setOther ⟨pa, 0, none⟩ (.int .i64 64) n1); have rh3 := Lib.hid (rh2.out.setOther ⟨pa, 0, none⟩ (.int .i64 64) n3.symm); have ra3 := Lib.hid (row_one_set ra2.out (.int .i64 64)); have hb3 := hb2.setCell (p := ⟨pa, 0, none⟩) h2 (.int .i64 64)) | (refine wpList_load_row rfl 87 _ rfl ph rfl 87 _ (0, 0) _ rh3.out Tryd.underlying87 rfl (info_w8 _) ?_) | (refine wpList_load_row rfl 89 _ rfl pb rfl 89 _ (0, 0) _ rb3.out Tryd.underlying89 rfl (info_b64 _) ?_))
        generalize World.setCell _ _ _ = w3 at *
        refine (step_any _ _ hW3 hB3 _ (hk.out.below hb3 b0 hb3.size)).mono ?_
        rintro e w4 ⟨rfl, hb4⟩
        have E := Lib.hid (FF.out blk2)
        rw [← E.out.2.2]
        have rb4 : Hid (RowAt w4 pb 89 (rowOf 64 (w8 blk2))) := rb3.out.below hb4 rb3.out.lt
        have ra4 : Hid (RowAt w4 pa 3 #[.int .i64 64]) := ra3.out.below hb4 ra3.out.lt
        have rh4 : Hid (RowAt w4 ph 87 (rowOf 8 (w32 (foldN U (U.length / 64))))) := rh3.out.below hb4 rh3.out.lt
        have hb5 : Below base w w4 := hb3.trans (hb4.mono (Nat.le_of_lt (Nat.lt_of_le_of_lt h1 rb3.out.lt)))
        obtain ⟨y, hy⟩ : ∃ y, foldN V (V.length / 64) = y := ⟨_, rfl⟩
        rw [hy]
        have HY := Lib.hid hy
        have ra5 := Lib.hid (ra4.out.setRowOther ph (rowOf 8 (w32 y)) n3)
        have rb5 := Lib.hid (rb4.out.setRowOther ph (rowOf 8 (w32 y)) n2)
        have rh5 := Lib.hid (rh4.out.setRow (rowOf 8 (w32 y)))
        have hb6 := below_setRow' hb5 h3 (rowOf 8 (w32 y))
        clear hy hb4 rb3 ra3 rh3 hb3 FF rb4 ra4 hb5 rb2 ra2 rh2 hb2 ca2 fa2
        go_wp2_with (refine wpList_store_row rfl 87 _ _ rfl ph (rowOf 8 (w32 y)) rfl rfl 87 _ rh4.out (info_w8 _) (by rw [rowOf_size, rowOf_size]) (rowOf_cells32 _ _) ?_; clear rh4; generalize World.setRow _ _ _ = w5 at *; have ca5 := cell_of_one ra5.out; have fa5 := free_of_one ra5.out)
        go_roundw
        case rel =>
          refine ⟨c ++ r.data.toList.take n, _, rfl, hrm2, hcr2, ?_, hb6.setCell (p := ⟨pa, 0, none⟩) h2 _⟩
          rw [← List.append_assoc, HT.out, HV.out]
          refine ⟨blk2, hB2.out, E.out.1, rb5.out.setOther _ _ n1, ?_, ?_⟩
          · rw [E.out.2.1]; exact row_one_set ra5.out _
          · rw [HY.out]; exact rh5.out.setOther _ _ n3.symm
        case measure => exact hms
      · obtain ⟨m, hmn⟩ : ∃ m, a + n = m := ⟨_, rfl⟩
        have ef : (a : Int) + (n : Int) = (m : Int) := by omega
        have lm : m < 64 := by omega
        have em : ((m : Int) == 64) = false := by simp; omega
        have HM := Lib.hid hmn
        have FF := Lib.hid (fed_more U r.data.toList blk n hnl HF.out (by rw [HA.out]; omega))
        rw [HA.out, HM.out] at FF
        generalize laid blk (byteL r.data.toList) a n = blk2 at *
        generalize hV : U ++ r.data.toList.take n = V at *
        have HV := Lib.hid hV
        clear hV hfull HF HB hmn
        go_wp2_with (first | (refine wpList_copy_known _ rfl _ _ 42 9 rfl _ _ rfl rfl cp.out ?_; clear cp sl ca; generalize World.setRow _ _ _ = w2 at *; have ca2 := cell_of_one ra2.out; have fa2 := free_of_one ra2.out; have rb3 := Lib.hid (rb2.out.setOther ⟨pa, 0, none⟩ (.int .i64 (m : Int)) n1); have rh3 := Lib.hid (rh2.out.setOther ⟨pa, 0, none⟩ (.int .i64 (m : Int)) n3.symm); have ra3 := Lib.hid (row_one_set ra2.out (.int .i64 (m : Int))); have hb3 := hb2.setCell (p := ⟨pa, 0, none⟩) h2 (.int .i64 (m : Int))))
        go_roundw
        case rel =>
          refine ⟨c ++ r.data.toList.take n, _, rfl, hrm2, hcr2, ?_, hb3⟩
          rw [← List.append_assoc, HT.out, HV.out]
          refine ⟨blk2, hB2.out, FF.out.1, rb3.out, ?_, ?_⟩
          · rw [FF.out.2.1]; exact ra3.out
          · rw [FF.out.2.2]; exact rh3.out
        case measure => exact hms
    · have hr1 : r.size = 0 := by omega
      have rg : ¬ (0 : Int) < (r.size : Int) := by omega
      have rn : r.data.toList = [] := by
        apply List.eq_nil_of_length_eq_zero
        simpa using hr1
      have hS2 : Hid (SumAt wr pb pa ph (T ++ s.data.toList)) := by
        rw [hcr.out, rn, List.append_nil]
        exact ⟨blk, HB.out, HF.out, RB.out, RA.out, RH.out⟩
      clear hr1 rn hcr
      go_wp2
      go_end0
      exact ⟨rfl, hS2, hbl⟩

end Go.Proofs.YtcglbbkphgdnmaaDoor
