/-
  The walk of SeglogReads.
-/
import Derived.Test.YtapebaoajknepaaGreatDoorAll8
import Derived.Test.YtapebaoajknepaaGreatDoorSegWhereFin
import Derived.Deep.RegionHeld
import Derived.Laws.Tables
import Derived.BigRegion
namespace Go.Proofs.YtapebaoajknepaaGreatDoor
open Go.RowKit
set_option linter.unusedVariables false

set_option maxHeartbeats 8000000 in
set_option maxRecDepth 100000 in
theorem reads_true (a : Option Addr) (len cap : Nat) (T : Nat → ByteArray) (ag : Nat) (ha8 : ag < 256) (w : World) (hkr : Hid (KRow w)) (hT : Hid (SeesV w a len (strV T))) (hsz : Hid (∀ j, (T j).size ≤ maxLen)) :
    Calls Tryz.prog 3 #[.slice a len cap, .int .u8 (ag : Nat)] w fun e w' => e = .returned (.bool true) ∧ Below w.heap.size w w' := by
  have SH := Lib.hid (shown13_any w hkr)
  by_cases h40 : 40 < len
  · have d0 : decide ((len : Int) > 40) = true := decide_eq_true (by omega)
    clear h40
    go_enter Tryz.func3, Tryz.ntmps3
    go_wp2_with fail
    refine SH.out.mono ?_
    rintro e w1 ⟨rfl, b1⟩
    clear SH
    go_wp2
    go_ret
    exact ⟨rfl, b1⟩
  · obtain ⟨k, hk, hk10⟩ : ∃ k : Nat, Hid ((ag : Int) % 10 = (k : Int)) ∧ k < 10 := ⟨ag % 10, by unfold Hid; omega, by omega⟩
    have hlen : len ≤ 40 := by omega
    have d0 : ¬ (len : Int) > 40 := by omega
    go_enter Tryz.func3, Tryz.ntmps3
    go_wp2_with fail
    refine SH.out.mono ?_
    rintro e w0 ⟨rfl, b0⟩
    have NP := Lib.hid (newPower_any w0)
    clear SH
    go_wp2_with fail
    refine NP.out.mono ?_
    rintro e w1 ⟨rfl, r1, b1'⟩
    have b1 : Below w.heap.size w w1 := b0.trans (b1'.mono b0.size)
    have NW := Lib.hid (new_yes w.heap.size w0.heap.size 10 5 9 true 0 0 0 none 0 0 (fun _ => 0) w1 r1 (Lib.hid (SeesV.nil _ _ _)) b0.size (Lib.hid (by decide)) (Lib.hid (by decide)) (by decide) (by decide) (by decide) (by decide) (by decide) (by decide))
    clear NP r1 b1'
    go_wp2_with fail
    refine NW.out.mono ?_
    rintro e w2 ⟨L, rfl, _, hn, hm, C2, b2⟩
    have b3 := b1.trans (b2.mono b1.size)
    clear NW b1 b2 b0
    rw [badN_none] at C2
    have k3 : Hid (KRow w2) := hkr.out.below b3 hkr.out.1 b3.size
    have mt := fresh_mount (L := L) (S := newS true 0 0 0 9 (fun _ => false)) (fun _ _ => rfl)
    have LI0 := LI.fresh (L := L) 9 (fun _ => false)
    have BK0 := Bk.fresh (L := L) (by rw [hm]; decide) 9 (fun _ => false) (mountN L (newS true 0 0 0 9 (fun _ => false)) + 1)
    have MT := Lib.hid (mount_any w.heap.size L _ _ w2 C2 rfl (Lib.hid (fun _ _ => by show (ByteArray.mk #[]).size ≤ 256; decide)) k3 b3.size (Lib.hid (by rw [mt]; decide)))
    rw [mt] at LI0 BK0 MT
    have rb : Hid ((newS true 0 0 0 9 (fun _ => false)).rated = 9 ∧ (newS true 0 0 0 9 (fun _ => false)).bad = fun _ => false) := ⟨rfl, rfl⟩
    generalize newS true 0 0 0 9 (fun _ => false) = S at *
    replace hn := Lib.hid hn
    replace hm := Lib.hid hm
    clear C2 mt
    go_wp2_with fail
    refine MT.out.mono ?_
    rintro e w4 ⟨lp, rfl, hlp, C4, b4⟩
    have b5 := b3.trans (b4.mono b3.size)
    clear MT b3 b4 k3
    have sq0 : Hid ((freshG (0 + 1)).seq = 0 + 1) := rfl
    generalize freshG (0 + 1) = G0 at *
    replace LI0 := Lib.hid LI0
    replace BK0 := Lib.hid BK0
    clear hlp
    have O6 : Hid ((w4.alloc (.cells #[] 34)).ownsRow w.heap.size 34 2 (.slice (some ⟨w4.heap.size, 0, none⟩) 0 0) 0 (cellL (0 * 2) (addrV fun _ => (0, 0)))) :=
      ⟨rfl, .inr ⟨_, 0, #[], rfl, b5.size, RowAt.new _ _ _, Nat.le_refl _, by decide, rfl, rfl⟩⟩
    have C6 := Lib.hid (C4.out.after ((Below.refl _ w4).alloc (Nat.le_refl _) (.cells #[] 34)))
    have b6 := Lib.hid (b5.alloc b5.size (.cells #[] 34))
    clear b5 C4
    go_wp2
    generalize w4.alloc (.cells #[] 34) = w6 at *
    go_loopw [8, 9] (fun v8 v9 wr => ∃ (i cs cp : Nat) (S : St) (G : Sg) (hv : Value) (A : Nat → Int × Int), i ≤ len ∧ v9 = .int .i64 (i : Int) ∧ Hid (wr.ownsRow w.heap.size 34 2 v8 i (cellL (i * 2) (addrV A))) ∧ Hid (cs * 5 + cp = i) ∧ Hid (Lg w.heap.size wr lp L S hv G) ∧ Hid (LI L S G i) ∧ Hid (Bk L S G 0 cs cp) ∧ Hid (G.seq = i + 1) ∧ Hid (S.rated = 9 ∧ S.bad = fun _ => false) ∧ Hid (Pgs L S A T i) ∧ Hid (Below w.heap.size w wr)) (fun v8 v9 _ => len - (intOf v9).toNat)
    case atStart => exact ⟨0, 0, 0, _, _, _, fun _ => (0, 0), Nat.zero_le _, rfl, O6, rfl, C6, LI0, BK0, sq0, rb, fun j hj => by omega, b6⟩
    case round =>
      clear C6 O6 LI0 BK0 b6 sq0 rb
      obtain ⟨i, cs, cp, S1, G1, hv1, A, hi, rfl, O1, hc, C1, LI1, BK1, sq1, rb, PG, hb⟩ := hrel
      have kr : Hid (KRow wr) := hkr.out.below hb.out hkr.out.1 hb.out.size
      by_cases hil : i < len
      · have l0 : (i : Int) < (len : Int) := by omega
        obtain ⟨ad, rfl, _, _⟩ := hT.out i hil
        go_wp2_with fail
        have T6 := Lib.hid (hT.out.after hb.out)
        have b1 := hb
        clear hb
        have ho := BK1.out.ord
        have hce := hc.out
        have hno := hn.out
        have hmo := hm.out
        rw [hno, hmo] at ho
        obtain ⟨s, nx, hs, hfs, hbl, hpos, hbk⟩ := BK1.out.put (r := 0) (by rw [hmo, hno]; omega)
        have AP := fun W (hW : Below wr.heap.size wr W) => app_yes w.heap.size lp L S1 hv1 G1 (1 + i % 3) (by omega) (cut229 (T i)) 0 (Lib.hid (LI1.out.seqlt (by omega))) W (Lib.hid (C1.out.after hW)) (kr.out.below hW kr.out.1 hW.size) (by omega) (cut229_size _) s nx (LI1.out.lowS (by omega)) LI1.out.leftne
        have LI3 := LI1.out.app (by omega) (k := 1 + i % 3) (x := cut229 (T i)) (by omega) (by omega) (cut229_size _) hs hfs hbl
        have BK3 := hbk (1 + i % 3) G1.seq (cut229 (T i)) (cut229_size _)
        have PG3 := Lib.hid (PG.out.next (T := T) hs hfs hbl)
        have sq3 : Hid ((appG G1 s).seq = (i + 1) + 1) := by unfold Hid; show G1.seq + 1 = _; rw [sq1.out]
        have rb3 : Hid ((appS L S1 (1 + i % 3) (i + 1) s (cut229 (T i))).rated = 9 ∧ (appS L S1 (1 + i % 3) (i + 1) s (cut229 (T i))).bad = fun _ => false) := rb
        rw [sq1.out] at AP LI3 BK3
        rw [show ((1 + i % 3 : Nat) : Int) = 1 + (i : Int) % 3 by omega] at AP
        replace AP := Lib.hid AP
        replace LI3 := Lib.hid LI3
        replace BK3 := Lib.hid BK3
        have hc3 : Hid (s * 5 + (firstB L S1 s + 1) = i + 1) := by unfold Hid; rw [hmo] at hpos; omega
        generalize appS L S1 (1 + i % 3) (i + 1) s (cut229 (T i)) = S3 at *
        generalize appG G1 s = G3 at *
        have e0 : cellL (i * 2) (addrV A) = cellL (i * 2) (addrV fun j => if j = i then ((s : Int), (firstB L S1 s : Int)) else A j) := cellL_addr fun j hj => by rw [if_neg (by omega)]
        rw [e0] at O1
        have e1 : addrV (fun j => if j = i then ((s : Int), (firstB L S1 s : Int)) else A j) (i * 2) = .int .i64 (s : Int) := by rw [addrV_0, if_pos rfl]
        have e2 : addrV (fun j => if j = i then ((s : Int), (firstB L S1 s : Int)) else A j) (i * 2 + 1) = .int .i64 (firstB L S1 s : Int) := by rw [addrV_1, if_pos rfl]
        generalize (fun j => if j = i then ((s : Int), (firstB L S1 s : Int)) else A j) = A3 at *
        generalize firstB L S1 s = x at *
        replace e1 := Lib.hid e1
        replace e2 := Lib.hid e2
        have hts : (T i).size ≤ maxLen := hsz.out i
        unfold maxLen at hts
        obtain ⟨m, hm1, hm2, ec⟩ : ∃ m : Nat, (if (229 : Int) < ((T i).size : Int) then (229 : Int) else ((T i).size : Int)) = (m : Int) ∧ m ≤ (T i).size ∧ (T i).extract 0 m = cut229 (T i) := ⟨min (T i).size 229, by split <;> omega, by omega, rfl⟩
        have hmin : min ((T i).size : Int) 229 = (m : Int) := by rw [← hm1]; split <;> omega
        have ftm : (i : Int).tmod 3 = (i : Int) % 3 := Int.tmod_eq_emod_of_nonneg (by omega)
        have f1 : IntKind.u8.wrap ((i : Int) % 3) = (i : Int) % 3 := IntWalk.u8_in _ (by omega)
        have f2 : IntKind.u8.wrap (1 + (i : Int) % 3) = 1 + (i : Int) % 3 := IntWalk.u8_in _ (by omega)
        clear nx hs hfs hbl hpos hbk LI1 BK1 PG sq1 rb e0 ho hce hno hmo hc
        refine wp_region_held_drew (S := fun w' => SeesV w' (some ad) len (strV T)) (by kernel_rfl) (T6.out.after (Below.refl _ wr).drew) fun hS => ?_
        change wpAnyH _ _ _ _ _ 23 #[false, false, false, false, false, false, false, false, false, false, false, false, false, false, false, false, false, false, false, false, false, false, false] _ _
        have bd : Below wr.heap.size wr (World.drew wr) := (Below.refl _ wr).drew
        replace hS := Lib.hid hS
        generalize World.drew wr = w6 at *
        refine wpAnyH_take (i := 0) (v := .pointer (some ⟨lp, 0, none⟩)) rfl (by kernel_rfl) (by kernel_rfl) (by kernel_rfl) (fun _ _ _ h => h) (Or.inl ⟨by rfl, fun w' hw' => by go_simp⟩) hS.out ?_
        change wpAnyH _ _ _ _ _ 22 #[true, false, false, false, false, false, false, false, false, false, false, false, false, false, false, false, false, false, false, false, false, false, false] _ _
        simp only [List.getElem_toArray, List.getElem_cons_zero, Act.put, List.setIfInBounds_toArray, List.set_cons_succ, List.set_cons_zero]
        refine wpAnyH_take (i := 1) (v := .int .i64 (i : Nat)) rfl (by kernel_rfl) (by kernel_rfl) (by kernel_rfl) (fun _ _ _ h => h) (Or.inl ⟨by rfl, fun w' hw' => by go_simp⟩) hS.out ?_
        change wpAnyH _ _ _ _ _ 21 #[true, true, false, false, false, false, false, false, false, false, false, false, false, false, false, false, false, false, false, false, false, false, false] _ _
        simp only [List.getElem_toArray, List.getElem_cons_succ, List.getElem_cons_zero, Act.put, List.setIfInBounds_toArray, List.set_cons_succ, List.set_cons_zero]
        refine wpAnyH_take (i := 2) (v := .int .i64 ((i : Int) % 3)) rfl (by kernel_rfl) (by kernel_rfl) (by kernel_rfl) (fun _ _ _ h => h) (Or.inl ⟨by rfl, fun w' hw' => by go_simp⟩) hS.out ?_
        change wpAnyH _ _ _ _ _ 20 #[true, true, true, false, false, false, false, false, false, false, false, false, false, false, false, false, false, false, false, false, false, false, false] _ _
        simp only [List.getElem_toArray, List.getElem_cons_succ, List.getElem_cons_zero, Act.put, List.setIfInBounds_toArray, List.set_cons_succ, List.set_cons_zero]
        refine wpAnyH_take (i := 3) (v := .int .u8 ((i : Int) % 3)) rfl (by kernel_rfl) (by kernel_rfl) (by kernel_rfl) (fun _ _ _ h => h) (Or.inl ⟨by rfl, fun w' hw' => by go_simp⟩) hS.out ?_
        change wpAnyH _ _ _ _ _ 19 #[true, true, true, true, false, false, false, false, false, false, false, false, false, false, false, false, false, false, false, false, false, false, false] _ _
        simp only [List.getElem_toArray, List.getElem_cons_succ, List.getElem_cons_zero, Act.put, List.setIfInBounds_toArray, List.set_cons_succ, List.set_cons_zero]
        refine wpAnyH_take (i := 4) (v := .int .u8 (1 + (i : Int) % 3)) rfl (by kernel_rfl) (by kernel_rfl) (by kernel_rfl) (fun _ _ _ h => h) (Or.inl ⟨by rfl, fun w' hw' => by go_simp⟩) hS.out ?_
        change wpAnyH _ _ _ _ _ 18 #[true, true, true, true, true, false, false, false, false, false, false, false, false, false, false, false, false, false, false, false, false, false, false] _ _
        simp only [List.getElem_toArray, List.getElem_cons_succ, List.getElem_cons_zero, Act.put, List.setIfInBounds_toArray, List.set_cons_succ, List.set_cons_zero]
        refine wpAnyH_take (i := 5) (v := .slice (some ad) len cap) rfl (by kernel_rfl) (by kernel_rfl) (by kernel_rfl) (fun _ _ _ h => h) (Or.inl ⟨by rfl, fun w' hw' => by go_simp⟩) hS.out ?_
        change wpAnyH _ _ _ _ _ 17 #[true, true, true, true, true, true, false, false, false, false, false, false, false, false, false, false, false, false, false, false, false, false, false] _ _
        simp only [List.getElem_toArray, List.getElem_cons_succ, List.getElem_cons_zero, Act.put, List.setIfInBounds_toArray, List.set_cons_succ, List.set_cons_zero]
        refine wpAnyH_take (i := 6) (v := .int .i64 (i : Nat)) rfl (by kernel_rfl) (by kernel_rfl) (by kernel_rfl) (fun _ _ _ h => h) (Or.inl ⟨by rfl, fun w' hw' => by go_simp⟩) hS.out ?_
        change wpAnyH _ _ _ _ _ 16 #[true, true, true, true, true, true, true, false, false, false, false, false, false, false, false, false, false, false, false, false, false, false, false] _ _
        simp only [List.getElem_toArray, List.getElem_cons_succ, List.getElem_cons_zero, Act.put, List.setIfInBounds_toArray, List.set_cons_succ, List.set_cons_zero]
        refine wpAnyH_take (i := 7) (v := .pointer (some (ad.add i))) rfl (by kernel_rfl) (by kernel_rfl) (by kernel_rfl) (fun _ _ _ h => h) (Or.inl ⟨by rfl, fun w' hw' => by go_simp⟩) hS.out ?_
        change wpAnyH _ _ _ _ _ 15 #[true, true, true, true, true, true, true, true, false, false, false, false, false, false, false, false, false, false, false, false, false, false, false] _ _
        simp only [List.getElem_toArray, List.getElem_cons_succ, List.getElem_cons_zero, Act.put, List.setIfInBounds_toArray, List.set_cons_succ, List.set_cons_zero]
        refine wpAnyH_take (i := 8) (v := .string (T i)) rfl (by kernel_rfl) (by kernel_rfl) (by kernel_rfl) (fun _ _ _ h => h) (Or.inl ⟨by rfl, fun w' hw' => by (have hca : w'.cell? (ad.add i) = some (.string (T i)) := hw'.cell hil); go_simp⟩) hS.out ?_
        change wpAnyH _ _ _ _ _ 14 #[true, true, true, true, true, true, true, true, true, false, false, false, false, false, false, false, false, false, false, false, false, false, false] _ _
        simp only [List.getElem_toArray, List.getElem_cons_succ, List.getElem_cons_zero, Act.put, List.setIfInBounds_toArray, List.set_cons_succ, List.set_cons_zero]
        refine wpAnyH_take (i := 9) (v := .slice (some ad) len cap) rfl (by kernel_rfl) (by kernel_rfl) (by kernel_rfl) (fun _ _ _ h => h) (Or.inl ⟨by rfl, fun w' hw' => by go_simp⟩) hS.out ?_
        change wpAnyH _ _ _ _ _ 13 #[true, true, true, true, true, true, true, true, true, true, false, false, false, false, false, false, false, false, false, false, false, false, false] _ _
        simp only [List.getElem_toArray, List.getElem_cons_succ, List.getElem_cons_zero, Act.put, List.setIfInBounds_toArray, List.set_cons_succ, List.set_cons_zero]
        refine wpAnyH_take (i := 10) (v := .int .i64 (i : Nat)) rfl (by kernel_rfl) (by kernel_rfl) (by kernel_rfl) (fun _ _ _ h => h) (Or.inl ⟨by rfl, fun w' hw' => by go_simp⟩) hS.out ?_
        change wpAnyH _ _ _ _ _ 12 #[true, true, true, true, true, true, true, true, true, true, true, false, false, false, false, false, false, false, false, false, false, false, false] _ _
        simp only [List.getElem_toArray, List.getElem_cons_succ, List.getElem_cons_zero, Act.put, List.setIfInBounds_toArray, List.set_cons_succ, List.set_cons_zero]
        refine wpAnyH_take (i := 11) (v := .pointer (some (ad.add i))) rfl (by kernel_rfl) (by kernel_rfl) (by kernel_rfl) (fun _ _ _ h => h) (Or.inl ⟨by rfl, fun w' hw' => by go_simp⟩) hS.out ?_
        change wpAnyH _ _ _ _ _ 11 #[true, true, true, true, true, true, true, true, true, true, true, true, false, false, false, false, false, false, false, false, false, false, false] _ _
        simp only [List.getElem_toArray, List.getElem_cons_succ, List.getElem_cons_zero, Act.put, List.setIfInBounds_toArray, List.set_cons_succ, List.set_cons_zero]
        refine wpAnyH_take (i := 12) (v := .string (T i)) rfl (by kernel_rfl) (by kernel_rfl) (by kernel_rfl) (fun _ _ _ h => h) (Or.inl ⟨by rfl, fun w' hw' => by (have hca : w'.cell? (ad.add i) = some (.string (T i)) := hw'.cell hil); go_simp⟩) hS.out ?_
        change wpAnyH _ _ _ _ _ 10 #[true, true, true, true, true, true, true, true, true, true, true, true, true, false, false, false, false, false, false, false, false, false, false] _ _
        simp only [List.getElem_toArray, List.getElem_cons_succ, List.getElem_cons_zero, Act.put, List.setIfInBounds_toArray, List.set_cons_succ, List.set_cons_zero]
        refine wpAnyH_take (i := 13) (v := .int .i64 ((T i).size : Nat)) rfl (by kernel_rfl) (by kernel_rfl) (by kernel_rfl) (fun _ _ _ h => h) (Or.inl ⟨by rfl, fun w' hw' => by go_simp⟩) hS.out ?_
        change wpAnyH _ _ _ _ _ 9 #[true, true, true, true, true, true, true, true, true, true, true, true, true, true, false, false, false, false, false, false, false, false, false] _ _
        simp only [List.getElem_toArray, List.getElem_cons_succ, List.getElem_cons_zero, Act.put, List.setIfInBounds_toArray, List.set_cons_succ, List.set_cons_zero]
        refine wpAnyH_take (i := 14) (v := .int .i64 (m : Nat)) rfl (by kernel_rfl) (by kernel_rfl) (by kernel_rfl) (fun _ _ _ h => h) (Or.inl ⟨by rfl, fun w' hw' => by go_simp⟩) hS.out ?_
        change wpAnyH _ _ _ _ _ 8 #[true, true, true, true, true, true, true, true, true, true, true, true, true, true, true, false, false, false, false, false, false, false, false] _ _
        simp only [List.getElem_toArray, List.getElem_cons_succ, List.getElem_cons_zero, Act.put, List.setIfInBounds_toArray, List.set_cons_succ, List.set_cons_zero]
        refine wpAnyH_take (i := 15) (v := .string (cut229 (T i))) rfl (by kernel_rfl) (by kernel_rfl) (by kernel_rfl) (fun _ _ _ h => h) (Or.inl ⟨by rfl, fun w' hw' => by go_simp⟩) hS.out ?_
        change wpAnyH _ _ _ _ _ 7 #[true, true, true, true, true, true, true, true, true, true, true, true, true, true, true, true, false, false, false, false, false, false, false] _ _
        simp only [List.getElem_toArray, List.getElem_cons_succ, List.getElem_cons_zero, Act.put, List.setIfInBounds_toArray, List.set_cons_succ, List.set_cons_zero]
        clear f1 f2 ftm hmin hm1 hm2 hts ec
        refine wpAnyH_ready (rs := [16, 20]) (by kernel_rfl) (by simp) (AllReadyH.cons rfl (fun K hK => ?_) (AllReadyH.cons rfl (fun K hK => ?_) AllReadyH.nil))
        · rw [if_pos (by rfl)]
          refine wp_called (by go_simp) ((AP.out w6 bd).mono ?_)
          rintro e w12 ⟨rfl, hv3, C12, g12⟩
          refine ⟨_, rfl, hK.out _ _ ?_ fun hS => ?_⟩
          · exact hT.out.after (b1.out.trans (bd.mono b1.out.size) |>.trans (g12.under (C1.out.after bd) (b1.out.trans (bd.mono b1.out.size)).size))
          change wpAnyH _ _ _ _ _ 6 #[true, true, true, true, true, true, true, true, true, true, true, true, true, true, true, true, true, false, false, false, false, false, false] _ _
          simp only [List.getElem_toArray, List.getElem_cons_succ, List.getElem_cons_zero, Act.put, List.setIfInBounds_toArray, List.set_cons_succ, List.set_cons_zero]
          clear hK K
          replace hS := Lib.hid hS
          have O12 := own_goes (C1.out.after bd) g12 (own_after O1.out bd)
          have b13 : Below w.heap.size w w12 := (b1.out.trans (bd.mono b1.out.size)).trans (g12.under (C1.out.after bd) (b1.out.trans (bd.mono b1.out.size)).size)
          clear AP g12
          refine wpAnyH_take (i := 17) (v := .tuple #[.agg #[.int .i64 (s : Int), .int .i64 (x : Int)], .int .i64 0]) rfl (by kernel_rfl) (by kernel_rfl) (by kernel_rfl) (fun _ _ _ h => h) (Or.inl ⟨by rfl, fun w' hw' => by go_simp⟩) hS.out ?_
          change wpAnyH _ _ _ _ _ 5 #[true, true, true, true, true, true, true, true, true, true, true, true, true, true, true, true, true, true, false, false, false, false, false] _ _
          simp only [List.getElem_toArray, List.getElem_cons_succ, List.getElem_cons_zero, Act.put, List.setIfInBounds_toArray, List.set_cons_succ, List.set_cons_zero]
          refine wpAnyH_take (i := 18) (v := .agg #[.int .i64 (s : Int), .int .i64 (x : Int)]) rfl (by kernel_rfl) (by kernel_rfl) (by kernel_rfl) (fun _ _ _ h => h) (Or.inl ⟨by rfl, fun w' hw' => by go_simp⟩) hS.out ?_
          change wpAnyH _ _ _ _ _ 4 #[true, true, true, true, true, true, true, true, true, true, true, true, true, true, true, true, true, true, true, false, false, false, false] _ _
          simp only [List.getElem_toArray, List.getElem_cons_succ, List.getElem_cons_zero, Act.put, List.setIfInBounds_toArray, List.set_cons_succ, List.set_cons_zero]
          refine wpAnyH_take (i := 19) (v := .int .i64 0) rfl (by kernel_rfl) (by kernel_rfl) (by kernel_rfl) (fun _ _ _ h => h) (Or.inl ⟨by rfl, fun w' hw' => by go_simp⟩) hS.out ?_
          change wpAnyH _ _ _ _ _ 3 #[true, true, true, true, true, true, true, true, true, true, true, true, true, true, true, true, true, true, true, true, false, false, false] _ _
          simp only [List.getElem_toArray, List.getElem_cons_succ, List.getElem_cons_zero, Act.put, List.setIfInBounds_toArray, List.set_cons_succ, List.set_cons_zero]
          refine wpAnyH_ready (rs := [20]) (by kernel_rfl) (by simp) (AllReadyH.cons rfl (fun K hK => ?_) AllReadyH.nil)
          rw [if_pos (by rfl)]
          have ba := (Below.refl _ w12).alloc (Nat.le_refl _) (.cells #[.int .i64 0, .int .i64 0] 34)
          obtain ⟨p, hp⟩ : ∃ p, w12.heap.size = p := ⟨_, rfl⟩
          refine wp_made (v := .pointer (some ⟨p, 0, none⟩)) (w' := w12.alloc (.cells #[.int .i64 0, .int .i64 0] 34)) (by exact run_allocAddr rfl hp) (hK.out _ _ (hS.out.after ba) fun hS => ?_)
          change wpAnyH _ _ _ _ _ 2 #[true, true, true, true, true, true, true, true, true, true, true, true, true, true, true, true, true, true, true, true, true, false, false] _ _
          simp only [List.getElem_toArray, List.getElem_cons_succ, List.getElem_cons_zero, Act.put, List.setIfInBounds_toArray, List.set_cons_succ, List.set_cons_zero]
          clear hK K
          replace hS := Lib.hid hS
          have rA := RowAt.new w12 34 #[.int .i64 0, .int .i64 0]
          rw [hp] at rA
          replace rA := Lib.hid rA
          have cA := Lib.hid (C12.out.after ba)
          have OA := Lib.hid (own_after O12 ba)
          have nA : Hid (u8.ownBlock ≠ some p) := fun e => absurd (O12.lt _ e).2 (by rw [hp]; exact Nat.lt_irrefl _)
          have bA := Lib.hid (b13.alloc b13.size (.cells #[.int .i64 0, .int .i64 0] 34))
          have pA : w.heap.size ≤ p := hp ▸ b13.size
          clear C12 O12 b13 ba
          clear hp
          generalize w12.alloc (.cells #[.int .i64 0, .int .i64 0] 34) = wA at rA cA OA bA hS ⊢
          refine wpAnyH_ready (rs := [21]) (by kernel_rfl) (by simp) (AllReadyH.cons rfl (fun K hK => ?_) AllReadyH.nil)
          rw [if_pos (by rfl)]
          refine wp_store_row 34 _ _ rfl p #[.int .i64 (s : Int), .int .i64 (x : Int)] rfl rfl 34 _ rA.out (size_addr _ rfl) rfl (by simp [Value.oneCell']) (hK.out _ _ (hT.out.after (below_setRow' bA.out pA _)) fun hS => ?_)
          change wpAnyH _ _ _ _ _ 1 #[true, true, true, true, true, true, true, true, true, true, true, true, true, true, true, true, true, true, true, true, true, true, false] _ _
          simp only [List.getElem_toArray, List.getElem_cons_succ, List.getElem_cons_zero, Act.put]
          clear hK K
          replace hS := Lib.hid hS
          replace cA := Lib.hid (cA.out.stored rA.out #[.int .i64 (s : Int), .int .i64 (x : Int)])
          replace OA := Lib.hid (own_stored OA.out nA.out #[.int .i64 (s : Int), .int .i64 (x : Int)])
          replace rA := Lib.hid (rA.out.setRow #[.int .i64 (s : Int), .int .i64 (x : Int)])
          replace bA := Lib.hid (below_setRow' bA.out pA #[.int .i64 (s : Int), .int .i64 (x : Int)])
          generalize wA.setRow p #[.int .i64 (s : Int), .int .i64 (x : Int)] = w13 at hS cA OA rA bA ⊢
          refine wpAnyH_take (i := 22) (v := .int .i64 0) rfl (by kernel_rfl) (by kernel_rfl) (by kernel_rfl) (fun _ _ _ h => h) (Or.inl ⟨by rfl, fun w' hw' => by go_simp⟩) hS.out ?_
          change wpAnyH _ _ _ _ _ 0 #[true, true, true, true, true, true, true, true, true, true, true, true, true, true, true, true, true, true, true, true, true, true, true] _ _
          simp only [List.getElem_toArray, List.getElem_cons_succ, List.getElem_cons_zero, Act.put, List.setIfInBounds_toArray, List.set_cons_succ, List.set_cons_zero]
          refine wpAnyH_done (by kernel_rfl) ?_ _
          clear hS nA pA C1 O1 b1 kr T6
          have szA : w.heap.size ≤ w13.heap.size := bA.out.size
          have hi6 : i ≤ 1000000 := by omega
          go_wp2_with (first | (refine wpList_load_row rfl 34 _ rfl p rfl 34 _ (0, 0) _ rA.out Tryz.underlying34 rfl (size_addr _ rfl) ?_) | (at_builtin; refine wpList_append_cs Tryz.underlying32 infoAddr rfl (by decide) (by decide) rfl _ _ rfl w.heap.size _ i _ [.int .i64 (s : Int), .int .i64 (x : Int)] rfl w13 OA.out rfl rfl rfl rfl (fun u hu => by simp at hu; rcases hu with rfl | rfl <;> rfl) hi6 szA ?_; intro v1 w14 hown hgrow hb4; refine Hid.out ?_))
          unfold Hid
          have C14 := Lib.hid (cA.out.grown OA.out hgrow.out)
          have O14 : Hid (w14.ownsRow w.heap.size 34 2 v1 (i + 1) (cellL ((i + 1) * 2) (addrV A3))) := by
            have h1 := hown.out
            rw [← e1.out, ← e2.out, cellL_two] at h1
            exact h1
          have b14 := Lib.hid (bA.out.trans hb4.out)
          clear cA OA bA rA hown hgrow hb4 szA e1 e2
          obtain ⟨g4, c4, rfl⟩ := ownsRow_succ O14.out
          go_wp2
          go_roundw
          case rel => exact ⟨i + 1, s, x + 1, S3, G3, hv3, A3, by omega, by go_num, O14, hc3, C14, LI3, BK3, sq3, rb3, PG3, b14⟩
          case measure => simp [intOf]; omega
        · rw [if_pos (by rfl)]
          have ba := (Below.refl _ w6).alloc (Nat.le_refl _) (.cells #[.int .i64 0, .int .i64 0] 34)
          obtain ⟨p, hp⟩ : ∃ p, w6.heap.size = p := ⟨_, rfl⟩
          refine wp_made (v := .pointer (some ⟨p, 0, none⟩)) (w' := w6.alloc (.cells #[.int .i64 0, .int .i64 0] 34)) (by exact run_allocAddr rfl hp) (hK.out _ _ (hS.out.after ba) fun hS => ?_)
          change wpAnyH _ _ _ _ _ 6 #[true, true, true, true, true, true, true, true, true, true, true, true, true, true, true, true, false, false, false, false, true, false, false] _ _
          simp only [List.getElem_toArray, List.getElem_cons_succ, List.getElem_cons_zero, Act.put, List.setIfInBounds_toArray, List.set_cons_succ, List.set_cons_zero]
          clear hK K
          replace hS := Lib.hid hS
          have rA := RowAt.new w6 34 #[.int .i64 0, .int .i64 0]
          have bd2 : Below wr.heap.size wr (w6.alloc (.cells #[.int .i64 0, .int .i64 0] 34)) := bd.trans (ba.mono bd.size)
          have pA : wr.heap.size ≤ p := hp ▸ bd.size
          rw [hp] at rA
          clear hp
          generalize w6.alloc (.cells #[.int .i64 0, .int .i64 0] 34) = w7 at hS rA bd2 ⊢
          clear ba bd
          refine wpAnyH_ready (rs := [16]) (by kernel_rfl) (by simp) (AllReadyH.cons rfl (fun K hK => ?_) AllReadyH.nil)
          rw [if_pos (by rfl)]
          refine wp_called (by go_simp) ((AP.out w7 bd2).mono ?_)
          rintro e w12 ⟨rfl, hv3, C12, g12⟩
          refine ⟨_, rfl, hK.out _ _ ?_ fun hS => ?_⟩
          · exact hT.out.after ((b1.out.trans (bd2.mono b1.out.size)).trans (g12.under (C1.out.after bd2) (b1.out.trans (bd2.mono b1.out.size)).size))
          change wpAnyH _ _ _ _ _ 5 #[true, true, true, true, true, true, true, true, true, true, true, true, true, true, true, true, true, false, false, false, true, false, false] _ _
          simp only [List.getElem_toArray, List.getElem_cons_succ, List.getElem_cons_zero, Act.put, List.setIfInBounds_toArray, List.set_cons_succ, List.set_cons_zero]
          clear hK K
          replace hS := Lib.hid hS
          have OA := Lib.hid (own_goes (C1.out.after bd2) g12 (own_after O1.out bd2))
          have bA : Hid (Below w.heap.size w w12) := (b1.out.trans (bd2.mono b1.out.size)).trans (g12.under (C1.out.after bd2) (b1.out.trans (bd2.mono b1.out.size)).size)
          have nA : Hid (u8.ownBlock ≠ some p) := fun e => absurd (O1.out.lt _ e).2 (Nat.not_lt.2 pA)
          replace rA := Lib.hid (rA.beside g12.side (fun hk => absurd (C1.out.base p hk).2 (Nat.not_lt.2 pA)))
          have cA := C12
          replace pA : w.heap.size ≤ p := Nat.le_trans b1.out.size pA
          clear AP g12 bd2 C12
          generalize w12 = wA at *
          refine wpAnyH_take (i := 17) (v := .tuple #[.agg #[.int .i64 (s : Int), .int .i64 (x : Int)], .int .i64 0]) rfl (by kernel_rfl) (by kernel_rfl) (by kernel_rfl) (fun _ _ _ h => h) (Or.inl ⟨by rfl, fun w' hw' => by go_simp⟩) hS.out ?_
          change wpAnyH _ _ _ _ _ 4 #[true, true, true, true, true, true, true, true, true, true, true, true, true, true, true, true, true, true, false, false, true, false, false] _ _
          simp only [List.getElem_toArray, List.getElem_cons_succ, List.getElem_cons_zero, Act.put, List.setIfInBounds_toArray, List.set_cons_succ, List.set_cons_zero]
          refine wpAnyH_take (i := 18) (v := .agg #[.int .i64 (s : Int), .int .i64 (x : Int)]) rfl (by kernel_rfl) (by kernel_rfl) (by kernel_rfl) (fun _ _ _ h => h) (Or.inl ⟨by rfl, fun w' hw' => by go_simp⟩) hS.out ?_
          change wpAnyH _ _ _ _ _ 3 #[true, true, true, true, true, true, true, true, true, true, true, true, true, true, true, true, true, true, true, false, true, false, false] _ _
          simp only [List.getElem_toArray, List.getElem_cons_succ, List.getElem_cons_zero, Act.put, List.setIfInBounds_toArray, List.set_cons_succ, List.set_cons_zero]
          refine wpAnyH_take (i := 19) (v := .int .i64 0) rfl (by kernel_rfl) (by kernel_rfl) (by kernel_rfl) (fun _ _ _ h => h) (Or.inl ⟨by rfl, fun w' hw' => by go_simp⟩) hS.out ?_
          change wpAnyH _ _ _ _ _ 2 #[true, true, true, true, true, true, true, true, true, true, true, true, true, true, true, true, true, true, true, true, true, false, false] _ _
          simp only [List.getElem_toArray, List.getElem_cons_succ, List.getElem_cons_zero, Act.put, List.setIfInBounds_toArray, List.set_cons_succ, List.set_cons_zero]
          refine wpAnyH_ready (rs := [21]) (by kernel_rfl) (by simp) (AllReadyH.cons rfl (fun K hK => ?_) AllReadyH.nil)
          rw [if_pos (by rfl)]
          refine wp_store_row 34 _ _ rfl p #[.int .i64 (s : Int), .int .i64 (x : Int)] rfl rfl 34 _ rA.out (size_addr _ rfl) rfl (by simp [Value.oneCell']) (hK.out _ _ (hT.out.after (below_setRow' bA.out pA _)) fun hS => ?_)
          change wpAnyH _ _ _ _ _ 1 #[true, true, true, true, true, true, true, true, true, true, true, true, true, true, true, true, true, true, true, true, true, true, false] _ _
          simp only [List.getElem_toArray, List.getElem_cons_succ, List.getElem_cons_zero, Act.put]
          clear hK K
          replace hS := Lib.hid hS
          replace cA := Lib.hid (cA.out.stored rA.out #[.int .i64 (s : Int), .int .i64 (x : Int)])
          replace OA := Lib.hid (own_stored OA.out nA.out #[.int .i64 (s : Int), .int .i64 (x : Int)])
          replace rA := Lib.hid (rA.out.setRow #[.int .i64 (s : Int), .int .i64 (x : Int)])
          replace bA := Lib.hid (below_setRow' bA.out pA #[.int .i64 (s : Int), .int .i64 (x : Int)])
          generalize wA.setRow p #[.int .i64 (s : Int), .int .i64 (x : Int)] = w13 at hS cA OA rA bA ⊢
          refine wpAnyH_take (i := 22) (v := .int .i64 0) rfl (by kernel_rfl) (by kernel_rfl) (by kernel_rfl) (fun _ _ _ h => h) (Or.inl ⟨by rfl, fun w' hw' => by go_simp⟩) hS.out ?_
          change wpAnyH _ _ _ _ _ 0 #[true, true, true, true, true, true, true, true, true, true, true, true, true, true, true, true, true, true, true, true, true, true, true] _ _
          simp only [List.getElem_toArray, List.getElem_cons_succ, List.getElem_cons_zero, Act.put, List.setIfInBounds_toArray, List.set_cons_succ, List.set_cons_zero]
          refine wpAnyH_done (by kernel_rfl) ?_ _
          clear hS nA pA C1 O1 b1 kr T6
          have szA : w.heap.size ≤ w13.heap.size := bA.out.size
          have hi6 : i ≤ 1000000 := by omega
          go_wp2_with (first | (refine wpList_load_row rfl 34 _ rfl p rfl 34 _ (0, 0) _ rA.out Tryz.underlying34 rfl (size_addr _ rfl) ?_) | (at_builtin; refine wpList_append_cs Tryz.underlying32 infoAddr rfl (by decide) (by decide) rfl _ _ rfl w.heap.size _ i _ [.int .i64 (s : Int), .int .i64 (x : Int)] rfl w13 OA.out rfl rfl rfl rfl (fun u hu => by simp at hu; rcases hu with rfl | rfl <;> rfl) hi6 szA ?_; intro v1 w14 hown hgrow hb4; refine Hid.out ?_))
          unfold Hid
          have C14 := Lib.hid (cA.out.grown OA.out hgrow.out)
          have O14 : Hid (w14.ownsRow w.heap.size 34 2 v1 (i + 1) (cellL ((i + 1) * 2) (addrV A3))) := by
            have h1 := hown.out
            rw [← e1.out, ← e2.out, cellL_two] at h1
            exact h1
          have b14 := Lib.hid (bA.out.trans hb4.out)
          clear cA OA bA rA hown hgrow hb4 szA e1 e2
          obtain ⟨g4, c4, rfl⟩ := ownsRow_succ O14.out
          go_wp2
          go_roundw
          case rel => exact ⟨i + 1, s, x + 1, S3, G3, hv3, A3, by omega, by go_num, O14, hc3, C14, LI3, BK3, sq3, rb3, PG3, b14⟩
          case measure => simp [intOf]; omega
      · have l0 : ¬ (i : Int) < (len : Int) := by omega
        have hwn : wornB S1 k = false := by
          unfold wornB
          rw [rb.out.2, BK1.out.wear k, rb.out.1]
          rfl
        have sqM : Hid ((freshG (mountN L S1 + 1)).seq = i + 1) := by
          unfold Hid
          have := LI1.out.sq
          show mountN L S1 + 1 = i + 1
          rw [← this]
          exact sq1.out
        have MT := Lib.hid (mount_any w.heap.size L S1 hv1 wr (Lib.hid C1.out.ch) C1.out.up (Lib.hid C1.out.wide) kr hb.out.size (Lib.hid (by have := LI1.out.sq; have := LI1.out.sqb; omega)))
        generalize freshG (mountN L S1 + 1) = G2 at *
        have hiL : i = len := by omega
        have RD := Lib.hid (PG.out.reads (k := k) (by rw [hm.out]; decide) (by omega))
        have lft : S1.left ≠ 1 := by have := LI1.out.left; omega
        have lwS := LI1.out.lowS (by omega)
        clear hc LI1 BK1 PG rb
        replace hiL := Lib.hid hiL
        go_wp2_with fail
        refine MT.out.mono ?_
        rintro e w3 ⟨lp2, rfl, hlp2, CM, bM⟩
        clear hlp2 l0
        have CL := Lib.hid (C1.out.after bM)
        have O3 := Lib.hid (own_after O1.out bM)
        have b3 := Lib.hid (hb.out.trans (bM.mono hb.out.size))
        have QM := lseq_any w.heap.size w3 lp2 L S1 hv1 G2 CM
        have QL := lseq_any w.heap.size w3 lp L S1 hv1 G1 CL
        rw [sqM.out] at QM
        rw [sq1.out] at QL
        replace QM := Lib.hid QM
        replace QL := Lib.hid QL
        clear MT C1 O1 hb bM kr sqM sq1
        go_wp2_with fail
        refine QM.out.mono ?_
        rintro e w3 ⟨rfl, rfl⟩
        go_wp2_with fail
        refine QL.out.mono ?_
        rintro e w3 ⟨rfl, rfl⟩
        have EK := Lib.hid (lerase_ok (by rw [hn.out]; exact hk10) hwn lft lwS w3 CM)
        clear QM QL CL hwn lft lwS
        go_wp2_with fail
        rw [hk.out]
        refine EK.out.mono ?_
        rintro e w5 ⟨rfl, hv5, C5, g5⟩
        have O5 := own_goes CM.out g5 O3.out
        have b5 := Lib.hid (b3.out.trans (g5.under CM.out b3.out.size))
        obtain ⟨a8, c8, rfl, SA, hown⟩ := own_seesV (F := addrV A) O5 (fun m hm => cellL_get _ _ _ hm)
        clear hown
        rw [hn.out, hm.out] at RD
        replace SA := Lib.hid SA
        generalize lerS S1 k = S5 at *
        generalize closeG G2 k = G5 at *
        clear EK O5 O3 b3 CM g5
        go_wp2
        go_loopw [16, 17] (fun v16 v17 wr => ∃ j q : Nat, j ≤ len ∧ v17 = .int .i64 (j : Int) ∧ v16 = .int .u64 (q : Int) ∧ Hid (q ≤ j) ∧ Hid (Lg w.heap.size wr lp2 L S5 hv5 G5) ∧ Hid (SeesV wr a8 (i * 2) (addrV A)) ∧ Hid (Below w.heap.size w wr)) (fun _ v17 _ => len - (intOf v17).toNat)
        case atStart => exact ⟨0, 0, Nat.zero_le _, rfl, rfl, Nat.le_refl 0, C5, SA, b5⟩
        case round =>
          clear C5 SA b5
          obtain ⟨j, q, hj, rfl, rfl, hq, C5, SA, bb⟩ := hrel
          have kr : Hid (KRow wr) := hkr.out.below bb.out hkr.out.1 bb.out.size
          by_cases hjl : j < len
          · have l0 : (j : Int) < (len : Int) := by omega
            have hji : j < i := by rw [hiL.out]; exact hjl
            have RJ := lread_any w.heap.size wr lp2 L S5 hv5 G5 C5 kr (A j).1 (A j).2
            have RDj := RD.out j hji
            rw [hn.out, hm.out] at RJ
            obtain ⟨ad8, rfl⟩ : ∃ ad, a8 = some ad := ⟨_, (SA.out (j * 2) (by omega)).choose_spec.1⟩
            obtain ⟨adT, rfl⟩ : ∃ ad, a = some ad := ⟨_, (hT.out j hjl).choose_spec.1⟩
            by_cases hzk : (A j).1 = (k : Int)
            · obtain ⟨e3, v3⟩ := RDj.1 hzk
              rw [e3, v3] at RJ
              replace RJ := Lib.hid RJ
              have zk1 : (((A j).1 : Int) == (k : Int)) = true := by rw [beq_iff_eq]; exact hzk
              clear RDj e3 v3 hzk
              go_wp2_with (first | (refine wpList_known rfl (at_addrs SA.out hji rfl rfl rfl rfl _) ?_) | (refine wpList_known rfl (get_addr SA.out hji rfl rfl) ?_))
              refine RJ.out.mono ?_
              rintro e w6 ⟨rfl, b6⟩
              have b7 := Lib.hid (b6.alloc b6.size (.cells #[.int .u8 0, .int .u64 0, .string ⟨#[]⟩] 41))
              have C7 := Lib.hid (C5.out.after b7.out)
              have S7 := Lib.hid (SA.out.after b7.out)
              have B7 := Lib.hid (bb.out.trans (b7.out.mono bb.out.size))
              clear RJ SA C5 bb b6 b7 kr
              go_wp2_with (refine wpList_store_row rfl 41 _ _ rfl w6.heap.size #[.int .u8 0, .int .u64 0, .string ⟨#[]⟩] rfl rfl 41 _ (RowAt.new _ _ _) (size_frame _ rfl) rfl (by simp [Value.oneCell']) ?_; rw [World.setRow_alloc_new]; refine Hid.out ?_)
              unfold Hid
              generalize w6.alloc (.cells #[.int .u8 0, .int .u64 0, .string ⟨#[]⟩] 41) = w7 at *
              have c25 := S7.out.cell (m := j * 2) (by omega)
              rw [addrV_0] at c25
              go_wp2_with (refine wpList_known rfl (at_addrs S7.out hji rfl rfl rfl rfl _) ?_)
              go_roundw
              case rel => exact ⟨j + 1, q, by omega, by go_num, rfl, by unfold Hid; have := hq.out; omega, C7, S7, B7⟩
              case measure => simp [intOf]; omega
            · obtain ⟨e3, v3⟩ := RDj.2 hzk
              rw [e3, v3] at RJ
              obtain ⟨J, hJ⟩ : ∃ J : Int, Hid (((j + 1 : Nat) : Int) = J) := ⟨_, rfl⟩
              obtain ⟨K, hK⟩ : ∃ K : Nat, Hid (1 + j % 3 = K) := ⟨_, rfl⟩
              rw [hJ.out, hK.out] at RJ
              replace RJ := Lib.hid RJ
              have zk1 : (((A j).1 : Int) == (k : Int)) = false := by rw [beq_eq_false_iff_ne]; exact hzk
              clear RDj e3 v3 hzk
              go_wp2_with (first | (refine wpList_known rfl (at_addrs SA.out hji rfl rfl rfl rfl _) ?_) | (refine wpList_known rfl (get_addr SA.out hji rfl rfl) ?_))
              refine RJ.out.mono ?_
              rintro e w6 ⟨rfl, b6⟩
              have b7 := Lib.hid (b6.alloc b6.size (.cells #[.int .u8 (K : Nat), .int .u64 J, .string (cut229 (T j))] 41))
              have C7 := Lib.hid (C5.out.after b7.out)
              have S7 := Lib.hid (SA.out.after b7.out)
              have B7 := Lib.hid (bb.out.trans (b7.out.mono bb.out.size))
              have T7 := Lib.hid (hT.out.after B7.out)
              have rF := RowAt.new w6 41 #[.int .u8 (K : Nat), .int .u64 J, .string (cut229 (T j))]
              replace rF := Lib.hid rF
              clear RJ SA C5 bb b6 b7 kr
              have c25 := S7.out.cell (m := j * 2) (by omega)
              rw [addrV_0] at c25
              go_wp2_with (first | (refine wpList_store_row rfl 41 _ _ rfl w6.heap.size #[.int .u8 0, .int .u64 0, .string ⟨#[]⟩] rfl rfl 41 _ (RowAt.new _ _ _) (size_frame _ rfl) rfl (by simp [Value.oneCell']) ?_; rw [World.setRow_alloc_new]) | (refine wpList_known rfl (at_addrs S7.out hji rfl rfl rfl rfl _) ?_))
              generalize w6.heap.size = p at *
              generalize w6.alloc (.cells #[.int .u8 (K : Nat), .int .u64 J, .string (cut229 (T j))] 41) = w7 at *
              clear c25
              have hts : (T j).size ≤ maxLen := hsz.out j
              unfold maxLen at hts
              obtain ⟨m, hm1, hm2, ec⟩ : ∃ m : Nat, (if (229 : Int) < ((T j).size : Int) then (229 : Int) else ((T j).size : Int)) = (m : Int) ∧ m ≤ (T j).size ∧ (T j).extract 0 m = cut229 (T j) := ⟨min (T j).size 229, by split <;> omega, by omega, rfl⟩
              have hmin : min ((T j).size : Int) 229 = (m : Int) := by rw [← hm1]; split <;> omega
              have ftm : (j : Int).tmod 3 = (j : Int) % 3 := Int.tmod_eq_emod_of_nonneg (by omega)
              have f1 : IntKind.u8.wrap ((j : Int) % 3) = (j : Int) % 3 := IntWalk.u8_in _ (by omega)
              have f2 : IntKind.u8.wrap (1 + (j : Int) % 3) = (K : Int) := by
                have h1 := hK.out
                rw [IntWalk.u8_in _ (by omega)]
                omega
              have fq : decide (J ≤ (q : Int)) = false := decide_eq_false (by have h1 := hJ.out; have h2 := hq.out; omega)
              have HC : Hid (Below w7.heap.size w7 w7.drew ∧ SeesV w7.drew (some adT) len (strV T) ∧ RowAt w7.drew p 41 #[.int .u8 (K : Nat), .int .u64 J, .string (cut229 (T j))]) :=
                ⟨(Below.refl _ _).drew, T7.out.after (Below.refl _ w7).drew, rF.out⟩
              refine wp_region_class (fun w' => Below w7.heap.size w7 w' ∧ SeesV w' (some adT) len (strV T) ∧ RowAt w' p 41 #[.int .u8 (K : Nat), .int .u64 J, .string (cut229 (T j))]) (by kernel_rfl) (by kernel_rfl) HC.out ?_
              clear HC
              refine wpQuiet_val (by rfl) (.int .i64 0) (fun w' hC => by go_simp) ?_
              simp only [Act.put, List.setIfInBounds_toArray, List.set_cons_succ, List.set_cons_zero]
              refine wpQuiet_val (by rfl) (.bool false) (fun w' hC => by go_simp) ?_
              simp only [Act.put, List.setIfInBounds_toArray, List.set_cons_succ, List.set_cons_zero]
              refine wpQuiet_val (by rfl) (.bool false) (fun w' hC => by go_simp) ?_
              simp only [Act.put, List.setIfInBounds_toArray, List.set_cons_succ, List.set_cons_zero]
              refine wpQuiet_val (by rfl) (.pointer (some ⟨p, 0, none⟩)) (fun w' hC => by go_simp) ?_
              simp only [Act.put, List.setIfInBounds_toArray, List.set_cons_succ, List.set_cons_zero]
              refine wpQuiet_val (by rfl) (.int .u8 (K : Nat)) (fun w' hC => get_cell hC.2.2 rfl rfl Tryz.underlying5 rfl rfl) ?_
              simp only [Act.put, List.setIfInBounds_toArray, List.set_cons_succ, List.set_cons_zero]
              refine wpQuiet_val (by rfl) (.int .i64 (j : Nat)) (fun w' hC => by go_simp) ?_
              simp only [Act.put, List.setIfInBounds_toArray, List.set_cons_succ, List.set_cons_zero]
              refine wpQuiet_val (by rfl) (.int .i64 ((j : Int) % 3)) (fun w' hC => by go_simp) ?_
              simp only [Act.put, List.setIfInBounds_toArray, List.set_cons_succ, List.set_cons_zero]
              refine wpQuiet_val (by rfl) (.int .u8 ((j : Int) % 3)) (fun w' hC => by go_simp) ?_
              simp only [Act.put, List.setIfInBounds_toArray, List.set_cons_succ, List.set_cons_zero]
              refine wpQuiet_val (by rfl) (.int .u8 (K : Nat)) (fun w' hC => by go_simp) ?_
              simp only [Act.put, List.setIfInBounds_toArray, List.set_cons_succ, List.set_cons_zero]
              refine wpQuiet_val (by rfl) (.bool false) (fun w' hC => by go_simp) ?_
              simp only [Act.put, List.setIfInBounds_toArray, List.set_cons_succ, List.set_cons_zero]
              refine wpQuiet_val (by rfl) (.bool false) (fun w' hC => by go_simp) ?_
              simp only [Act.put, List.setIfInBounds_toArray, List.set_cons_succ, List.set_cons_zero]
              refine wpQuiet_val (by rfl) (.bool false) (fun w' hC => by go_simp) ?_
              simp only [Act.put, List.setIfInBounds_toArray, List.set_cons_succ, List.set_cons_zero]
              refine wpQuiet_val (by rfl) (.pointer (some ⟨p, 2, none⟩)) (fun w' hC => by go_simp) ?_
              simp only [Act.put, List.setIfInBounds_toArray, List.set_cons_succ, List.set_cons_zero]
              refine wpQuiet_val (by rfl) (.string (cut229 (T j))) (fun w' hC => get_cell hC.2.2 rfl rfl Tryz.underlying9 rfl rfl) ?_
              simp only [Act.put, List.setIfInBounds_toArray, List.set_cons_succ, List.set_cons_zero]
              refine wpQuiet_val (by rfl) (.slice (some adT) len cap) (fun w' hC => by go_simp) ?_
              simp only [Act.put, List.setIfInBounds_toArray, List.set_cons_succ, List.set_cons_zero]
              refine wpQuiet_val (by rfl) (.int .i64 (j : Nat)) (fun w' hC => by go_simp) ?_
              simp only [Act.put, List.setIfInBounds_toArray, List.set_cons_succ, List.set_cons_zero]
              refine wpQuiet_val (by rfl) (.pointer (some (adT.add j))) (fun w' hC => by go_simp) ?_
              simp only [Act.put, List.setIfInBounds_toArray, List.set_cons_succ, List.set_cons_zero]
              refine wpQuiet_val (by rfl) (.string (T j)) (fun w' hC => by (have hca : w'.cell? (adT.add j) = some (.string (T j)) := hC.2.1.cell hjl); go_simp) ?_
              simp only [Act.put, List.setIfInBounds_toArray, List.set_cons_succ, List.set_cons_zero]
              refine wpQuiet_val (by rfl) (.slice (some adT) len cap) (fun w' hC => by go_simp) ?_
              simp only [Act.put, List.setIfInBounds_toArray, List.set_cons_succ, List.set_cons_zero]
              refine wpQuiet_val (by rfl) (.int .i64 (j : Nat)) (fun w' hC => by go_simp) ?_
              simp only [Act.put, List.setIfInBounds_toArray, List.set_cons_succ, List.set_cons_zero]
              refine wpQuiet_val (by rfl) (.pointer (some (adT.add j))) (fun w' hC => by go_simp) ?_
              simp only [Act.put, List.setIfInBounds_toArray, List.set_cons_succ, List.set_cons_zero]
              refine wpQuiet_val (by rfl) (.string (T j)) (fun w' hC => by (have hca : w'.cell? (adT.add j) = some (.string (T j)) := hC.2.1.cell hjl); go_simp) ?_
              simp only [Act.put, List.setIfInBounds_toArray, List.set_cons_succ, List.set_cons_zero]
              refine wpQuiet_val (by rfl) (.int .i64 ((T j).size : Nat)) (fun w' hC => by go_simp) ?_
              simp only [Act.put, List.setIfInBounds_toArray, List.set_cons_succ, List.set_cons_zero]
              refine wpQuiet_val (by rfl) (.int .i64 (m : Nat)) (fun w' hC => by go_simp) ?_
              simp only [Act.put, List.setIfInBounds_toArray, List.set_cons_succ, List.set_cons_zero]
              refine wpQuiet_val (by rfl) (.string (cut229 (T j))) (fun w' hC => by go_simp) ?_
              simp only [Act.put, List.setIfInBounds_toArray, List.set_cons_succ, List.set_cons_zero]
              refine wpQuiet_val (by rfl) (.bool false) (fun w' hC => by go_simp) ?_
              simp only [Act.put, List.setIfInBounds_toArray, List.set_cons_succ, List.set_cons_zero]
              refine wpQuiet_val (by rfl) (.bool false) (fun w' hC => by go_simp) ?_
              simp only [Act.put, List.setIfInBounds_toArray, List.set_cons_succ, List.set_cons_zero]
              refine wpQuiet_val (by rfl) (.bool false) (fun w' hC => by go_simp) ?_
              simp only [Act.put, List.setIfInBounds_toArray, List.set_cons_succ, List.set_cons_zero]
              refine wpQuiet_val (by rfl) (.pointer (some ⟨p, 1, none⟩)) (fun w' hC => by go_simp) ?_
              simp only [Act.put, List.setIfInBounds_toArray, List.set_cons_succ, List.set_cons_zero]
              refine wpQuiet_val (by rfl) (.int .u64 J) (fun w' hC => get_cell hC.2.2 rfl rfl Tryz.underlying37 rfl rfl) ?_
              simp only [Act.put, List.setIfInBounds_toArray, List.set_cons_succ, List.set_cons_zero]
              refine wpQuiet_val (by rfl) (.int .u64 (q : Nat)) (fun w' hC => by go_simp) ?_
              simp only [Act.put, List.setIfInBounds_toArray, List.set_cons_succ, List.set_cons_zero]
              refine wpQuiet_val (by rfl) (.bool false) (fun w' hC => by go_simp) ?_
              simp only [Act.put, List.setIfInBounds_toArray, List.set_cons_succ, List.set_cons_zero]
              refine wpQuiet_val (by rfl) (.bool false) (fun w' hC => by go_simp) ?_
              simp only [Act.put, List.setIfInBounds_toArray, List.set_cons_succ, List.set_cons_zero]
              intro w8 hC
              have C8 := Lib.hid (C7.out.after hC.1)
              have S8 := Lib.hid (S7.out.after hC.1)
              have B8 := Lib.hid (B7.out.trans (hC.1.mono B7.out.size))
              have r8 := Lib.hid hC.2.2
              clear hC C7 S7 B7 T7 rF hts hm1 hm2 ec hmin ftm f1 f2 fq
              go_wp2_with (refine wpList_known rfl (get_cell r8.out rfl rfl Tryz.underlying37 rfl rfl) ?_)
              go_roundw
              case rel => exact ⟨j + 1, j + 1, by omega, by go_num, by rw [← hJ.out], Nat.le_refl _, C8, S8, B8⟩
              case measure => simp [intOf]; omega
          · have l0 : ¬ (j : Int) < (len : Int) := by omega
            go_wp2
            go_ret
            exact ⟨rfl, bb.out⟩
theorem reads_walk (a : Option Addr) (len cap : Nat) (ss : List ByteArray) (n : Int) (hn : (Lit.int .u8 n).wf = true) (w : World) (hkr : KRow w) (hs : CameStrs w a len cap ss) :
    Calls Tryz.prog 3 #[.slice a len cap, .int .u8 n] w fun e w' => e = .returned (.bool true) ∧ Below w.heap.size w w' := by
  have h1 := wf_u8 hn
  have hl := hs.1
  have hT : SeesV w a len (strV fun j => ss.getD j ⟨#[]⟩) := fun m hm => by
    obtain ⟨ad, e, hb, hc⟩ := hs.2.2.2.2 m (by omega)
    refine ⟨ad, e, hb, ?_⟩
    rw [hc]
    show some (Value.string ss[m]) = some (Value.string (ss.getD m ⟨#[]⟩))
    rw [List.getD_eq_getElem?_getD, List.getElem?_eq_getElem (by omega), Option.getD_some]
  have hz : ∀ j, (ss.getD j ⟨#[]⟩).size ≤ maxLen := fun j => by
    rw [List.getD_eq_getElem?_getD]
    by_cases hj : j < ss.length
    · rw [List.getElem?_eq_getElem hj, Option.getD_some]
      exact hs.2.2.2.1 _ (List.getElem_mem hj)
    · rw [List.getElem?_eq_none (by omega)]
      decide
  have := reads_true a len cap _ n.toNat (by omega) w hkr hT hz
  rwa [Int.toNat_of_nonneg h1.1] at this

end Go.Proofs.YtapebaoajknepaaGreatDoor
