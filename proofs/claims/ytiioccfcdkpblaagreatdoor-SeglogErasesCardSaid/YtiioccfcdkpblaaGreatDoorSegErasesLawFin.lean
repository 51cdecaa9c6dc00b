/-
  The walk of SeglogErases.
-/
import Derived.Test.YtiioccfcdkpblaaGreatDoorAll8
namespace Go.Proofs.YtiioccfcdkpblaaGreatDoor
open Go.RowKit
set_option linter.unusedVariables false

set_option maxHeartbeats 8000000 in
set_option maxRecDepth 8000 in
theorem erases_true (n at' : Nat) (hn8 : n < 256) (ha8 : at' < 256) (w : World) (hkr : Hid (KRow w)) :
    Calls Tryz.prog 6 #[.int .u8 (n : Nat), .int .u8 (at' : Nat)] w fun e w' => e = .returned (.bool true) ∧ Below w.heap.size w w' := by
  have NP := Lib.hid (newPower_any w)
  obtain ⟨k, hk, hk4⟩ : ∃ k : Nat, Hid ((at' : Int) % 4 = (k : Int)) ∧ k < 4 := ⟨at' % 4, by unfold Hid; omega, by omega⟩
  obtain ⟨nn, hnn, hn5⟩ : ∃ nn : Nat, Hid ((n : Int) % 5 = (nn : Int)) ∧ nn < 5 := ⟨n % 5, by unfold Hid; omega, by omega⟩
  go_enter Tryz.func6, Tryz.ntmps6
  go_wp2_with fail
  refine NP.out.mono ?_
  rintro e w1 ⟨rfl, r1, b1⟩
  have NW := Lib.hid (new_yes w.heap.size w.heap.size 4 2 50 true 0 0 0 none 0 0 (fun _ => 0) w1 r1 (Lib.hid (SeesV.nil _ _ _)) (Nat.le_refl _) (Lib.hid (by decide)) (Lib.hid (by decide)) (by decide) (by decide) (by decide) (by decide) (by decide) (by decide))
  clear NP r1
  go_wp2_with fail
  refine NW.out.mono ?_
  rintro e w2 ⟨L, rfl, _, hn, hm, C2, b2⟩
  have b3 := b1.trans (b2.mono b1.size)
  clear NW b1 b2
  rw [badN_none] at C2
  have k3 : Hid (KRow w2) := hkr.out.below b3 hkr.out.1 b3.size
  have mt := fresh_mount (L := L) (S := newS true 0 0 0 50 (fun _ => false)) (fun _ _ => rfl)
  have LI0 := LI.fresh (L := L) 50 (fun _ => false)
  have BK0 := Bk.fresh (L := L) (by rw [hm]; decide) 50 (fun _ => false) (mountN L (newS true 0 0 0 50 (fun _ => false)) + 1)
  have MT := Lib.hid (mount_any w.heap.size L _ _ w2 C2 rfl (Lib.hid (fun _ _ => by show (ByteArray.mk #[]).size ≤ 256; decide)) k3 b3.size (Lib.hid (by rw [mt]; decide)))
  rw [mt] at LI0 BK0 MT
  have rb : Hid ((newS true 0 0 0 50 (fun _ => false)).rated = 50 ∧ (newS true 0 0 0 50 (fun _ => false)).bad = fun _ => false) := ⟨rfl, rfl⟩
  generalize newS true 0 0 0 50 (fun _ => false) = S at *
  replace hn := Lib.hid hn
  replace hm := Lib.hid hm
  clear C2 mt
  go_wp2_with fail
  refine MT.out.mono ?_
  rintro e w4 ⟨lp, rfl, hlp, C4, b4⟩
  have b5 := b3.trans (b4.mono b3.size)
  clear MT b3 b4 k3
  have k5 : Hid (KRow w4) := hkr.out.below b5 hkr.out.1 b5.size
  have SH := Lib.hid (shown13_any w4 k5)
  clear k5
  go_wp2_with fail
  refine SH.out.mono ?_
  rintro e w5 ⟨rfl, b6⟩
  have C5 := Lib.hid (C4.out.after b6)
  have b7 := b5.trans (b6.mono b5.size)
  replace LI0 := Lib.hid LI0
  replace BK0 := Lib.hid BK0
  clear SH C4 b5 b6 hlp
  go_wp2
  go_loopw [8] (fun v wr => ∃ (i cs cp : Nat) (S : St) (G : Sg) (hv : Value), i ≤ 8 ∧ v = .int .i64 (i : Int) ∧ Hid (cs * 2 + cp = i ∧ cp ≤ 2 ∧ cs < 4) ∧ Hid (Lg w.heap.size wr lp L S hv G) ∧ Hid (LI L S G i) ∧ Hid (Bk L S G 0 cs cp) ∧ Hid (S.rated = 50 ∧ S.bad = fun _ => false) ∧ Hid (Below w.heap.size w wr)) (fun v _ => 8 - (intOf v).toNat)
  case atStart => exact ⟨0, 0, 0, _, _, _, Nat.zero_le _, rfl, ⟨rfl, by decide, by decide⟩, C5, LI0, BK0, rb, b7⟩
  case round =>
    clear C5 LI0 BK0 rb b7
    obtain ⟨i, cs, cp, S1, G1, hv1, hi, rfl, hp, C1, LI1, BK1, rb, hb⟩ := hrel
    have kr : Hid (KRow wr) := hkr.out.below hb.out hkr.out.1 hb.out.size
    by_cases hi8 : i < 8
    · have l0 : (i : Int) < 8 := by omega
      obtain ⟨s, nx, hs, hf, hbl, hpos, hbk⟩ := BK1.out.put (r := 0) (by have := hp.out; rw [hm.out, hn.out]; omega)
      have AP := Lib.hid (app_yes w.heap.size lp L S1 hv1 G1 1 (by decide) ⟨#[120]⟩ 0 (Lib.hid (LI1.out.seqlt (by omega))) wr C1 kr (by decide) (by decide) s nx (LI1.out.lowS (by omega)) LI1.out.leftne)
      have LI2 := Lib.hid (LI1.out.app (by omega) (k := 1) (x := ⟨#[120]⟩) (by decide) (by decide) (by decide) hs hf hbl)
      have BK2 := Lib.hid (hbk 1 G1.seq ⟨#[120]⟩ (by decide))
      have hp2 : Hid (s * 2 + (firstB L S1 s + 1) = i + 1 ∧ firstB L S1 s + 1 ≤ 2 ∧ s < 4) := by
        have := hp.out
        have := hm.out
        have := hn.out
        unfold Hid
        omega
      have rb2 : Hid ((appS L S1 1 G1.seq s ⟨#[120]⟩).rated = 50 ∧ (appS L S1 1 G1.seq s ⟨#[120]⟩).bad = fun _ => false) := rb
      generalize appS L S1 1 G1.seq s ⟨#[120]⟩ = S2 at *
      generalize appG G1 s = G2 at *
      generalize firstB L S1 s = f at *
      clear nx hs hf hbl hpos hbk LI1 BK1 rb hp kr
      go_wp2_with fail
      refine AP.out.mono ?_
      rintro e w6 ⟨rfl, hv6, C6, g6⟩
      have b8 := hb.out.trans (g6.under C1.out hb.out.size)
      have bA := Lib.hid (b8.alloc b8.size (.cells #[.int .i64 (s : Int), .int .i64 (f : Int)] 34))
      have cA := Lib.hid (C6.out.after ((Below.refl _ w6).alloc (Nat.le_refl _) (.cells #[.int .i64 (s : Int), .int .i64 (f : Int)] 34)))
      clear AP C1 C6 g6 b8 hb
      go_wp2_with (refine wpList_store_row rfl 34 _ _ rfl w6.heap.size #[.int .i64 (s : Int), .int .i64 (f : Int)] rfl rfl 34 _ (RowAt.new _ _ _) (size_addr _ rfl) rfl (by simp [Value.oneCell']) ?_; rw [World.setRow_alloc_new]; generalize w6.alloc (.cells #[.int .i64 (s : Int), .int .i64 (f : Int)] 34) = w7 at *)
      go_roundw
      case rel => exact ⟨i + 1, s, f + 1, S2, G2, hv6, by omega, by go_num, hp2, cA, LI2, BK2, rb2, bA⟩
      case measure => simp [intOf]; omega
    · have ei : i = 8 := by omega
      subst ei
      have hcs : cs = 3 ∧ cp = 2 := by have := hp.out; omega
      obtain ⟨rfl, rfl⟩ := hcs
      have ER0 := Er.of_bk (L := L) (by rw [hm.out]; exact BK1.out) (by rw [hn.out])
      have hm0 : 0 < L.m := by rw [hm.out]; decide
      have hnx : nextS L S1 G1 0 = none := BK1.out.none (.inr ⟨hm.out.symm, by rw [hn.out]; decide⟩)
      have AP := Lib.hid (app_full w.heap.size lp L S1 hv1 G1 1 (by decide) ⟨#[120]⟩ 0 (Lib.hid (LI1.out.seqlt (by omega))) wr C1 kr (by decide) (by decide) hnx)
      have ER0' := Lib.hid ER0
      clear BK1 hp hnx hi hi8 kr ER0
      have hke := hk.out
      go_wp2_with fail
      refine AP.out.mono ?_
      rintro e w6 ⟨rfl, b8⟩
      have bB := hb.out.trans (b8.mono hb.out.size)
      have bA := bB.alloc bB.size (.cells #[.int .i64 0, .int .i64 0] 34)
      have cA := Lib.hid ((C1.out.after b8).after ((Below.refl _ w6).alloc (Nat.le_refl _) (.cells #[.int .i64 0, .int .i64 0] 34)))
      have FR := lfree_any w.heap.size lp L S1 hv1 G1 _ cA
      have e0 : (sgL (freeB L S1 G1) L.n).length = 0 := by
        have := ER0'.out.frees hm0
        unfold freesL at this
        rw [this, hn.out]
        rfl
      rw [e0] at FR
      replace FR := Lib.hid FR
      clear AP C1 b8 hb bB e0 hke
      go_wp2_with (refine wpList_store_row rfl 34 _ _ rfl w6.heap.size #[.int .i64 0, .int .i64 0] rfl rfl 34 _ (RowAt.new _ _ _) (size_addr _ rfl) rfl (by simp [Value.oneCell']) ?_; rw [World.setRow_alloc_new]; generalize w6.alloc (.cells #[.int .i64 0, .int .i64 0] 34) = w7 at *)
      refine FR.out.mono ?_
      rintro e w8 ⟨rfl, b9⟩
      have C8 := Lib.hid (cA.out.after b9)
      have b10 := bA.trans (b9.mono bA.size)
      clear FR cA bA b9
      obtain ⟨o, ho, ho4, hok⟩ : ∃ o : Nat, Hid (((k : Int) + 1) % 4 = (o : Int)) ∧ o < 4 ∧ Hid (o = (k + 1) % 4) := ⟨(k + 1) % 4, by unfold Hid; omega, by omega, rfl⟩
      have lowS : Hid (LowT S1 9) := LI1.out.low.mono (by omega)
      have leS : Hid (S1.left ≤ 0) := LI1.out.left
      have sqS : Hid (G1.seq ≤ 9) := by have := LI1.out.sqb; unfold Hid; omega
      have ER1 : Hid (Er L S1 G1 (fun a => if a = k then 0 else 0) (fun a => decide (a = k) && decide (0 < 0))) := ER0'.out.congr (fun a => by simp) (fun a => by simp)
      clear ER0' LI1
      go_wp2
      rw [hk.out]
      have hne := hnn.out
      go_loopw [14] (fun v wr => ∃ (j : Nat) (S : St) (G : Sg) (hv : Value), j ≤ nn + 1 ∧ v = .int .i64 (j : Int) ∧ Hid (Lg w.heap.size wr lp L S hv G) ∧ Hid (LowT S (9 + j)) ∧ Hid (S.left ≤ 0) ∧ Hid (G.seq ≤ 9) ∧ Hid (Er L S G (fun a => if a = k then j else 0) (fun a => decide (a = k) && decide (0 < j))) ∧ Hid (S.rated = 50 ∧ S.bad = fun _ => false) ∧ Hid (Below w.heap.size w wr)) (fun v _ => nn + 1 - (intOf v).toNat)
      case atStart => exact ⟨0, S1, G1, hv1, Nat.zero_le _, rfl, C8, lowS, leS, sqS, ER1, rb, b10⟩
      case round =>
        clear C8 lowS leS sqS ER1 rb b10 S1 G1 hv1
        obtain ⟨j, S1, G1, hv1, hj, rfl, C1, low1, le1, sq1, ER1, rb, hb⟩ := hrel
        by_cases hjn : j ≤ nn
        · have l0 : (j : Int) ≤ (nn : Int) := by omega
          have hwn := ER1.out.worn_no (r := 50) rb.out (i := k) (by show (if k = k then j else 0) < 50; rw [if_pos rfl]; omega)
          have EK := Lib.hid (lerase_ok (i := k) (by rw [hn.out]; exact hk4) hwn (by have := le1.out; omega) (low1.out.low (by omega)) wr C1)
          have ER2 : Hid (Er L (lerS S1 k) (closeG G1 k) (fun a => if a = k then j + 1 else 0) (fun a => decide (a = k) && decide (0 < j + 1))) := (ER1.out.erase (by rw [hm.out]; decide) (i := k) (by rw [hn.out]; exact hk4)).congr (fun a => by by_cases e : a = k <;> simp [e]) (fun a => by by_cases e : a = k <;> simp [e])
          have low2 : Hid (LowT (lerS S1 k) (9 + (j + 1))) := low1.out.ler k
          have le2 : Hid ((lerS S1 k).left ≤ 0) := by have := le1.out; show S1.left - 1 ≤ 0; omega
          have sq2 : Hid ((closeG G1 k).seq ≤ 9) := sq1
          have rb2 : Hid ((lerS S1 k).rated = 50 ∧ (lerS S1 k).bad = fun _ => false) := rb
          generalize lerS S1 k = S2 at *
          generalize closeG G1 k = G2 at *
          clear hwn low1 le1 sq1 ER1 rb
          go_wp2_with fail
          refine EK.out.mono ?_
          rintro e w9 ⟨rfl, hv2, C2, g2⟩
          have b11 := Lib.hid (hb.out.trans (g2.under C1.out hb.out.size))
          clear EK C1 g2 hb
          go_wp2
          go_roundw
          case rel => exact ⟨j + 1, S2, G2, hv2, by omega, by go_num, C2, low2, le2, sq2, ER2, rb2, b11⟩
          case measure => simp [intOf]; omega
        · have ej : j = nn + 1 := by omega
          have l0 : ¬ (j : Int) ≤ (nn : Int) := by omega
          have ER2 : Er L S1 G1 (fun a => if a = k then nn + 1 else 0) (fun a => decide (a = k)) := ER1.out.congr (fun a => by rw [ej]) (fun a => by rw [ej]; simp)
          have FR1 := lfree_any w.heap.size lp L S1 hv1 G1 wr C1
          have e1 : (sgL (freeB L S1 G1) L.n).length = 1 := by
            have := ER2.frees hm0
            unfold freesL at this
            rw [this, hn.out]
            have : k = 0 ∨ k = 1 ∨ k = 2 ∨ k = 3 := by omega
            rcases this with rfl | rfl | rfl | rfl <;> rfl
          rw [e1] at FR1
          replace FR1 := Lib.hid FR1
          replace ER2 := Lib.hid ER2
          clear ER1 e1
          go_wp2_with fail
          refine FR1.out.mono ?_
          rintro e w9 ⟨rfl, b11⟩
          have C9 := Lib.hid (C1.out.after b11)
          have b12 := hb.out.trans (b11.mono hb.out.size)
          have okn : o ≠ k := by have := hok.out; omega
          have hwn := ER2.out.worn_no (r := 50) rb.out (i := o) (by show (if o = k then nn + 1 else 0) < 50; rw [if_neg okn]; decide)
          have EK := Lib.hid (lerase_ok (i := o) (by rw [hn.out]; exact ho4) hwn (by have := le1.out; omega) (low1.out.low (by omega)) w9 C9)
          have ER3 : Er L (lerS S1 o) (closeG G1 o) (fun a => if a = o then 1 else if a = k then nn + 1 else 0) (fun a => decide (a = o) || decide (a = k)) := (ER2.out.erase (by rw [hm.out]; decide) (i := o) (by rw [hn.out]; exact ho4)).congr (fun a => by by_cases e : a = o <;> simp [e, okn]) (fun a => by by_cases e : a = o <;> simp [e])
          have low2 : LowT (lerS S1 o) (9 + j + 1) := low1.out.ler o
          have le2 : (lerS S1 o).left ≤ 0 := by have := le1.out; show S1.left - 1 ≤ 0; omega
          have sq2 : (closeG G1 o).seq ≤ 9 := sq1.out
          generalize lerS S1 o = S2 at *
          generalize closeG G1 o = G2 at *
          clear hwn low1 le1 sq1 ER2 rb FR1 C1 b11 hb
          go_wp2_with fail
          rw [ho.out]
          refine EK.out.mono ?_
          rintro e w10 ⟨rfl, hv2, C10, g2⟩
          have b13 := b12.trans (g2.under C9.out b12.size)
          have FR2 := lfree_any w.heap.size lp L S2 hv2 G2 w10 C10
          have e2 : (sgL (freeB L S2 G2) L.n).length = 2 := by
            have := ER3.frees hm0
            unfold freesL at this
            rw [this, hn.out, hok.out]
            have : k = 0 ∨ k = 1 ∨ k = 2 ∨ k = 3 := by omega
            rcases this with rfl | rfl | rfl | rfl <;> rfl
          rw [e2] at FR2
          replace FR2 := Lib.hid FR2
          clear EK C9 b12 g2 e2
          go_wp2_with fail
          refine FR2.out.mono ?_
          rintro e w11 ⟨rfl, b14⟩
          have C11 := Lib.hid (C10.out.after b14)
          have b15 := b13.trans (b14.mono b13.size)
          have kr : Hid (KRow w11) := hkr.out.below b15 hkr.out.1 b15.size
          obtain ⟨wt, hwt, hz1, hz2, hwt4, hwtb⟩ := new_two k o nn hk4 hok.out S2.wear ER3.wear
          have nx : nextS L S2 G2 0 = some wt := by
            rw [ER3.put hm0 (by rw [hn.out, hok.out]; have : k = 0 ∨ k = 1 ∨ k = 2 ∨ k = 3 := by omega
                                rcases this with rfl | rfl | rfl | rfl <;> decide)]
            unfold newOp
            rw [ER3.frees hm0, hn.out, hwt]
          have fz : firstB L S2 wt = 0 := (ER3.left (by rw [hn.out]; exact hwt4)).2 (by rcases hwtb with rfl | rfl <;> simp) hm0
          clear hwt
          by_cases hnz : nn = 0
          · have hmin : Hid (min (k : Int) (o : Int) = (wt : Int)) := by have := hz1 hnz; unfold Hid; omega
            have nz : ((nn : Int) == 0) = true := by rw [beq_iff_eq]; omega
            have hmn := hmin.out
            clear hz1 hz2 hwt4 hwtb hnz
            have AP := Lib.hid (app_yes w.heap.size lp L S2 hv2 G2 1 (by decide) ⟨#[121]⟩ 0 (Lib.hid (by omega)) w11 C11 kr (by decide) (by decide) wt nx (low2.low (by omega)) (by omega))
            rw [fz] at AP
            have eop : Hid ((appG G2 wt).op = (wt : Int)) := rfl
            generalize appS L S2 1 G2.seq wt ⟨#[121]⟩ = S3 at *
            generalize appG G2 wt = G3 at *
            clear low2 le2 sq2 ER3 nx fz kr FR2 C10 b13 b14
            go_wp2_with fail
            refine AP.out.mono ?_
            rintro e w12 ⟨rfl, hv3, C12, g3⟩
            have b16 := b15.trans (g3.under C11.out b15.size)
            have bA := b16.alloc b16.size (.cells #[.int .i64 (wt : Int), .int .i64 0] 34)
            have rA := Lib.hid (RowAt.new w12 34 #[.int .i64 (wt : Int), .int .i64 0])
            have cA := Lib.hid (C12.out.after ((Below.refl _ w12).alloc (Nat.le_refl _) (.cells #[.int .i64 (wt : Int), .int .i64 0] 34)))
            have OP := lopen_any w.heap.size _ lp L S3 hv3 G3 cA
            rw [eop.out] at OP
            replace OP := Lib.hid OP
            clear AP C11 C12 g3 b15 b16 eop
            go_wp2_with (first | (refine wpList_store_row rfl 34 _ _ rfl w12.heap.size #[.int .i64 (wt : Int), .int .i64 0] rfl rfl 34 _ (RowAt.new _ _ _) (size_addr _ rfl) rfl (by simp [Value.oneCell']) ?_; rw [World.setRow_alloc_new]; generalize w12.alloc (.cells #[.int .i64 (wt : Int), .int .i64 0] 34) = w13 at *) | (refine wpList_wload_row rfl 34 _ rfl w12.heap.size rfl 34 #[.int .i64 (wt : Int), .int .i64 0] _ rA.out Tryz.underlying34 rfl (size_addr _ rfl) ?_))
            refine OP.out.mono ?_
            rintro e w14 ⟨rfl, rfl⟩
            clear OP rA cA
            go_wp2
            go_ret
            exact ⟨rfl, bA⟩
          · obtain rfl := hz2 hnz
            have nz : ((nn : Int) == 0) = false := by rw [beq_eq_false_iff_ne]; omega
            clear hz1 hz2 hwt4 hwtb hnz
            have AP := Lib.hid (app_yes w.heap.size lp L S2 hv2 G2 1 (by decide) ⟨#[121]⟩ 0 (Lib.hid (by omega)) w11 C11 kr (by decide) (by decide) wt nx (low2.low (by omega)) (by omega))
            rw [fz] at AP
            have eop : Hid ((appG G2 wt).op = (wt : Int)) := rfl
            generalize appS L S2 1 G2.seq wt ⟨#[121]⟩ = S3 at *
            generalize appG G2 wt = G3 at *
            clear low2 le2 sq2 ER3 nx fz kr FR2 C10 b13 b14
            go_wp2_with fail
            refine AP.out.mono ?_
            rintro e w12 ⟨rfl, hv3, C12, g3⟩
            have b16 := b15.trans (g3.under C11.out b15.size)
            have bA := b16.alloc b16.size (.cells #[.int .i64 (wt : Int), .int .i64 0] 34)
            have rA := Lib.hid (RowAt.new w12 34 #[.int .i64 (wt : Int), .int .i64 0])
            have cA := Lib.hid (C12.out.after ((Below.refl _ w12).alloc (Nat.le_refl _) (.cells #[.int .i64 (wt : Int), .int .i64 0] 34)))
            have OP := lopen_any w.heap.size _ lp L S3 hv3 G3 cA
            rw [eop.out] at OP
            replace OP := Lib.hid OP
            clear AP C11 C12 g3 b15 b16 eop
            go_wp2_with (first | (refine wpList_store_row rfl 34 _ _ rfl w12.heap.size #[.int .i64 (wt : Int), .int .i64 0] rfl rfl 34 _ (RowAt.new _ _ _) (size_addr _ rfl) rfl (by simp [Value.oneCell']) ?_; rw [World.setRow_alloc_new]; generalize w12.alloc (.cells #[.int .i64 (wt : Int), .int .i64 0] 34) = w13 at *) | (refine wpList_wload_row rfl 34 _ rfl w12.heap.size rfl 34 #[.int .i64 (wt : Int), .int .i64 0] _ rA.out Tryz.underlying34 rfl (size_addr _ rfl) ?_))
            refine OP.out.mono ?_
            rintro e w14 ⟨rfl, rfl⟩
            clear OP rA cA
            go_wp2
            go_ret
            exact ⟨rfl, bA⟩

theorem erases_walk (n : Int) (hn : (Lit.int .u8 n).wf = true) (a : Int) (ha : (Lit.int .u8 a).wf = true) (w : World) (hkr : KRow w) :
    Calls Tryz.prog 6 #[.int .u8 n, .int .u8 a] w fun e w' => e = .returned (.bool true) ∧ Below w.heap.size w w' := by
  have h1 := wf_u8 hn
  have h2 := wf_u8 ha
  have := erases_true n.toNat a.toNat (by omega) (by omega) w hkr
  rwa [Int.toNat_of_nonneg h1.1, Int.toNat_of_nonneg h2.1] at this

end Go.Proofs.YtiioccfcdkpblaaGreatDoor
