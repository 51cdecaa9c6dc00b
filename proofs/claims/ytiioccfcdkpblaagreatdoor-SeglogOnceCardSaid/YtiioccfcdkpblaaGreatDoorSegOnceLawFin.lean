/-
  The walk of SeglogOnce.
-/
import Derived.Test.YtiioccfcdkpblaaGreatDoorAll8
import Derived.Test.YtiioccfcdkpblaaGreatDoorSegHadFin
namespace Go.Proofs.YtiioccfcdkpblaaGreatDoor
open Go.RowKit
set_option linter.unusedVariables false

theorem Bk.remount {L : Lay} {S : St} {G : Sg} {b cs cp x : Nat} (h : Bk L S G b cs cp) : Bk L S (freshG x) (if cp = 0 then cs else cs + 1) (if cp = 0 then cs else cs + 1) 0 := by
  have ho := h.ord
  have hc : (if cp = 0 then cs else cs + 1) ≤ L.n := by split <;> omega
  refine ⟨⟨Nat.le_refl _, hc, Nat.zero_le _, fun _ => rfl, ho.2.2.2.2⟩, rfl, fun _ _ => rfl, h.wear, fun s p hs hp hb => ?_, fun s hs => ?_⟩
  · rw [decide_eq_false (show ¬ s < (if cp = 0 then cs else cs + 1) by omega), decide_eq_false (Nat.not_lt_zero p), Bool.and_false, Bool.or_false]
    by_cases h0 : cp = 0
    · rw [if_pos h0] at hb
      rw [h.blank s p hs hp (by omega), h0, decide_eq_false (show ¬ s < cs by omega), decide_eq_false (Nat.not_lt_zero p)]
      simp
    · rw [if_neg h0] at hb
      rw [h.blank s p hs hp (by omega), decide_eq_false (show ¬ s < cs by omega), decide_eq_false (show ¬ s = cs by omega)]
      rfl
  · by_cases hsb : s < b
    · exact h.old s hsb
    · by_cases h0 : cp = 0
      · rw [if_pos h0] at hs
        rw [h.blank s 0 (by omega) ho.2.2.2.2 (by omega), decide_eq_true hs]
        rfl
      · rw [if_neg h0] at hs
        by_cases h1 : s < cs
        · rw [h.blank s 0 (by omega) ho.2.2.2.2 (by omega), decide_eq_true h1]
          rfl
        · rw [h.blank s 0 (by omega) ho.2.2.2.2 (by omega), decide_eq_true (show s = cs by omega), decide_eq_true (show 0 < cp by omega)]
          simp
theorem LI.remount {L : Lay} {S : St} {G : Sg} {t : Nat} (h : LI L S G t) : LI L S (freshG (mountN L S + 1)) t := ⟨rfl, by have := h.sqb; have := h.sq; show mountN L S + 1 ≤ t + 1; omega, h.low, h.left⟩
/-- How many can be appended. -/
theorem Bk.rooms {L : Lay} {S : St} {G : Sg} {b cs cp : Nat} (h : Bk L S G b cs cp) : roomN L S G L.n = if cs < L.n then (L.m - cp) + (L.n - cs - 1) * L.m else 0 := by
  have ho := h.ord
  by_cases hn : cs < L.n
  · rw [if_pos hn]
    have := h.room1 hn (L.n - cs - 1) (by omega)
    rwa [show cs + 1 + (L.n - cs - 1) = L.n by omega] at this
  · rw [if_neg hn]
    exact h.room0 L.n (by omega) (Nat.le_refl _)
/-- A log's blocks hold cells. -/
theorem Lg.cells {B : Nat} {w : World} {lp : Nat} {L : Lay} {S : St} {hv : Value} {G : Sg} (h : Lg B w lp L S hv G) {k : Nat} (hk : footG lp L hv k) : ∃ c t fr, w.heap[k]? = some (.cells c t fr) := by
  rcases hk with rfl | rfl | rfl | rfl | ⟨i, hi, rfl⟩ | e
  · exact ⟨_, _, _, h.log⟩
  · exact ⟨_, _, _, h.ch.pow⟩
  · exact ⟨_, _, _, h.ch.chip⟩
  · exact ⟨_, _, _, h.ch.segs⟩
  · exact ⟨_, _, _, h.ch.pages i hi⟩
  · rcases h.ch.hist.2 with ⟨h1, _⟩ | ⟨g, cap, cur, h1, _, hg, _⟩
    · rw [h1] at e
      cases e
    · rw [h1] at e
      obtain rfl : g = k := by simpa [Value.ownBlock] using e
      exact ⟨_, _, _, hg⟩
theorem Had.goes {B : Nat} {w w' : World} {lp : Nat} {L : Lay} {S : St} {hv hv' : Value} {G : Sg} {mb : Nat} {l : List (Int × Int)} (h : Had w mb l) (hl : Lg B w lp L S hv G) (g : GoesG lp L hv w hv' w') : Had w' mb l := by
  unfold Had at h ⊢
  rw [g.side.block mb (Array.getElem?_eq_some_iff.1 h).1 (fun hf => by
    obtain ⟨c, t, fr, e⟩ := hl.cells hf
    rw [e] at h
    cases h)]
  exact h
theorem Had.after {w w' : World} {mb : Nat} {l : List (Int × Int)} (h : Had w mb l) (hb : Below w.heap.size w w') : Had w' mb l := block_kept hb h
theorem op_load_row {P : Program} {w : World} {g : Nat} {t ty : TypeId} {cs : Array Value} {d : TypeDesc} (hg : RowAt w g t cs) (hu : P.underlying ty = some d) (hd : (match d with | .struct _ | .array _ _ => true | _ => false) = true) (hi : (P.info? ty).map (·.size) = some cs.size)
    {o : Oper} {a : Act} {x : Operand} (ho : o.op = .load ty x) (hx : a.eval x = .pointer (some ⟨g, 0, none⟩)) : (execOp a.eval o).run P w = .ok (.value (.agg cs)) w := by
  unfold execOp
  simp only [ho, hx, Instr.loadAt, Instr.sureAddr, Sem.run_bind, Sem.run_pure, Result.andThen_ok, run_loadVar_row w g t ty cs (0, 0) d hg hu hd hi]
theorem op_look1 {w : World} {mb : Nat} {l : List (Int × Int)} {s f : Int} (h : Had w mb (l ++ [(s, f)])) (ha : (s, f) ∉ l) {o : Oper} {a : Act} {m k : Operand} (ho : o.op = .lookup 50 m k false) (hm : a.eval m = .map (some mb)) (hk : a.eval k = .agg #[.int .i64 s, .int .i64 f]) :
    (execOp a.eval o).run Tryz.prog w = .ok (.value (.int .i64 1)) w := by
  have := h.look1 ha
  unfold keyA at this
  unfold execOp
  simp only [ho, hm, hk, this, Sem.run_bind, Result.andThen_ok, Sem.run_pure]

set_option maxHeartbeats 8000000 in
set_option maxRecDepth 8000 in
theorem once_true (n ag : Nat) (hn8 : n < 256) (ha8 : ag < 256) (w : World) (hkr : Hid (KRow w)) :
    Calls Tryz.prog 5 #[.int .u8 (n : Nat), .int .u8 (ag : Nat)] w fun e w' => e = .returned (.bool true) ∧ Below w.heap.size w w' := by
  have NP := Lib.hid (newPower_any w)
  obtain ⟨aa, haa, ha40⟩ : ∃ k : Nat, Hid ((ag : Int) % 40 = (k : Int)) ∧ k < 40 := ⟨ag % 40, by unfold Hid; omega, by omega⟩
  obtain ⟨nn, hnn, hn40⟩ : ∃ nn : Nat, Hid ((n : Int) % 40 = (nn : Int)) ∧ nn < 40 := ⟨n % 40, by unfold Hid; omega, by omega⟩
  go_enter Tryz.func5, Tryz.ntmps5
  go_wp2_with fail
  refine NP.out.mono ?_
  rintro e w1 ⟨rfl, r1, b1⟩
  have NW := Lib.hid (new_yes w.heap.size w.heap.size 8 4 9 true 0 0 0 none 0 0 (fun _ => 0) w1 r1 (Lib.hid (SeesV.nil _ _ _)) (Nat.le_refl _) (Lib.hid (by decide)) (Lib.hid (by decide)) (by decide) (by decide) (by decide) (by decide) (by decide) (by decide))
  clear NP r1
  go_wp2_with fail
  refine NW.out.mono ?_
  rintro e w2 ⟨L, rfl, _, hn, hm, C2, b2⟩
  have b3 := b1.trans (b2.mono b1.size)
  clear NW b1 b2
  rw [badN_none] at C2
  have k3 : Hid (KRow w2) := hkr.out.below b3 hkr.out.1 b3.size
  have mt := fresh_mount (L := L) (S := newS true 0 0 0 9 (fun _ => false)) (fun _ _ => rfl)
  have LI0 := LI.fresh (L := L) 9 (fun _ => false)
  have BK0 := Bk.fresh (L := L) (by rw [hm]; decide) 9 (fun _ => false) (mountN L (newS true 0 0 0 9 (fun _ => false)) + 1)
  have MT := Lib.hid (mount_any w.heap.size L _ _ w2 C2 rfl (Lib.hid (fun _ _ => by show (ByteArray.mk #[]).size ≤ 256; decide)) k3 b3.size (Lib.hid (by rw [mt]; decide)))
  have al0 : Hid ((allL L (newS true 0 0 0 9 (fun _ => false)) 3).length = 0) := by unfold Hid; rw [fresh_all (fun _ _ => rfl)]; rfl
  rw [mt] at LI0 BK0 MT
  have rb : Hid ((newS true 0 0 0 9 (fun _ => false)).rated = 9 ∧ (newS true 0 0 0 9 (fun _ => false)).bad = fun _ => false) := ⟨rfl, rfl⟩
  generalize newS true 0 0 0 9 (fun _ => false) = S at *
  replace hn := Lib.hid hn
  replace hm := Lib.hid hm
  clear C2 mt
  go_wp2_with fail
  refine MT.out.mono ?_
  rintro e w4 ⟨lp, rfl, hlp, C4, b4⟩
  have b5 := b3.trans (b4.mono b3.size)
  clear MT b3 b4 k3
  have k5 : Hid (KRow w4) := hkr.out.below b5 hkr.out.1 b5.size
  have SH := Lib.hid (shown13_any w4 k5)
  clear k5
  go_wp2_with fail
  refine SH.out.mono ?_
  rintro e w5 ⟨rfl, b6⟩
  have b7 := b5.trans (b6.mono b5.size)
  have b8 := b7.alloc b7.size (.map #[] 0)
  have C8 := Lib.hid ((C4.out.after b6).after ((Below.refl _ w5).alloc (Nat.le_refl _) (.map #[] 0)))
  have H8 : Hid (Had (w5.alloc (.map #[] 0)) w5.heap.size []) := World.alloc_heap_new w5 _
  have hmb : w.heap.size ≤ w5.heap.size := b7.size
  replace b8 := Lib.hid b8
  replace LI0 := Lib.hid LI0
  replace BK0 := Lib.hid BK0
  have hmm := @run_makeMap Tryz.prog
  clear SH C4 b5 b6 b7 hlp rb
  go_wp2_with fail
  generalize w5.alloc (.map #[] 0) = w6 at *
  generalize w5.heap.size = mb at *
  clear hmm
  have hne := hnn.out
  go_loopw [6, 9] (fun v6 v9 wr => ∃ (i b cs cp lp : Nat) (S : St) (G : Sg) (hv : Value) (l : List (Int × Int)), i ≤ nn ∧ v9 = .int .i64 (i : Int) ∧ v6 = .pointer (some ⟨lp, 0, none⟩) ∧ Hid (l.length = i ∧ (allL L S 3).length = i ∧ ∀ a, a ∈ l → ∃ s f : Nat, a = ((s : Int), (f : Int)) ∧ isB (S.page s f) = true) ∧ Hid (Lg w.heap.size wr lp L S hv G) ∧ Hid (LI L S G i) ∧ Hid (Bk L S G b cs cp) ∧ Hid (Had wr mb l) ∧ Hid (Below w.heap.size w wr)) (fun v6 v9 _ => nn - (intOf v9).toNat)
  case atStart => exact ⟨0, 0, 0, 0, lp, S, _, _, [], Nat.zero_le _, rfl, rfl, ⟨rfl, al0.out, fun a h => by cases h⟩, C8, LI0, BK0, H8, b8⟩
  case round =>
    clear C8 LI0 BK0 b8 al0 H8
    obtain ⟨i, b, cs, cp, lp1, S1, G1, hv1, l, hi, rfl, rfl, hl, C1, LI1, BK1, H1, hb⟩ := hrel
    have kr : Hid (KRow wr) := hkr.out.below hb.out hkr.out.1 hb.out.size
    by_cases hin : i < nn
    · have l0 : (i : Int) < (nn : Int) := by omega
      have hae := haa.out
      by_cases hia : i = aa
      · have l1 : ((i : Int) == (aa : Int)) = true := by rw [beq_iff_eq]; omega
        have MT := Lib.hid (mount_any w.heap.size L S1 hv1 wr (Lib.hid C1.out.ch) C1.out.up (Lib.hid C1.out.wide) kr hb.out.size (Lib.hid (by have := LI1.out.sq; have := LI1.out.sqb; omega)))
        have LI2 := Lib.hid LI1.out.remount
        have BK2 := Lib.hid (BK1.out.remount (x := mountN L S1 + 1))
        have ope : Hid ((freshG (mountN L S1 + 1)).op = -1) := rfl
        generalize freshG (mountN L S1 + 1) = G2 at *
        clear LI1 BK1 C1 hia
        go_wp2_with fail
        refine MT.out.mono ?_
        rintro e w7 ⟨lp2, rfl, hlp2, C7, b7⟩
        have H7 := Lib.hid (H1.out.after b7)
        have b9 := Lib.hid (hb.out.trans (b7.mono hb.out.size))
        have k7 : Hid (KRow w7) := hkr.out.below b9.out hkr.out.1 b9.out.size
        have OP := lopen_any w.heap.size w7 lp2 L S1 hv1 G2 C7
        rw [ope.out] at OP
        replace OP := Lib.hid OP
        clear MT hb b7 H1 hlp2 ope kr hae
        go_wp2_with fail
        refine OP.out.mono ?_
        rintro e w7 ⟨rfl, rfl⟩
        clear OP
        obtain ⟨b', hb'⟩ : ∃ b', Hid ((if cp = 0 then cs else cs + 1) = b') := ⟨_, rfl⟩
        rw [hb'.out] at BK2
        clear hb'
        have RM := lroom_any w.heap.size lp2 L S1 hv1 G2 w7 C7
        obtain ⟨R1, hR1⟩ : ∃ R1, Hid (roomN L S1 G2 L.n = R1) := ⟨_, rfl⟩
        have hR1e : Hid (R1 = if b' < 8 then (4 - 0) + (8 - b' - 1) * 4 else 0) := by
          have := BK2.out.rooms
          rw [hR1.out, hn.out, hm.out] at this
          exact this
        rw [hR1.out] at RM
        replace RM := Lib.hid RM
        have hR32 : R1 ≤ 32 := by have := hR1e.out; split at this <;> omega
        clear hR1
        go_wp2_with fail
        refine RM.out.mono ?_
        rintro e w10 ⟨rfl, b10⟩
        have C10 := Lib.hid (C7.out.after b10)
        have H10 := Lib.hid (H7.out.after b10)
        have b11 := Lib.hid (b9.out.trans (b10.mono b9.out.size))
        have k10 : Hid (KRow w10) := hkr.out.below b11.out hkr.out.1 b11.out.size
        clear RM C7 H7 b9 b10 k7
        have ho := BK2.out.ord
        rw [hn.out, hm.out] at ho
        replace ho := Lib.hid ho
        by_cases hfull : b' < 8 ∧ ¬ (b' = 7 ∧ 0 = 4)
        · obtain ⟨s, nx, hs, hfs, hbl, hpos, hbk⟩ := BK2.out.put (r := 0) (by have := ho.out; rw [hm.out, hn.out]; omega)
          have AP := Lib.hid (app_yes w.heap.size lp2 L S1 hv1 G2 3 (by decide) ⟨#[120]⟩ 0 (Lib.hid (LI2.out.seqlt (by omega))) w10 C10 k10 (by decide) (by decide) s nx (LI2.out.lowS (by omega)) LI2.out.leftne)
          have LI3 := Lib.hid (LI2.out.app (by omega) (k := 3) (x := ⟨#[120]⟩) (by decide) (by decide) (by decide) hs hfs hbl)
          have BK3 := Lib.hid (hbk 3 G2.seq ⟨#[120]⟩ (by decide))
          have al3 : (allL L (appS L S1 3 G2.seq s ⟨#[120]⟩) 3).length = i + 1 := by rw [all_app (by decide) (by decide) (by have := LI2.out.seqlt (by omega); omega) (by decide) hs hfs hbl, hl.out.2.1]
          have pgs : ∀ a b, isB (S1.page a b) = true → isB ((appS L S1 3 G2.seq s ⟨#[120]⟩).page a b) = true := fun a b h => by
            rw [appS_page]
            split
            · exact put_isB (by decide)
            · exact h
          have pgn : isB ((appS L S1 3 G2.seq s ⟨#[120]⟩).page s (firstB L S1 s)) = true := by
            rw [appS_page, if_pos ⟨rfl, rfl⟩]
            exact put_isB (by decide)
          have eop : Hid ((appG G2 s).op = (s : Int)) := rfl
          generalize appS L S1 3 G2.seq s ⟨#[120]⟩ = S3 at *
          generalize appG G2 s = G3 at *
          generalize firstB L S1 s = x at *
          have hnl : Hid (((s : Int), (x : Int)) ∉ l) := fun hmem => by
            obtain ⟨s', f', e, hB⟩ := hl.out.2.2 _ hmem
            have e1 : s' = s := by have := congrArg Prod.fst e; simp at this; omega
            have e2 : f' = x := by have := congrArg Prod.snd e; simp at this; omega
            rw [e1, e2, hbl] at hB
            cases hB
          have hl3 : Hid ((l ++ [((s : Int), (x : Int))]).length = i + 1 ∧ (allL L S3 3).length = i + 1 ∧ ∀ a, a ∈ l ++ [((s : Int), (x : Int))] → ∃ s f : Nat, a = ((s : Int), (f : Int)) ∧ isB (S3.page s f) = true) := by
            refine ⟨by rw [List.length_append, hl.out.1]; rfl, al3, fun a ha => ?_⟩
            rcases List.mem_append.1 ha with h | h
            · obtain ⟨s', f', e, hB⟩ := hl.out.2.2 a h
              exact ⟨s', f', e, pgs _ _ hB⟩
            · rw [List.mem_singleton.1 h]
              exact ⟨s, x, rfl, pgn⟩
          have hl3len : Hid (l.length = i) := hl.out.1
          have RM3 : Hid (∀ W hv, Hid (Lg w.heap.size W lp2 L S3 hv G3) → Calls Tryz.prog 19 #[.pointer (some ⟨lp2, 0, none⟩)] W fun e w' => e = .returned (.int .i64 ((R1 : Int) - 1)) ∧ Below W.heap.size W w') := fun W hv hL => by
            have h1 := lroom_any w.heap.size lp2 L S3 hv G3 W hL
            have h2 := BK3.out.rooms
            have h3 := hR1e.out
            have h4 := ho.out
            have h5 := hn.out
            have h6 := hm.out
            rw [h2, hn.out, hm.out] at h1
            have e : (((if s < 8 then (4 - (x + 1)) + (8 - s - 1) * 4 else 0 : Nat)) : Int) = (R1 : Int) - 1 := by
              rw [if_pos (by omega)]
              rw [if_pos hfull.1] at h3
              rw [hm.out] at hpos
              omega
            rw [e] at h1
            exact h1
          have R1p : 1 ≤ R1 := by
            have h3 := hR1e.out
            rw [if_pos hfull.1] at h3
            have := ho.out
            omega
          clear nx hs hfs hbl hpos hbk LI2 BK2 hl al3 pgs pgn hR1e hfull ho
          go_wp2_with fail
          refine AP.out.mono ?_
          rintro e w12 ⟨rfl, hv3, C12, g12⟩
          have b13 := b11.out.trans (g12.under C10.out b11.out.size)
          have H12 := H10.out.goes C10.out g12
          have ba := (Below.refl _ w12).alloc (Nat.le_refl _) (.cells #[.int .i64 (s : Int), .int .i64 (x : Int)] 34)
          have bA := Lib.hid (b13.alloc b13.size (.cells #[.int .i64 (s : Int), .int .i64 (x : Int)] 34))
          have cA := Lib.hid (C12.out.after ba)
          have HA := Lib.hid (H12.after ba)
          have rA := Lib.hid (RowAt.new w12 34 #[.int .i64 (s : Int), .int .i64 (x : Int)])
          have pw : Hid (w.heap.size ≤ w12.heap.size) := b13.size
          clear AP C10 C12 g12 b11 b13 H10 H12 ba k10
          go_wp2_with (refine wpList_store_row rfl 34 _ _ rfl w12.heap.size #[.int .i64 (s : Int), .int .i64 (x : Int)] rfl rfl 34 _ (RowAt.new _ _ _) (size_addr _ rfl) rfl (by simp [Value.oneCell']) ?_; rw [World.setRow_alloc_new]; generalize w12.alloc (.cells #[.int .i64 (s : Int), .int .i64 (x : Int)] 34) = w13 at *)
          generalize w12.heap.size = p at *
          have bd : Below w13.heap.size w13 w13.drew := (Below.refl _ w13).drew
          have H14 := HA.out.after bd
          have r14 := Lib.hid (rA.out.below bd rA.out.lt)
          generalize hw14 : w13.drew = w14 at *
          have e1 := H14.look hnl.out
          have e2 := H14.entry hnl.out
          have HP15 : HadP (w14.putObj mb (.map (hadL l 0 ++ [entA (keyA ((s : Int), (x : Int))) 0 l.length]).toArray (l.length + 1))) mb l ((s : Int), (x : Int)) := World.putObj_heap_same (Array.getElem?_eq_some_iff.1 H14).1
          have r15 := row_putObj (o' := .map (hadL l 0 ++ [entA (keyA ((s : Int), (x : Int))) 0 l.length]).toArray (l.length + 1)) r14.out H14 rfl
          generalize hw15 : w14.putObj mb (.map (hadL l 0 ++ [entA (keyA ((s : Int), (x : Int))) 0 l.length]).toArray (l.length + 1)) = w15 at *
          have e3 := HP15.look hnl.out
          have e4 := HP15.store
          have H16 : Had (w15.putObj mb (.map (hadL (l ++ [((s : Int), (x : Int))]) 0).toArray (l.length + 1))) mb (l ++ [((s : Int), (x : Int))]) := by
            unfold Had
            rw [List.length_append]
            exact World.putObj_heap_same (Array.getElem?_eq_some_iff.1 HP15).1
          generalize hw16 : w15.putObj mb (.map (hadL (l ++ [((s : Int), (x : Int))]) 0).toArray (l.length + 1)) = w16 at *
          unfold keyA at e1 e2 e3
          have a0 := r14.out.one 0 rfl
          have a1 := r14.out.one 1 rfl
          have c0 := r15.one 0 rfl
          have c1 := r15.one 1 rfl
          have b14 := bA.out.drew
          rw [hw14] at b14
          have b15 := below_putObj (o := .map (hadL l 0 ++ [entA (keyA ((s : Int), (x : Int))) 0 l.length]).toArray (l.length + 1)) b14 hmb
          rw [hw15] at b15
          have b16 := below_putObj (o := .map (hadL (l ++ [((s : Int), (x : Int))]) 0).toArray (l.length + 1)) b15 hmb
          rw [hw16] at b16
          have c14 := cA.out.after bd
          have cel15 := Cel.put (m := 0) (.map (hadL l 0 ++ [entA (keyA ((s : Int), (x : Int))) 0 l.length]).toArray (l.length + 1)) (Nat.zero_le _) H14 rfl
          rw [hw15] at cel15
          have cel16 := Cel.put (m := 0) (.map (hadL (l ++ [((s : Int), (x : Int))]) 0).toArray (l.length + 1)) (Nat.zero_le _) HP15 rfl
          rw [hw16] at cel16
          have C16 := Lib.hid ((c14.cel cel15).cel cel16)
          have r16 := Lib.hid (r15.cel cel16)
          replace b16 := Lib.hid b16
          replace H16 := Lib.hid H16
          clear H14 HP15 r15 b14 b15 c14 cel15 cel16 bd hw15 hw16 bA cA HA rA
          go_big_region
          clear e1 e2 e3 e4 a0 a1 c0 c1 r14 hw14
          go_wp2_with fail
          have C17 := Lib.hid (C16.out.after (Below.refl _ w16).drew)
          have H17 := Lib.hid (H16.out.after (Below.refl _ w16).drew)
          have r17 := Lib.hid (r16.out.below (Below.refl _ w16).drew r16.out.lt)
          have b17 := Lib.hid b16.out.drew
          clear C16 H16 r16 b16
          generalize hw17 : w16.drew = w17 at *
          have RM4 := Lib.hid (fun w' (hC : Below w17.heap.size w17 w') => RM3.out w' hv3 (Lib.hid (C17.out.after hC)))
          have OPN := Lib.hid (fun w' (hC : Below w17.heap.size w17 w') => lopen_any w.heap.size w' lp2 L S3 hv3 G3 (Lib.hid (C17.out.after hC)))
          rw [eop.out] at OPN
          have RW := Lib.hid (IntWalk.i64_in ((R1 : Int) - 1) (by omega))
          refine wp_region_class (fun w' => Below w17.heap.size w17 w') (by kernel_rfl) (by kernel_rfl) (by rw [hw17]; exact Below.refl _ _) ?_
          refine wpQuiet_val rfl (.map (some mb)) (fun w' hC => by
            have hwr := RW.out
            have q1 := (r17.out.below hC r17.out.lt).one 0 rfl
            go_simp) ?_
          simp only [Act.put, List.setIfInBounds_toArray, List.set_cons_succ, List.set_cons_zero]
          refine wpQuiet_val rfl (.agg #[.int .i64 (s : Int), .int .i64 (x : Int)]) (fun w' hC => op_load_row (r17.out.below hC r17.out.lt) Tryz.underlying34 rfl (size_addr _ rfl) rfl rfl) ?_
          simp only [Act.put, List.setIfInBounds_toArray, List.set_cons_succ, List.set_cons_zero]
          refine wpQuiet_val rfl (.int .i64 1) (fun w' hC => op_look1 (H17.out.after hC) hnl.out rfl rfl rfl) ?_
          simp only [Act.put, List.setIfInBounds_toArray, List.set_cons_succ, List.set_cons_zero]
          refine wpQuiet_val rfl (.bool false) (fun w' hC => by
            have hwr := RW.out
            have q1 := (r17.out.below hC r17.out.lt).one 0 rfl
            go_simp) ?_
          simp only [Act.put, List.setIfInBounds_toArray, List.set_cons_succ, List.set_cons_zero]
          refine wpQuiet_val rfl (.bool false) (fun w' hC => by
            have hwr := RW.out
            have q1 := (r17.out.below hC r17.out.lt).one 0 rfl
            go_simp) ?_
          simp only [Act.put, List.setIfInBounds_toArray, List.set_cons_succ, List.set_cons_zero]
          refine wpQuiet_val rfl (.pointer (some ⟨lp2, 0, none⟩)) (fun w' hC => by
            have hwr := RW.out
            have q1 := (r17.out.below hC r17.out.lt).one 0 rfl
            go_simp) ?_
          simp only [Act.put, List.setIfInBounds_toArray, List.set_cons_succ, List.set_cons_zero]
          (go_big_quiet_want; go_big_quiet_op; apply Exists.intro; refine ⟨fun w' hC => (RM4.out w' hC).mono fun e w'' h => ⟨h.1, hC.trans (h.2.mono hC.size)⟩, ?_⟩; go_big_quiet_on)
          refine wpQuiet_val rfl (.int .i64 (R1 : Nat)) (fun w' hC => by
            have hwr := RW.out
            have q1 := (r17.out.below hC r17.out.lt).one 0 rfl
            go_simp) ?_
          simp only [Act.put, List.setIfInBounds_toArray, List.set_cons_succ, List.set_cons_zero]
          refine wpQuiet_val rfl (.int .i64 ((R1 : Int) - 1)) (fun w' hC => by
            have hwr := RW.out
            have q1 := (r17.out.below hC r17.out.lt).one 0 rfl
            go_simp) ?_
          simp only [Act.put, List.setIfInBounds_toArray, List.set_cons_succ, List.set_cons_zero]
          refine wpQuiet_val rfl (.bool false) (fun w' hC => by
            have hwr := RW.out
            have q1 := (r17.out.below hC r17.out.lt).one 0 rfl
            go_simp) ?_
          simp only [Act.put, List.setIfInBounds_toArray, List.set_cons_succ, List.set_cons_zero]
          refine wpQuiet_val rfl (.bool false) (fun w' hC => by
            have hwr := RW.out
            have q1 := (r17.out.below hC r17.out.lt).one 0 rfl
            go_simp) ?_
          simp only [Act.put, List.setIfInBounds_toArray, List.set_cons_succ, List.set_cons_zero]
          refine wpQuiet_val rfl (.bool false) (fun w' hC => by
            have hwr := RW.out
            have q1 := (r17.out.below hC r17.out.lt).one 0 rfl
            go_simp) ?_
          simp only [Act.put, List.setIfInBounds_toArray, List.set_cons_succ, List.set_cons_zero]
          refine wpQuiet_val rfl (.pointer (some ⟨p, 0, none⟩)) (fun w' hC => by
            have hwr := RW.out
            have q1 := (r17.out.below hC r17.out.lt).one 0 rfl
            go_simp) ?_
          simp only [Act.put, List.setIfInBounds_toArray, List.set_cons_succ, List.set_cons_zero]
          refine wpQuiet_val rfl (.int .i64 (s : Nat)) (fun w' hC => by
            have hwr := RW.out
            have q1 := (r17.out.below hC r17.out.lt).one 0 rfl
            go_simp) ?_
          simp only [Act.put, List.setIfInBounds_toArray, List.set_cons_succ, List.set_cons_zero]
          refine wpQuiet_val rfl (.pointer (some ⟨lp2, 0, none⟩)) (fun w' hC => by
            have hwr := RW.out
            have q1 := (r17.out.below hC r17.out.lt).one 0 rfl
            go_simp) ?_
          simp only [Act.put, List.setIfInBounds_toArray, List.set_cons_succ, List.set_cons_zero]
          (go_big_quiet_want; go_big_quiet_op; apply Exists.intro; refine ⟨fun w' hC => (OPN.out w' hC).mono fun e w'' h => ⟨h.1, by rw [h.2]; exact hC⟩, ?_⟩; go_big_quiet_on)
          refine wpQuiet_val rfl (.bool false) (fun w' hC => by
            have hwr := RW.out
            have q1 := (r17.out.below hC r17.out.lt).one 0 rfl
            go_simp) ?_
          simp only [Act.put, List.setIfInBounds_toArray, List.set_cons_succ, List.set_cons_zero]
          refine wpQuiet_val rfl (.bool false) (fun w' hC => by
            have hwr := RW.out
            have q1 := (r17.out.below hC r17.out.lt).one 0 rfl
            go_simp) ?_
          simp only [Act.put, List.setIfInBounds_toArray, List.set_cons_succ, List.set_cons_zero]
          refine wpQuiet_nil fun w18 hC => ?_
          have C18 := Lib.hid (C17.out.after hC)
          have H18 := Lib.hid (H17.out.after hC)
          have b18 := Lib.hid (b17.out.trans (hC.mono b17.out.size))
          clear RM4 OPN RM3 RW C17 H17 r17 b17 hC hw17 hnl hl3len eop
          go_wp2
          go_roundw
          case rel => exact ⟨i + 1, _, s, x + 1, lp2, S3, G3, hv3, _, by omega, by go_num, rfl, hl3, C18, LI3, BK3, H18, b18⟩
          case measure => simp [intOf]; omega
        · have r0 : R1 = 0 := by
            have h3 := hR1e.out
            have h4 := ho.out
            split at h3 <;> omega
          have l9 : ((R1 : Int) == 0) = true := by rw [beq_iff_eq]; omega
          have hnx : nextS L S1 G2 0 = none := BK2.out.none (r := 0) (by
            have h4 := ho.out
            have h5 := hn.out
            have h6 := hm.out
            by_cases h8 : b' = 8
            · exact .inl ⟨by omega, by omega⟩
            · exact .inr ⟨by omega, by omega⟩)
          have AP := Lib.hid (app_full w.heap.size lp2 L S1 hv1 G2 3 (by decide) ⟨#[120]⟩ 0 (Lib.hid (LI2.out.seqlt (by omega))) w10 C10 k10 (by decide) (by decide) hnx)
          clear hnx LI2 BK2 hl hR1e hfull ho
          go_wp2_with fail
          refine AP.out.mono ?_
          rintro e w12 ⟨rfl, b12⟩
          have b13 := b11.out.trans (b12.mono b11.out.size)
          have bA := Lib.hid (b13.alloc b13.size (.cells #[.int .i64 0, .int .i64 0] 34))
          clear AP C10 b11 b12 b13 H10 k10
          go_wp2_with (refine wpList_store_row rfl 34 _ _ rfl w12.heap.size #[.int .i64 0, .int .i64 0] rfl rfl 34 _ (RowAt.new _ _ _) (size_addr _ rfl) rfl (by simp [Value.oneCell']) ?_; rw [World.setRow_alloc_new]; generalize w12.alloc (.cells #[.int .i64 0, .int .i64 0] 34) = w13 at *)
          go_ret
          exact ⟨rfl, bA.out⟩
      · have l1 : ((i : Int) == (aa : Int)) = false := by rw [beq_eq_false_iff_ne]; omega
        clear hia
        have RM := lroom_any w.heap.size lp1 L S1 hv1 G1 wr C1
        obtain ⟨R1, hR1⟩ : ∃ R1, Hid (roomN L S1 G1 L.n = R1) := ⟨_, rfl⟩
        have hR1e : Hid (R1 = if cs < 8 then (4 - cp) + (8 - cs - 1) * 4 else 0) := by
          have := BK1.out.rooms
          rw [hR1.out, hn.out, hm.out] at this
          exact this
        rw [hR1.out] at RM
        replace RM := Lib.hid RM
        have hR32 : R1 ≤ 32 := by have := hR1e.out; split at this <;> omega
        clear hR1
        go_wp2_with fail
        refine RM.out.mono ?_
        rintro e w10 ⟨rfl, b10⟩
        have C10 := Lib.hid (C1.out.after b10)
        have H10 := Lib.hid (H1.out.after b10)
        have b11 := Lib.hid (hb.out.trans (b10.mono hb.out.size))
        have k10 : Hid (KRow w10) := hkr.out.below b11.out hkr.out.1 b11.out.size
        clear RM C1 H1 hb b10 kr
        have ho := BK1.out.ord
        rw [hn.out, hm.out] at ho
        replace ho := Lib.hid ho
        by_cases hfull : cs < 8 ∧ ¬ (cs = 7 ∧ cp = 4)
        · obtain ⟨s, nx, hs, hfs, hbl, hpos, hbk⟩ := BK1.out.put (r := 0) (by have := ho.out; rw [hm.out, hn.out]; omega)
          have AP := Lib.hid (app_yes w.heap.size lp1 L S1 hv1 G1 3 (by decide) ⟨#[120]⟩ 0 (Lib.hid (LI1.out.seqlt (by omega))) w10 C10 k10 (by decide) (by decide) s nx (LI1.out.lowS (by omega)) LI1.out.leftne)
          have LI3 := Lib.hid (LI1.out.app (by omega) (k := 3) (x := ⟨#[120]⟩) (by decide) (by decide) (by decide) hs hfs hbl)
          have BK3 := Lib.hid (hbk 3 G1.seq ⟨#[120]⟩ (by decide))
          have al3 : (allL L (appS L S1 3 G1.seq s ⟨#[120]⟩) 3).length = i + 1 := by rw [all_app (by decide) (by decide) (by have := LI1.out.seqlt (by omega); omega) (by decide) hs hfs hbl, hl.out.2.1]
          have pgs : ∀ a b, isB (S1.page a b) = true → isB ((appS L S1 3 G1.seq s ⟨#[120]⟩).page a b) = true := fun a b h => by
            rw [appS_page]
            split
            · exact put_isB (by decide)
            · exact h
          have pgn : isB ((appS L S1 3 G1.seq s ⟨#[120]⟩).page s (firstB L S1 s)) = true := by
            rw [appS_page, if_pos ⟨rfl, rfl⟩]
            exact put_isB (by decide)
          have eop : Hid ((appG G1 s).op = (s : Int)) := rfl
          generalize appS L S1 3 G1.seq s ⟨#[120]⟩ = S3 at *
          generalize appG G1 s = G3 at *
          generalize firstB L S1 s = x at *
          have hnl : Hid (((s : Int), (x : Int)) ∉ l) := fun hmem => by
            obtain ⟨s', f', e, hB⟩ := hl.out.2.2 _ hmem
            have e1 : s' = s := by have := congrArg Prod.fst e; simp at this; omega
            have e2 : f' = x := by have := congrArg Prod.snd e; simp at this; omega
            rw [e1, e2, hbl] at hB
            cases hB
          have hl3 : Hid ((l ++ [((s : Int), (x : Int))]).length = i + 1 ∧ (allL L S3 3).length = i + 1 ∧ ∀ a, a ∈ l ++ [((s : Int), (x : Int))] → ∃ s f : Nat, a = ((s : Int), (f : Int)) ∧ isB (S3.page s f) = true) := by
            refine ⟨by rw [List.length_append, hl.out.1]; rfl, al3, fun a ha => ?_⟩
            rcases List.mem_append.1 ha with h | h
            · obtain ⟨s', f', e, hB⟩ := hl.out.2.2 a h
              exact ⟨s', f', e, pgs _ _ hB⟩
            · rw [List.mem_singleton.1 h]
              exact ⟨s, x, rfl, pgn⟩
          have hl3len : Hid (l.length = i) := hl.out.1
          have RM3 : Hid (∀ W hv, Hid (Lg w.heap.size W lp1 L S3 hv G3) → Calls Tryz.prog 19 #[.pointer (some ⟨lp1, 0, none⟩)] W fun e w' => e = .returned (.int .i64 ((R1 : Int) - 1)) ∧ Below W.heap.size W w') := fun W hv hL => by
            have h1 := lroom_any w.heap.size lp1 L S3 hv G3 W hL
            have h2 := BK3.out.rooms
            have h3 := hR1e.out
            have h4 := ho.out
            have h5 := hn.out
            have h6 := hm.out
            rw [h2, hn.out, hm.out] at h1
            have e : (((if s < 8 then (4 - (x + 1)) + (8 - s - 1) * 4 else 0 : Nat)) : Int) = (R1 : Int) - 1 := by
              rw [if_pos (by omega)]
              rw [if_pos hfull.1] at h3
              rw [hm.out] at hpos
              omega
            rw [e] at h1
            exact h1
          have R1p : 1 ≤ R1 := by
            have h3 := hR1e.out
            rw [if_pos hfull.1] at h3
            have := ho.out
            omega
          clear nx hs hfs hbl hpos hbk LI1 BK1 hl al3 pgs pgn hR1e hfull ho
          go_wp2_with fail
          refine AP.out.mono ?_
          rintro e w12 ⟨rfl, hv3, C12, g12⟩
          have b13 := b11.out.trans (g12.under C10.out b11.out.size)
          have H12 := H10.out.goes C10.out g12
          have ba := (Below.refl _ w12).alloc (Nat.le_refl _) (.cells #[.int .i64 (s : Int), .int .i64 (x : Int)] 34)
          have bA := Lib.hid (b13.alloc b13.size (.cells #[.int .i64 (s : Int), .int .i64 (x : Int)] 34))
          have cA := Lib.hid (C12.out.after ba)
          have HA := Lib.hid (H12.after ba)
          have rA := Lib.hid (RowAt.new w12 34 #[.int .i64 (s : Int), .int .i64 (x : Int)])
          have pw : Hid (w.heap.size ≤ w12.heap.size) := b13.size
          clear AP C10 C12 g12 b11 b13 H10 H12 ba k10
          go_wp2_with (refine wpList_store_row rfl 34 _ _ rfl w12.heap.size #[.int .i64 (s : Int), .int .i64 (x : Int)] rfl rfl 34 _ (RowAt.new _ _ _) (size_addr _ rfl) rfl (by simp [Value.oneCell']) ?_; rw [World.setRow_alloc_new]; generalize w12.alloc (.cells #[.int .i64 (s : Int), .int .i64 (x : Int)] 34) = w13 at *)
          generalize w12.heap.size = p at *
          have bd : Below w13.heap.size w13 w13.drew := (Below.refl _ w13).drew
          have H14 := HA.out.after bd
          have r14 := Lib.hid (rA.out.below bd rA.out.lt)
          generalize hw14 : w13.drew = w14 at *
          have e1 := H14.look hnl.out
          have e2 := H14.entry hnl.out
          have HP15 : HadP (w14.putObj mb (.map (hadL l 0 ++ [entA (keyA ((s : Int), (x : Int))) 0 l.length]).toArray (l.length + 1))) mb l ((s : Int), (x : Int)) := World.putObj_heap_same (Array.getElem?_eq_some_iff.1 H14).1
          have r15 := row_putObj (o' := .map (hadL l 0 ++ [entA (keyA ((s : Int), (x : Int))) 0 l.length]).toArray (l.length + 1)) r14.out H14 rfl
          generalize hw15 : w14.putObj mb (.map (hadL l 0 ++ [entA (keyA ((s : Int), (x : Int))) 0 l.length]).toArray (l.length + 1)) = w15 at *
          have e3 := HP15.look hnl.out
          have e4 := HP15.store
          have H16 : Had (w15.putObj mb (.map (hadL (l ++ [((s : Int), (x : Int))]) 0).toArray (l.length + 1))) mb (l ++ [((s : Int), (x : Int))]) := by
            unfold Had
            rw [List.length_append]
            exact World.putObj_heap_same (Array.getElem?_eq_some_iff.1 HP15).1
          generalize hw16 : w15.putObj mb (.map (hadL (l ++ [((s : Int), (x : Int))]) 0).toArray (l.length + 1)) = w16 at *
          unfold keyA at e1 e2 e3
          have a0 := r14.out.one 0 rfl
          have a1 := r14.out.one 1 rfl
          have c0 := r15.one 0 rfl
          have c1 := r15.one 1 rfl
          have b14 := bA.out.drew
          rw [hw14] at b14
          have b15 := below_putObj (o := .map (hadL l 0 ++ [entA (keyA ((s : Int), (x : Int))) 0 l.length]).toArray (l.length + 1)) b14 hmb
          rw [hw15] at b15
          have b16 := below_putObj (o := .map (hadL (l ++ [((s : Int), (x : Int))]) 0).toArray (l.length + 1)) b15 hmb
          rw [hw16] at b16
          have c14 := cA.out.after bd
          have cel15 := Cel.put (m := 0) (.map (hadL l 0 ++ [entA (keyA ((s : Int), (x : Int))) 0 l.length]).toArray (l.length + 1)) (Nat.zero_le _) H14 rfl
          rw [hw15] at cel15
          have cel16 := Cel.put (m := 0) (.map (hadL (l ++ [((s : Int), (x : Int))]) 0).toArray (l.length + 1)) (Nat.zero_le _) HP15 rfl
          rw [hw16] at cel16
          have C16 := Lib.hid ((c14.cel cel15).cel cel16)
          have r16 := Lib.hid (r15.cel cel16)
          replace b16 := Lib.hid b16
          replace H16 := Lib.hid H16
          clear H14 HP15 r15 b14 b15 c14 cel15 cel16 bd hw15 hw16 bA cA HA rA
          go_big_region
          clear e1 e2 e3 e4 a0 a1 c0 c1 r14 hw14
          go_wp2_with fail
          have C17 := Lib.hid (C16.out.after (Below.refl _ w16).drew)
          have H17 := Lib.hid (H16.out.after (Below.refl _ w16).drew)
          have r17 := Lib.hid (r16.out.below (Below.refl _ w16).drew r16.out.lt)
          have b17 := Lib.hid b16.out.drew
          clear C16 H16 r16 b16
          generalize hw17 : w16.drew = w17 at *
          have RM4 := Lib.hid (fun w' (hC : Below w17.heap.size w17 w') => RM3.out w' hv3 (Lib.hid (C17.out.after hC)))
          have OPN := Lib.hid (fun w' (hC : Below w17.heap.size w17 w') => lopen_any w.heap.size w' lp1 L S3 hv3 G3 (Lib.hid (C17.out.after hC)))
          rw [eop.out] at OPN
          have RW := Lib.hid (IntWalk.i64_in ((R1 : Int) - 1) (by omega))
          refine wp_region_class (fun w' => Below w17.heap.size w17 w') (by kernel_rfl) (by kernel_rfl) (by rw [hw17]; exact Below.refl _ _) ?_
          refine wpQuiet_val rfl (.map (some mb)) (fun w' hC => by
            have hwr := RW.out
            have q1 := (r17.out.below hC r17.out.lt).one 0 rfl
            go_simp) ?_
          simp only [Act.put, List.setIfInBounds_toArray, List.set_cons_succ, List.set_cons_zero]
          refine wpQuiet_val rfl (.agg #[.int .i64 (s : Int), .int .i64 (x : Int)]) (fun w' hC => op_load_row (r17.out.below hC r17.out.lt) Tryz.underlying34 rfl (size_addr _ rfl) rfl rfl) ?_
          simp only [Act.put, List.setIfInBounds_toArray, List.set_cons_succ, List.set_cons_zero]
          refine wpQuiet_val rfl (.int .i64 1) (fun w' hC => op_look1 (H17.out.after hC) hnl.out rfl rfl rfl) ?_
          simp only [Act.put, List.setIfInBounds_toArray, List.set_cons_succ, List.set_cons_zero]
          refine wpQuiet_val rfl (.bool false) (fun w' hC => by
            have hwr := RW.out
            have q1 := (r17.out.below hC r17.out.lt).one 0 rfl
            go_simp) ?_
          simp only [Act.put, List.setIfInBounds_toArray, List.set_cons_succ, List.set_cons_zero]
          refine wpQuiet_val rfl (.bool false) (fun w' hC => by
            have hwr := RW.out
            have q1 := (r17.out.below hC r17.out.lt).one 0 rfl
            go_simp) ?_
          simp only [Act.put, List.setIfInBounds_toArray, List.set_cons_succ, List.set_cons_zero]
          refine wpQuiet_val rfl (.pointer (some ⟨lp1, 0, none⟩)) (fun w' hC => by
            have hwr := RW.out
            have q1 := (r17.out.below hC r17.out.lt).one 0 rfl
            go_simp) ?_
          simp only [Act.put, List.setIfInBounds_toArray, List.set_cons_succ, List.set_cons_zero]
          (go_big_quiet_want; go_big_quiet_op; apply Exists.intro; refine ⟨fun w' hC => (RM4.out w' hC).mono fun e w'' h => ⟨h.1, hC.trans (h.2.mono hC.size)⟩, ?_⟩; go_big_quiet_on)
          refine wpQuiet_val rfl (.int .i64 (R1 : Nat)) (fun w' hC => by
            have hwr := RW.out
            have q1 := (r17.out.below hC r17.out.lt).one 0 rfl
            go_simp) ?_
          simp only [Act.put, List.setIfInBounds_toArray, List.set_cons_succ, List.set_cons_zero]
          refine wpQuiet_val rfl (.int .i64 ((R1 : Int) - 1)) (fun w' hC => by
            have hwr := RW.out
            have q1 := (r17.out.below hC r17.out.lt).one 0 rfl
            go_simp) ?_
          simp only [Act.put, List.setIfInBounds_toArray, List.set_cons_succ, List.set_cons_zero]
          refine wpQuiet_val rfl (.bool false) (fun w' hC => by
            have hwr := RW.out
            have q1 := (r17.out.below hC r17.out.lt).one 0 rfl
            go_simp) ?_
          simp only [Act.put, List.setIfInBounds_toArray, List.set_cons_succ, List.set_cons_zero]
          refine wpQuiet_val rfl (.bool false) (fun w' hC => by
            have hwr := RW.out
            have q1 := (r17.out.below hC r17.out.lt).one 0 rfl
            go_simp) ?_
          simp only [Act.put, List.setIfInBounds_toArray, List.set_cons_succ, List.set_cons_zero]
          refine wpQuiet_val rfl (.bool false) (fun w' hC => by
            have hwr := RW.out
            have q1 := (r17.out.below hC r17.out.lt).one 0 rfl
            go_simp) ?_
          simp only [Act.put, List.setIfInBounds_toArray, List.set_cons_succ, List.set_cons_zero]
          refine wpQuiet_val rfl (.pointer (some ⟨p, 0, none⟩)) (fun w' hC => by
            have hwr := RW.out
            have q1 := (r17.out.below hC r17.out.lt).one 0 rfl
            go_simp) ?_
          simp only [Act.put, List.setIfInBounds_toArray, List.set_cons_succ, List.set_cons_zero]
          refine wpQuiet_val rfl (.int .i64 (s : Nat)) (fun w' hC => by
            have hwr := RW.out
            have q1 := (r17.out.below hC r17.out.lt).one 0 rfl
            go_simp) ?_
          simp only [Act.put, List.setIfInBounds_toArray, List.set_cons_succ, List.set_cons_zero]
          refine wpQuiet_val rfl (.pointer (some ⟨lp1, 0, none⟩)) (fun w' hC => by
            have hwr := RW.out
            have q1 := (r17.out.below hC r17.out.lt).one 0 rfl
            go_simp) ?_
          simp only [Act.put, List.setIfInBounds_toArray, List.set_cons_succ, List.set_cons_zero]
          (go_big_quiet_want; go_big_quiet_op; apply Exists.intro; refine ⟨fun w' hC => (OPN.out w' hC).mono fun e w'' h => ⟨h.1, by rw [h.2]; exact hC⟩, ?_⟩; go_big_quiet_on)
          refine wpQuiet_val rfl (.bool false) (fun w' hC => by
            have hwr := RW.out
            have q1 := (r17.out.below hC r17.out.lt).one 0 rfl
            go_simp) ?_
          simp only [Act.put, List.setIfInBounds_toArray, List.set_cons_succ, List.set_cons_zero]
          refine wpQuiet_val rfl (.bool false) (fun w' hC => by
            have hwr := RW.out
            have q1 := (r17.out.below hC r17.out.lt).one 0 rfl
            go_simp) ?_
          simp only [Act.put, List.setIfInBounds_toArray, List.set_cons_succ, List.set_cons_zero]
          refine wpQuiet_nil fun w18 hC => ?_
          have C18 := Lib.hid (C17.out.after hC)
          have H18 := Lib.hid (H17.out.after hC)
          have b18 := Lib.hid (b17.out.trans (hC.mono b17.out.size))
          clear RM4 OPN RM3 RW C17 H17 r17 b17 hC hw17 hnl hl3len eop
          go_wp2
          go_roundw
          case rel => exact ⟨i + 1, _, s, x + 1, lp1, S3, G3, hv3, _, by omega, by go_num, rfl, hl3, C18, LI3, BK3, H18, b18⟩
          case measure => simp [intOf]; omega
        · have r0 : R1 = 0 := by
            have h3 := hR1e.out
            have h4 := ho.out
            split at h3 <;> omega
          have l9 : ((R1 : Int) == 0) = true := by rw [beq_iff_eq]; omega
          have hnx : nextS L S1 G1 0 = none := BK1.out.none (r := 0) (by
            have h4 := ho.out
            have h5 := hn.out
            have h6 := hm.out
            by_cases h8 : cs = 8
            · exact .inl ⟨by omega, by omega⟩
            · exact .inr ⟨by omega, by omega⟩)
          have AP := Lib.hid (app_full w.heap.size lp1 L S1 hv1 G1 3 (by decide) ⟨#[120]⟩ 0 (Lib.hid (LI1.out.seqlt (by omega))) w10 C10 k10 (by decide) (by decide) hnx)
          clear hnx LI1 BK1 hl hR1e hfull ho
          go_wp2_with fail
          refine AP.out.mono ?_
          rintro e w12 ⟨rfl, b12⟩
          have b13 := b11.out.trans (b12.mono b11.out.size)
          have bA := Lib.hid (b13.alloc b13.size (.cells #[.int .i64 0, .int .i64 0] 34))
          clear AP C10 b11 b12 b13 H10 k10
          go_wp2_with (refine wpList_store_row rfl 34 _ _ rfl w12.heap.size #[.int .i64 0, .int .i64 0] rfl rfl 34 _ (RowAt.new _ _ _) (size_addr _ rfl) rfl (by simp [Value.oneCell']) ?_; rw [World.setRow_alloc_new]; generalize w12.alloc (.cells #[.int .i64 0, .int .i64 0] 34) = w13 at *)
          go_ret
          exact ⟨rfl, bA.out⟩
    · have hie : i = nn := by omega
      have l0 : ¬ (i : Int) < (nn : Int) := by omega
      have AL := Lib.hid (lall_any w.heap.size lp1 L S1 hv1 G1 3 wr C1 kr)
      rw [hl.out.2.1] at AL
      clear LI1 BK1
      go_wp2_with fail
      refine AL.out.mono ?_
      rintro e w7 ⟨aa1, ac1, rfl, -, b7⟩
      have H7 := H1.out.after b7
      have b9 := Lib.hid (hb.out.trans (b7.mono hb.out.size))
      unfold Had at H7
      obtain ⟨E, hE⟩ : ∃ E, Hid (E = (hadL l 0).toArray) := ⟨_, rfl⟩
      rw [← hE.out] at H7
      have hsz : E.size = i := by rw [hE.out, List.size_toArray, hadL_length, hl.out.1]
      clear AL C1 hb b7 H1 kr hl hE
      have hlen : (Builtin.len_ #[50] 3 #[.map (some mb)]).run Tryz.prog w7 = .ok (.int .i64 (i : Int)) w7 := by
        have := run_len_map (P := Tryz.prog) (w := w7) 50 3 mb E l.length (by rw [Tryz.underlying50]; kernel_rfl) H7
        rw [hsz] at this
        exact this
      go_wp2
      go_ret
      exact ⟨rfl, b9.out⟩
theorem once_walk (n : Int) (hn : (Lit.int .u8 n).wf = true) (a : Int) (ha : (Lit.int .u8 a).wf = true) (w : World) (hkr : KRow w) :
    Calls Tryz.prog 5 #[.int .u8 n, .int .u8 a] w fun e w' => e = .returned (.bool true) ∧ Below w.heap.size w w' := by
  have h1 := wf_u8 hn
  have h2 := wf_u8 ha
  have := once_true n.toNat a.toNat (by omega) (by omega) w hkr
  rwa [Int.toNat_of_nonneg h1.1, Int.toNat_of_nonneg h2.1] at this

end Go.Proofs.YtiioccfcdkpblaaGreatDoor
