/-
  The walk of SeglogReserve.
-/
import Derived.Test.YtiioccfcdkpblaaGreatDoorAll8
import Derived.Test.YtiioccfcdkpblaaGreatDoorOpenZFin
namespace Go.Proofs.YtiioccfcdkpblaaGreatDoor
open Go.RowKit
set_option linter.unusedVariables false

def numV8 (f : Nat → Nat) : Nat → Value := fun j => .int .u8 ((f j : Nat) : Int)
def Came8 (w : World) (a : Option Addr) (n c : Nat) (f : Nat → Nat) : Prop := SeesV w a n (numV8 f) ∧ ∀ j, f j < 256
theorem open_u8s {H : Type} {enc : TypeId × Value → H} {W : World} {base : Nat} {sp : Nat → Bool} {held : Bool} {a : Option Addr} {n c : Nat} {d : DataW H} {ps : List MemPlace}
    (h : DataW.Trod enc Tryz.prog W base sp held 45 (.slice a n c) d ps) : ∃ f, Came8 W a n c f := by
  obtain ⟨f, h1, _, h3⟩ := open_numbers Tryz.underlying45 Tryz.underlying5 (by kernel_rfl) h
  refine ⟨fun j => if j < n then (f j).toNat else 0, h1.congr fun j hj => ?_, fun j => ?_⟩
  · have := wf_u8 (h3 j hj)
    show Value.int .u8 (f j) = .int .u8 (((if j < n then (f j).toNat else 0 : Nat)) : Int)
    rw [if_pos hj]
    congr 1
    omega
  · show (if j < n then (f j).toNat else 0) < _
    split
    · rename_i hj
      have := wf_u8 (h3 j hj)
      omega
    · decide
theorem el_u8s : Tryz.prog.elem 45 = 5 := by kernel_rfl
theorem sz_u8 : (Tryz.prog.info? 5).map (·.size) = some 1 := by kernel_rfl
theorem at_u8s {w0 : World} {ad : Option Addr} {n c i : Nat} {F : Nat → Value} (h : SeesV w0 ad n F) (hi : i < n) {o : Oper} {a : Act} {x y : Operand} (ho : o.op = .indexAddr 45 x y) (hx : a.eval x = .slice ad n c) {z : Int} (hy : a.eval y = .int .i64 z) (hz : z = (i : Int)) (w : World) :
    (execOp a.eval o).run Tryz.prog w = .ok (.value (.pointer (some (elV ad i)))) w := by
  have := run_index_v Tryz.underlying45 el_u8s sz_u8 (k := 1) (n := n) (by rw [Nat.mul_one]; exact h) (by decide) hi ho hx hy hz w
  rwa [Nat.mul_one] at this
theorem get_u8 {w : World} {ad : Option Addr} {m : Nat} {z : Int} (hc : w.cell? (elV ad m) = some (.int .u8 z)) {o : Oper} {a : Act} {x : Operand} (ho : o.op = .load 5 x) (hx : a.eval x = .pointer (some (elV ad m))) :
    (execOp a.eval o).run Tryz.prog w = .ok (.value (.int .u8 z)) w := run_load_one hc Tryz.underlying5 rfl ho hx

/-- What the second loop keeps: the open segment is neither free nor retired. -/
structure Iv (L : Lay) (S : St) (G : Sg) (t : Nat) : Prop where
  op : ∀ s, s < L.n → G.op = (s : Int) → freeB L S G s = false ∧ G.worn s = false
  low : LowT S t
  left : S.left ≤ 0
theorem Iv.of_bk {L : Lay} {S : St} {G : Sg} {cs cp t : Nat} (h : Bk L S G 0 cs cp) (hl : LowT S t) (le : S.left ≤ 0) : Iv L S G t := by
  refine ⟨fun s hs e => ⟨?_, h.worn s hs⟩, hl, le⟩
  rw [h.free hs]
  have := h.op
  rw [e] at this
  by_cases h0 : cp = 0
  · rw [if_pos h0] at this; omega
  · rw [if_neg h0] at this
    rw [if_neg h0, decide_eq_false (by omega)]
theorem free_same {L : Lay} {S S' : St} {G G' : Sg} {s : Nat} (hp : ∀ j, S'.page s j = S.page s j) (hw : G'.worn s = G.worn s) : freeB L S' G' s = freeB L S G s := by
  have e : ∀ t, blL S' s t = blL S s t := fun t => by
    induction t with
    | zero => rfl
    | succ t ih =>
      show blL S' s t ++ (if isB (S'.page s t) = true then [] else [t]) = blL S s t ++ (if isB (S.page s t) = true then [] else [t])
      rw [ih, hp]
  unfold freeB
  rw [e, hw]
theorem Iv.ok {L : Lay} {S : St} {G : Sg} {t i : Nat} (h : Iv L S G t) (hm : L.m ≤ 16) : Iv L (lerS S i) (closeG G i) (t + 1) := by
  refine ⟨fun s hs e => ?_, h.low.ler i, by have := h.left; show S.left - 1 ≤ 0; omega⟩
  have e2 : (closeG G i).op = if (i : Int) = G.op then -1 else G.op := rfl
  rw [e2] at e
  by_cases h0 : (i : Int) = G.op
  · rw [if_pos h0] at e; omega
  · rw [if_neg h0] at e
    obtain ⟨h1, h2⟩ := h.op s hs e
    refine ⟨?_, h2⟩
    have hsi : ¬ s = i := by omega
    rw [free_same (S := S) (G := G) (S' := lerS S i) (G' := closeG G i) (fun j => ?_) rfl]
    · exact h1
    · unfold lerS
      rw [clr_page, if_neg hsi]
theorem Iv.no {L : Lay} {S : St} {G : Sg} {t i : Nat} (h : Iv L S G t) : Iv L S (wornG G i) (t + 1) := by
  refine ⟨fun s hs e => ?_, h.low.mono (Nat.le_succ _), h.left⟩
  have e2 : (wornG G i).op = if (i : Int) = G.op then -1 else G.op := rfl
  rw [e2] at e
  by_cases h0 : (i : Int) = G.op
  · rw [if_pos h0] at e; omega
  · rw [if_neg h0] at e
    obtain ⟨h1, h2⟩ := h.op s hs e
    have hsi : ¬ s = i := by omega
    have hw : (wornG G i).worn s = G.worn s := by
      show updB G.worn i s = _
      unfold updB
      rw [if_neg hsi]
    exact ⟨by rw [free_same (S := S) (G := G) (fun _ => rfl) hw]; exact h1, by rw [hw]; exact h2⟩

set_option maxHeartbeats 8000000 in
set_option maxRecDepth 8000 in
theorem reserve_true (n r : Nat) (hn8 : n < 256) (hr8 : r < 256) (a : Option Addr) (len c : Nat) (f : Nat → Nat) (w : World) (hkr : Hid (KRow w)) (hf : Hid (Came8 w a len c f)) :
    Calls Tryz.prog 4 #[.int .u8 (n : Nat), .int .u8 (r : Nat), .slice a len c] w fun e w' => e = .returned (.bool true) ∧ Below w.heap.size w w' := by
  have SH := Lib.hid (shown13_any w hkr)
  by_cases h40 : 40 < len
  · have d0 : decide ((len : Int) > 40) = true := decide_eq_true (by omega)
    clear h40
    go_enter Tryz.func4, Tryz.ntmps4
    go_wp2_with fail
    refine SH.out.mono ?_
    rintro e w1 ⟨rfl, b1⟩
    clear SH
    go_wp2
    go_ret
    exact ⟨rfl, b1⟩
  · obtain ⟨k, hk, hk8⟩ : ∃ k : Nat, Hid ((r : Int) % 8 = (k : Int)) ∧ k < 8 := ⟨r % 8, by unfold Hid; omega, by omega⟩
    obtain ⟨nn, hnn, hn30⟩ : ∃ nn : Nat, Hid ((n : Int) % 30 = (nn : Int)) ∧ nn < 30 := ⟨n % 30, by unfold Hid; omega, by omega⟩
    have d0 : ¬ (len : Int) > 40 := by omega
    go_enter Tryz.func4, Tryz.ntmps4
    go_wp2_with fail
    refine SH.out.mono ?_
    rintro e w0 ⟨rfl, b0⟩
    have NP := Lib.hid (newPower_any w0)
    clear SH
    go_wp2_with fail
    refine NP.out.mono ?_
    rintro e w1' ⟨rfl, r1', b1'⟩
    have bb := (Below.refl w1'.heap.size w1').alloc (Nat.le_refl _) (.cells #[.int .i64 4] 3)
    have b1 : Below w.heap.size w (w1'.alloc (.cells #[.int .i64 4] 3)) := (b0.trans (b1'.mono b0.size)).trans (bb.mono (by have := b0.size; have := b1'.size; omega))
    have r1 := Lib.hid (r1'.out.below bb r1'.out.lt)
    have s4 : Hid (SeesZ (w1'.alloc (.cells #[.int .i64 4] 3)) (some ⟨w1'.heap.size, 0, none⟩) 1 (fun _ => 4)) := fun m hm => by
      have e : m = 0 := by omega
      subst e
      have r := RowAt.new w1' 3 #[.int .i64 4]
      exact ⟨_, rfl, r.lt, by rw [addr_add, cell_of_row _ _ _ _ _ _ r]; rfl⟩
    have NW := Lib.hid (new_yes w.heap.size w0.heap.size 6 3 2 true 0 0 0 (some ⟨w1'.heap.size, 0, none⟩) 1 1 (fun _ => 4) _ r1 s4 b0.size (Lib.hid (by decide)) (Lib.hid (by decide)) (by decide) (by decide) (by decide) (by decide) (by decide) (by decide))
    clear NP r1 r1' s4 bb b1'
    go_wp2_with fail
    generalize w1'.alloc (.cells #[.int .i64 4] 3) = w1 at *
    refine NW.out.mono ?_
    rintro e w2 ⟨L, rfl, _, hn, hm, C2, b2⟩
    have b3 := b1.trans (b2.mono b1.size)
    clear NW b1 b2 b0
    generalize badN 6 (fun _ => 4) 1 = bd at *
    have k3 : Hid (KRow w2) := hkr.out.below b3 hkr.out.1 b3.size
    have mt := fresh_mount (L := L) (S := newS true 0 0 0 2 (bd)) (fun _ _ => rfl)
    have LI0 := LI.fresh (L := L) 2 (bd)
    have BK0 := Bk.fresh (L := L) (by rw [hm]; decide) 2 (bd) (mountN L (newS true 0 0 0 2 (bd)) + 1)
    have MT := Lib.hid (mount_any w.heap.size L _ _ w2 C2 rfl (Lib.hid (fun _ _ => by show (ByteArray.mk #[]).size ≤ 256; decide)) k3 b3.size (Lib.hid (by rw [mt]; decide)))
    rw [mt] at LI0 BK0 MT
    have rb : Hid ((newS true 0 0 0 2 (bd)).rated = 2 ∧ (newS true 0 0 0 2 (bd)).bad = bd) := ⟨rfl, rfl⟩
    generalize newS true 0 0 0 2 (bd) = S at *
    replace hn := Lib.hid hn
    replace hm := Lib.hid hm
    clear C2 mt
    go_wp2_with fail
    refine MT.out.mono ?_
    rintro e w4 ⟨lp, rfl, hlp, C4, b4⟩
    have b5 := b3.trans (b4.mono b3.size)
    clear MT b3 b4 k3
    replace LI0 := Lib.hid LI0
    replace BK0 := Lib.hid BK0
    clear hlp rb
    obtain ⟨B, hB, hB18⟩ : ∃ B : Nat, Hid (3 * max (6 - (k : Int)) 0 = (B : Int)) ∧ B ≤ 18 := ⟨3 * (6 - k), by unfold Hid; omega, by omega⟩
    have hBk : Hid (B = 3 * (6 - k)) := by have := hB.out; unfold Hid; omega
    go_wp2
    rw [hk.out]
    have hne := hnn.out
    have hBe := hB.out
    go_loopw [11] (fun v wr => ∃ (i cs cp : Nat) (S : St) (G : Sg) (hv : Value), i ≤ nn ∧ v = .int .i64 (i : Int) ∧ Hid (((i ≤ B ∧ cs * 3 + cp = i) ∨ (B < i ∧ cs * 3 + cp = B)) ∧ cp ≤ 3 ∧ cs < 6 ∧ (cp = 0 → cs = 0)) ∧ Hid (Lg w.heap.size wr lp L S hv G) ∧ Hid (LI L S G i) ∧ Hid (Bk L S G 0 cs cp) ∧ Hid (Below w.heap.size w wr)) (fun v _ => nn - (intOf v).toNat)
    case atStart => exact ⟨0, 0, 0, _, _, _, Nat.zero_le _, rfl, ⟨.inl ⟨Nat.zero_le _, rfl⟩, by decide, by decide, fun _ => rfl⟩, C4, LI0, BK0, b5⟩
    case round =>
      clear C4 LI0 BK0 b5 S
      obtain ⟨i, cs, cp, S1, G1, hv1, hi, rfl, hp, C1, LI1, BK1, hb⟩ := hrel
      have kr : Hid (KRow wr) := hkr.out.below hb.out hkr.out.1 hb.out.size
      by_cases hin : i < nn
      · have l0 : (i : Int) < (nn : Int) := by omega
        by_cases hiB : i < B
        · have l1 : (i : Int) < (B : Int) := by omega
          obtain ⟨s, nx, hs, hfs, hbl, hpos, hbk⟩ := BK1.out.put (r := (k : Int)) (by have := hp.out; have := hBk.out; rw [hm.out, hn.out]; omega)
          have AP := Lib.hid (app_yes w.heap.size lp L S1 hv1 G1 1 (by decide) ⟨#[116]⟩ (k : Int) (Lib.hid (LI1.out.seqlt (by omega))) wr C1 kr (by decide) (by decide) s nx (LI1.out.lowS (by omega)) LI1.out.leftne)
          have LI2 := Lib.hid (LI1.out.app (by omega) (k := 1) (x := ⟨#[116]⟩) (by decide) (by decide) (by decide) hs hfs hbl)
          have BK2 := Lib.hid (hbk 1 G1.seq ⟨#[116]⟩ (by decide))
          have hp2 : Hid (((i + 1 ≤ B ∧ s * 3 + (firstB L S1 s + 1) = i + 1) ∨ (B < i + 1 ∧ s * 3 + (firstB L S1 s + 1) = B)) ∧ firstB L S1 s + 1 ≤ 3 ∧ s < 6 ∧ (firstB L S1 s + 1 = 0 → s = 0)) := by
            have := hp.out
            have := hm.out
            have := hn.out
            unfold Hid
            omega
          generalize appS L S1 1 G1.seq s ⟨#[116]⟩ = S2 at *
          generalize appG G1 s = G2 at *
          generalize firstB L S1 s = x at *
          clear nx hs hfs hbl hpos hbk LI1 BK1 hp kr hiB
          go_wp2_with fail
          refine AP.out.mono ?_
          rintro e w6 ⟨rfl, hv6, C6, g6⟩
          have b8 := hb.out.trans (g6.under C1.out hb.out.size)
          have bA := Lib.hid (b8.alloc b8.size (.cells #[.int .i64 (s : Int), .int .i64 (x : Int)] 34))
          have cA := Lib.hid (C6.out.after ((Below.refl _ w6).alloc (Nat.le_refl _) (.cells #[.int .i64 (s : Int), .int .i64 (x : Int)] 34)))
          clear AP C1 C6 g6 b8 hb
          go_wp2_with (refine wpList_store_row rfl 34 _ _ rfl w6.heap.size #[.int .i64 (s : Int), .int .i64 (x : Int)] rfl rfl 34 _ (RowAt.new _ _ _) (size_addr _ rfl) rfl (by simp [Value.oneCell']) ?_; rw [World.setRow_alloc_new]; generalize w6.alloc (.cells #[.int .i64 (s : Int), .int .i64 (x : Int)] 34) = w7 at *)
          go_roundw
          case rel => exact ⟨i + 1, s, x + 1, S2, G2, hv6, by omega, by go_num, hp2, cA, LI2, BK2, bA⟩
          case measure => simp [intOf]; omega
        · have l1 : (B : Int) ≤ (i : Int) := by omega
          have hnx : nextS L S1 G1 (k : Int) = none := BK1.out.none (by have := hp.out; have := hBk.out; rw [hm.out, hn.out]; omega)
          have AP := Lib.hid (app_full w.heap.size lp L S1 hv1 G1 1 (by decide) ⟨#[116]⟩ (k : Int) (Lib.hid (LI1.out.seqlt (by omega))) wr C1 kr (by decide) (by decide) hnx)
          have LI2 : Hid (LI L S1 G1 (i + 1)) := ⟨LI1.out.sq, by have := LI1.out.sqb; omega, LI1.out.low.mono (Nat.le_succ _), LI1.out.left⟩
          have hp2 : Hid (((i + 1 ≤ B ∧ cs * 3 + cp = i + 1) ∨ (B < i + 1 ∧ cs * 3 + cp = B)) ∧ cp ≤ 3 ∧ cs < 6 ∧ (cp = 0 → cs = 0)) := by
            have := hp.out
            unfold Hid
            omega
          clear hnx LI1 hp kr hiB
          go_wp2_with fail
          refine AP.out.mono ?_
          rintro e w6 ⟨rfl, b6⟩
          have b8 := hb.out.trans (b6.mono hb.out.size)
          have bA := Lib.hid (b8.alloc b8.size (.cells #[.int .i64 0, .int .i64 0] 34))
          have cA := Lib.hid ((C1.out.after b6).after ((Below.refl _ w6).alloc (Nat.le_refl _) (.cells #[.int .i64 0, .int .i64 0] 34)))
          clear AP C1 b6 b8 hb
          go_wp2_with (refine wpList_store_row rfl 34 _ _ rfl w6.heap.size #[.int .i64 0, .int .i64 0] rfl rfl 34 _ (RowAt.new _ _ _) (size_addr _ rfl) rfl (by simp [Value.oneCell']) ?_; rw [World.setRow_alloc_new]; generalize w6.alloc (.cells #[.int .i64 0, .int .i64 0] 34) = w7 at *)
          go_roundw
          case rel => exact ⟨i + 1, cs, cp, S1, G1, hv1, by omega, by go_num, hp2, cA, LI2, BK1, bA⟩
          case measure => simp [intOf]; omega
      · have l0 : ¬ (i : Int) < (nn : Int) := by omega
        have IV : Hid (Iv L S1 G1 (30 + 0)) := Iv.of_bk BK1.out (LI1.out.low.mono (by omega)) LI1.out.left
        clear LI1 BK1 hp kr
        go_wp2
        go_loopw [15] (fun v wr => ∃ (j : Nat) (S : St) (G : Sg) (hv : Value), j ≤ len ∧ v = .int .i64 (j : Int) ∧ Hid (Lg w.heap.size wr lp L S hv G) ∧ Hid (Iv L S G (30 + j)) ∧ Hid (Below w.heap.size w wr)) (fun v _ => len - (intOf v).toNat)
        case atStart => exact ⟨0, S1, G1, hv1, Nat.zero_le _, rfl, C1, IV, hb⟩
        case round =>
          clear C1 IV hb S1 G1 hv1
          obtain ⟨j, S1, G1, hv1, hj, rfl, C1, IV, hb⟩ := hrel
          by_cases hjl : j < len
          · have l2 : (j : Int) < (len : Int) := by omega
            have s1 := Lib.hid (hf.out.1.after hb.out)
            have g1 := s1.out.cell hjl
            have fb := hf.out.2 j
            obtain ⟨sg, hsg, hs6⟩ : ∃ sg : Nat, Hid ((f j : Int) % 6 = (sg : Int)) ∧ sg < 6 := ⟨f j % 6, by unfold Hid; omega, by omega⟩
            change _ = some (Value.int .u8 ((f j : Nat) : Int)) at g1
            have hsL : sg < L.n := by rw [hn.out]; exact hs6
            obtain ⟨E, S2, G2, EE, IV2⟩ : ∃ (E : Int) (S2 : St) (G2 : Sg), Hid (Calls Tryz.prog 13 #[.pointer (some ⟨lp, 0, none⟩), .int .i64 (sg : Nat)] wr fun e w' => e = .returned (.int .i64 E) ∧ ∃ hv', Hid (Lg w.heap.size w' lp L S2 hv' G2) ∧ GoesG lp L hv1 wr hv' w') ∧ Hid (Iv L S2 G2 (30 + (j + 1))) := by
              cases hwb : wornB S1 sg
              · exact ⟨0, _, _, lerase_ok hsL hwb (by have := IV.out.left; omega) (IV.out.low.low (by omega)) wr C1, IV.out.ok (by rw [hm.out]; decide)⟩
              · exact ⟨101, _, _, lerase_no hsL hwb (IV.out.low.low (by omega)) wr C1, IV.out.no⟩
            have hse := hsg.out
            clear IV hs6 hsL
            generalize f j = fj at *
            go_wp2_with (first | (refine wpList_known rfl (at_u8s s1.out hjl rfl rfl rfl rfl _) ?_) | (refine wpList_known rfl (get_u8 g1 rfl rfl) ?_))
            refine EE.out.mono ?_
            rintro e w6 ⟨rfl, hv6, C6, g6⟩
            have b6 := Lib.hid (hb.out.trans (g6.under C1.out hb.out.size))
            have OP := Lib.hid (lopen_any w.heap.size w6 lp L S2 hv6 G2 C6)
            clear EE C1 g6 hb s1 g1 hse
            go_wp2_with fail
            refine OP.out.mono ?_
            rintro e w7 ⟨rfl, rfl⟩
            have CT := counts_all IV2.out.op L.n (Nat.le_refl _)
            have opb : Hid (G2.op = -1 ∨ (0 ≤ G2.op ∧ G2.op < (L.n : Int))) := by
              have := C6.out.opn
              unfold Hid
              rcases this with h | ⟨s, hs, h⟩
              · exact .inl h
              · exact .inr (by omega)
            have FR := Lib.hid (lfree_any w.heap.size lp L S2 hv6 G2 w7 C6)
            have US := Lib.hid (fun w' (hC : Below w7.heap.size w7 w') => lused_any w.heap.size lp L S2 hv6 G2 w' (Lib.hid (C6.out.after hC)))
            have RT := Lib.hid (fun w' (hC : Below w7.heap.size w7 w') => lretired_any w.heap.size lp L S2 hv6 G2 w' (Lib.hid (C6.out.after hC)))
            generalize sgL (freeB L S2 G2) L.n = l1 at *
            generalize sgL (usedB L S2 G2) L.n = l2' at *
            generalize sgL G2.worn L.n = l3 at *
            have hl : Hid (l1.length + (if 0 ≤ G2.op ∧ G2.op < (L.n : Int) then 1 else 0) + l2'.length + l3.length = 6) := by unfold Hid; rw [CT, hn.out]
            clear CT OP
            generalize hx1 : l1.length = x1 at *
            by_cases ho : 0 ≤ G2.op
            · have l4 : decide (G2.op ≥ 0) = true := decide_eq_true ho
              have hl2 : Hid (x1 + 1 + l2'.length + l3.length = 6) := by
                have := hl.out
                rw [if_pos (by have := opb.out; omega)] at this
                exact this
              have y1 : x1 ≤ 6 := by have := hl2.out; omega
              have y2 : l2'.length ≤ 6 := by have := hl2.out; omega
              have y3 : l3.length ≤ 6 := by have := hl2.out; omega
              clear hl opb ho hx1
              go_wp2_with fail
              refine FR.out.mono ?_
              rintro e w8 ⟨rfl, b8⟩
              have U8 := Lib.hid (US.out w8 b8)
              clear FR US
              go_wp2_with fail
              refine U8.out.mono ?_
              rintro e w9 ⟨a9, c9, rfl, s9, b9⟩
              have b10 := b8.trans (b9.mono b8.size)
              have R9 := Lib.hid (RT.out w9 b10)
              generalize l2'.length = x2 at *
              clear U8 RT s9 b9 b8
              go_wp2_with fail
              refine R9.out.mono ?_
              rintro e w10 ⟨a10, c10, rfl, s10, b11⟩
              have b12 := b10.trans (b11.mono b10.size)
              have cA := Lib.hid (C6.out.after b12)
              have bA := Lib.hid (b6.out.trans (b12.mono b6.out.size))
              generalize l3.length = x3 at *
              have hsum : (((x1 : Int) + 1 + (x2 : Int) + (x3 : Int)) != 6) = false := by rw [bne_eq_false_iff_eq]; have := hl2.out; omega
              clear R9 s10 b10 b11 b12 C6 b6 hl2
              go_wp2
              go_roundw
              case rel => exact ⟨j + 1, S2, G2, hv6, by omega, by go_num, cA, IV2, bA⟩
              case measure => simp [intOf]; omega
            · have l4 : decide (G2.op ≥ 0) = false := decide_eq_false ho
              have hl2 : Hid (x1 + 0 + l2'.length + l3.length = 6) := by
                have := hl.out
                rw [if_neg (by omega)] at this
                exact this
              have y1 : x1 ≤ 6 := by have := hl2.out; omega
              have y2 : l2'.length ≤ 6 := by have := hl2.out; omega
              have y3 : l3.length ≤ 6 := by have := hl2.out; omega
              clear hl opb ho hx1
              go_wp2_with fail
              refine FR.out.mono ?_
              rintro e w8 ⟨rfl, b8⟩
              have U8 := Lib.hid (US.out w8 b8)
              clear FR US
              go_wp2_with fail
              refine U8.out.mono ?_
              rintro e w9 ⟨a9, c9, rfl, s9, b9⟩
              have b10 := b8.trans (b9.mono b8.size)
              have R9 := Lib.hid (RT.out w9 b10)
              generalize l2'.length = x2 at *
              clear U8 RT s9 b9 b8
              go_wp2_with fail
              refine R9.out.mono ?_
              rintro e w10 ⟨a10, c10, rfl, s10, b11⟩
              have b12 := b10.trans (b11.mono b10.size)
              have cA := Lib.hid (C6.out.after b12)
              have bA := Lib.hid (b6.out.trans (b12.mono b6.out.size))
              generalize l3.length = x3 at *
              have hsum : (((x1 : Int) + (x2 : Int) + (x3 : Int)) != 6) = false := by rw [bne_eq_false_iff_eq]; have := hl2.out; omega
              clear R9 s10 b10 b11 b12 C6 b6 hl2
              go_wp2
              go_roundw
              case rel => exact ⟨j + 1, S2, G2, hv6, by omega, by go_num, cA, IV2, bA⟩
              case measure => simp [intOf]; omega
          · have l2 : ¬ (j : Int) < (len : Int) := by omega
            clear IV C1
            go_wp2
            go_ret
            exact ⟨rfl, hb.out⟩

theorem reserve_walk (n : Int) (hn : (Lit.int .u8 n).wf = true) (r : Int) (hr : (Lit.int .u8 r).wf = true) (a : Option Addr) (len c : Nat) (f : Nat → Nat) (w : World) (hkr : KRow w) (hf : Came8 w a len c f) :
    Calls Tryz.prog 4 #[.int .u8 n, .int .u8 r, .slice a len c] w fun e w' => e = .returned (.bool true) ∧ Below w.heap.size w w' := by
  have h1 := wf_u8 hn
  have h2 := wf_u8 hr
  have := reserve_true n.toNat r.toNat (by omega) (by omega) a len c f w hkr hf
  rwa [Int.toNat_of_nonneg h1.1, Int.toNat_of_nonneg h2.1] at this

end Go.Proofs.YtiioccfcdkpblaaGreatDoor
