/-
  Contracts: partsFromBehind; its iterator: it hands out the places that a term is made of, from behind.
-/
import Derived.Test.YtlfgiggeeoegjaaDoorTermFirst
import Derived.Test.YtlfgiggeeoegjaaDoorRangeB
import Derived.Laws.MakeOwn
import Derived.OwnWalkIn
import Derived.TacticsInMore
import Derived.RangeFuncBox
import Derived.RangeFuncLeaves
namespace Go.Proofs.YtlfgiggeeoegjaaDoor
open Go.RowKit
set_option linter.unusedVariables false

/-- What the loop over the parts turns: numbers, and variables that hold such a row. -/
def lzI : TypeId → Bool := fun t => t == 3 || t == 35

set_option maxRecDepth 8000 in
theorem partsFromBehind_any (n : Nat) (a : Option Addr) (c : Nat) (i : Int) (w : World) :
    Calls Tryd.prog 31 #[.slice a n c, .int .i64 i] w fun e w' => e = .returned (.func (.func 37) #[] #[.pointer (some ⟨w.heap.size + 1, 0, none⟩), .pointer (some ⟨w.heap.size, 0, none⟩)]) ∧
      Hid (RowAt w' w.heap.size 22 #[.slice a n c]) ∧ Hid (RowAt w' (w.heap.size + 1) 3 #[.int .i64 i]) ∧ w'.heap.size = w.heap.size + 2 ∧ Below w.heap.size w w' := by
  have b0 := ((Below.refl w.heap.size w).alloc (Nat.le_refl _) (.cells #[.slice a n c] 22)).alloc (by simp) (.cells #[.int .i64 i] 3)
  have r0 := Lib.hid ((RowAt.new w 22 #[.slice a n c]).alloc (.cells #[.int .i64 i] 3))
  have r1 := RowAt.new (w.alloc (.cells #[.slice a n c] 22)) 3 #[.int .i64 i]
  rw [World.size_alloc] at r1
  replace r1 := Lib.hid r1
  go_enter Tryd.func31, Tryd.ntmps31
  go_wp2
  go_ret
  exact ⟨rfl, r0, r1, by simp, b0⟩

/-- Marks in a row. -/
def boolV (f : Nat → Bool) : Nat → Value := fun j => .bool (f j)
theorem row_mark {w : World} {q N j : Nat} {f : Nat → Bool} (h : RowAt w q 4 (rowOf N (boolV f))) : RowAt (w.setCell ⟨q, j, none⟩ (.bool true)) q 4 (rowOf N (boolV (setT f j))) := by
  have h1 := h.set j (.bool true)
  rw [rowOf_set] at h1
  refine h1.congr (rowOf_congr fun k hk => ?_)
  unfold boolV setT
  split <;> rfl

theorem made_bools (m : Nat) : madeCells #[Value.bool false] m = rowOf m (boolV fun _ => false) := by
  apply Array.ext'
  rw [toList_madeCells_one]
  unfold rowOf
  apply List.ext_getElem
  · simp
  · intro j h1 h2
    simp [boolV]
theorem Tryd.infoBool : (Tryd.prog.info? 4).map (fun i => (i.zero, i.size, i.bytes)) = some (some (.bool false), 1, 1) := by kernel_rfl

/-- make([]bool, m). -/
theorem wpList_make_bools {ops : Array Oper} {rest : List Oper} {o : Oper} {a : Act} {w : World} {Q : Exit → Act → World → Prop} (hgd : o.guard = none) (l c : Operand) (ho : o.op = .makeSlice 57 l c) (m : Nat) (z : Int) (hl : a.eval l = .int .i64 z) (hc : a.eval c = .int .i64 z) (hz : z = (m : Int)) (hm : m ≤ 1000000)
    (h : wpList Tryd.prog ops Q rest (a.put o.dst (.slice (some ⟨w.heap.size, 0, none⟩) m m)) (w.alloc (.cells (rowOf m (boolV fun _ => false)) 4))) : wpList Tryd.prog ops Q (o :: rest) a w := by
  subst hz
  obtain ⟨i0, hi, hz0, hz1, hz2⟩ := info_parts Tryd.infoBool
  refine wpList_plain hgd fun _ hK => ?_
  have h1 := run_makeSlice (P := Tryd.prog) w 57 4 i0 (.bool false) Tryd.underlying57 hi hz0 .i64 .i64 (m : Int) (m : Int) (by omega) (by omega) (by rw [hz1]; simp; omega) (by rw [hz2]; omega) (by omega)
  rw [hz1] at h1
  simp only [Int.toNat_natCast, Nat.mul_one, show (Value.bool false).cells = #[Value.bool false] from rfl, made_bools] at h1
  unfold Oper.wp execOp
  simp only [ho, hl, hc, Sem.run_bind, Sem.run_pure, h1, Result.andThen_ok]
  exact hK _ _ h

theorem downL_pre (K : Nds) (i : Nat) : ∀ d t, ∃ r, downL K i (t + d) = downL K i t ++ r
  | 0, t => ⟨[], by simp⟩
  | d + 1, t => by
    obtain ⟨r, hr⟩ := downL_pre K i d t
    refine ⟨r ++ (if partB K i (i - (t + d)) = true then [i - (t + d)] else []), ?_⟩
    show downL K i (t + d) ++ (if partB K i (i - (t + d)) = true then [i - (t + d)] else []) = _
    rw [hr, List.append_assoc]
/-- The place that is handed out behind t steps. -/
theorem downL_at {K : Nds} {i t : Nat} (ht : t ≤ i) (hp : partB K i (i - t) = true) : (downL K i t).length < (downL K i (i + 1)).length ∧ (downL K i (i + 1)).getD (downL K i t).length 0 = i - t ∧ (downL K i (t + 1)).length = (downL K i t).length + 1 := by
  have h1 : downL K i (t + 1) = downL K i t ++ [i - t] := by
    show downL K i t ++ _ = _
    rw [if_pos hp]
  obtain ⟨r, hr⟩ := downL_pre K i (i - t) (t + 1)
  rw [show t + 1 + (i - t) = i + 1 by omega] at hr
  rw [hr, h1]
  refine ⟨by simp, ?_, by simp⟩
  simp [List.getD_eq_getElem?_getD]
theorem downL_none {K : Nds} {i t : Nat} (hp : partB K i (i - t) = false) : downL K i (t + 1) = downL K i t := by
  show downL K i t ++ _ = _
  rw [hp]
  simp

/-- What the iterator has behind t steps. -/
structure ItP (K : Nds) (n i s q m b : Nat) (a : Option Addr) (c t : Nat) (w : World) : Prop where
  mark : RowAt w q 4 (rowOf (i + 1) (boolV (marks K i t)))
  cap : RowAt w s 22 #[.slice a n c]
  sees : SeesN w a n K
  hq : m ≤ q
  hs : s < m

section
variable {K : Nds} {n i s q m b : Nat} {a : Option Addr} {c t : Nat} {A B : World}
theorem ItP.outer (h : ItP K n i s q m b a c t A) (o : OuterB lzI b A B) (hab : ∀ ad, a = some ad → ad.block < b) : ItP K n i s q m b a c t B :=
  ⟨o.row h.mark rfl, o.row h.cap rfl, h.sees.kept fun ad e hl => ⟨Nat.lt_of_lt_of_le hl o.size, by rw [Array.getElem?_eq_getElem hl]; exact o.block _ _ (Array.getElem?_eq_getElem hl) (.inl (hab ad e))⟩, h.hq, h.hs⟩
theorem ItP.after (h : ItP K n i s q m b a c t A) (hb : Below A.heap.size A B) : ItP K n i s q m b a c t B :=
  ⟨h.mark.below hb h.mark.lt, h.cap.below hb h.cap.lt, h.sees.after hb, h.hq, h.hs⟩
/-- Another mark. -/
theorem ItP.apart (h : ItP K n i s q m b a c t A) {f : Nat → Bool} {t' : Nat} (ha : Apart q A B) (hr : RowAt B q 4 (rowOf (i + 1) (boolV f))) (hf : ∀ j, j ≤ i → f j = marks K i t' j) (hab : ∀ ad, a = some ad → ad.block < m) : ItP K n i s q m b a c t' B ∧ InnerB lzI m A B := by
  have hi : InnerB lzI m A B := InnerB.of_apart ha h.hq h.mark rfl
  have hsq : s ≠ q := by have := h.hq; have := h.hs; omega
  refine ⟨⟨hr.congr (rowOf_congr fun j hj => by unfold boolV; rw [hf j (by omega)]), ha.row h.cap hsq, h.sees.kept fun ad e hl => ⟨Nat.lt_of_lt_of_le hl ha.size, ?_⟩, h.hq, h.hs⟩, hi⟩
  rw [Array.getElem?_eq_getElem hl]
  exact hi.block _ _ (Array.getElem?_eq_getElem hl) (.inl (hab ad e))
end

theorem wp_at_yield6 {P : Program} {ops : Array Oper} {Q : Exit → Act → World → Prop} {a : Act} {w : World} (h : (Code.region 6 ops false).wpIn Fence.wide 1 P Q a w) : (Code.region 6 ops false).wp P Q a w := wpIn_wide.1 h

set_option maxHeartbeats 4000000 in
set_option maxRecDepth 8000 in
theorem parts_seq (K : Nds) (n : Nat) (hn : n ≤ 200) (hK : Hid (Wf K n)) (i : Nat) (hi : i < n) (a : Option Addr) (c : Nat) (s b : Nat) (w0 : World) (hs : s + 1 < w0.heap.size) (hbw : b ≤ w0.heap.size)
    (r1 : Hid (RowAt w0 s 22 #[.slice a n c])) (r2 : Hid (RowAt w0 (s + 1) 3 #[.int .i64 (i : Int)])) (sn : Hid (SeesN w0 a n K)) (hab : Hid (∀ ad, a = some ad → ad.block < b)) :
    SeqB lzI b Tryd.prog 37 #[.pointer (some ⟨s + 1, 0, none⟩), .pointer (some ⟨s, 0, none⟩)] (downL K i (i + 1)).length (fun k => #[.int .i64 (((downL K i (i + 1)).getD k 0 : Nat) : Int)]) w0 := by
  intro l J W hW hsz hJ hY h0
  have HY := Lib.hid hY
  have HJ := Lib.hid hJ
  have H0 := Lib.hid h0
  have bW := hW.below (Nat.le_refl _)
  have r1W := Lib.hid (r1.out.below bW (by omega))
  have r2W := Lib.hid (r2.out.below bW (by omega))
  have snW := Lib.hid (sn.out.after bW)
  have habW : Hid (∀ ad, a = some ad → ad.block < W.heap.size) := fun ad e => by have := hab.out ad e; omega
  clear hY hJ h0 hW bW r1 r2 sn
  show Calls _ _ #[.func (.yield l) #[] #[], .pointer (some ⟨s + 1, 0, none⟩), .pointer (some ⟨s, 0, none⟩)] W _
  have al : Below W.heap.size W (W.alloc (.cells (rowOf (i + 1) (boolV fun _ => false)) 4)) := (Below.refl _ _).alloc (Nat.le_refl _) _
  have ci := cell_of_row W (s + 1) 0 _ _ (0, 0) r2W.out
  have m0 := Lib.hid (RowAt.new W 4 (rowOf (i + 1) (boolV fun _ => false)))
  have ci1 := cell_of_row _ (s + 1) 0 _ _ (0, 0) (r2W.out.below al r2W.out.lt)
  go_enter Tryd.func37, Tryd.ntmps37
  go_wp2_with (refine wpList_make_bools rfl _ _ rfl (i + 1) _ rfl rfl (by omega) (by omega) (Hid.out ?_))
  unfold Hid
  have j1 := Lib.hid (HJ.out 0 _ _ H0.out (InnerB.of_below al))
  have cap1 := Lib.hid (r1W.out.below al r1W.out.lt)
  have sn1 := Lib.hid (snW.out.after al)
  have r21 := Lib.hid (r2W.out.below al r2W.out.lt)
  clear ci H0 r1W snW r2W
  obtain ⟨m, hm⟩ : ∃ m, m = W.heap.size := ⟨_, rfl⟩
  rw [← hm] at m0 habW ⊢
  rw [← hm] at HJ
  have hsm : s + 1 < m := by omega
  clear hsz al hm
  generalize W.alloc _ = w1 at *
  have cm := m0.out.cell i (by omega)
  have fm := m0.out.free i
  have ap1 : Apart m w1 (w1.setCell ⟨m, i, none⟩ (.bool true)) := (Apart.refl m w1).setCell m0.out _
  have rm1 := row_mark (j := i) m0.out
  have I1 : Hid (ItP K n i s m m b a c 0 (w1.setCell ⟨m, i, none⟩ (.bool true))) := by
    have hsq : s ≠ m := by omega
    refine ⟨rm1, ap1.row cap1.out hsq, sn1.out.kept fun ad e hl => ⟨Nat.lt_of_lt_of_le hl ap1.size, ?_⟩, Nat.le_refl _, by omega⟩
    have hlm := habW.out ad e
    have h1 := (ap1 #[]).block ad.block hl
    rwa [setRow_other _ _ _ _ (by omega), setRow_other _ _ _ _ (by omega)] at h1
  have J1 : Hid (J 0 (w1.setCell ⟨m, i, none⟩ (.bool true))) := HJ.out 0 _ _ j1.out (InnerB.of_apart ap1 (Nat.le_refl _) m0.out rfl)
  have ci2 : (w1.setCell ⟨m, i, none⟩ (.bool true)).cell? ⟨s + 1, 0, none⟩ = some (.int .i64 (i : Int)) := by
    have := cell_of_row _ (s + 1) 0 _ _ (0, 0) (ap1.row r21.out (by omega))
    simpa using this
  replace ap1 := Lib.hid ap1
  clear rm1 j1 cap1 sn1 m0 r21
  unfold boolV at cm
  go_wp2
  generalize w1.setCell ⟨m, i, none⟩ (.bool true) = w2 at *
  clear ci1 cm fm ci2 ap1
  go_loopw [5] (fun v wr => ∃ t : Nat, t ≤ i + 1 ∧ v = .int .i64 ((i : Int) - (t : Int)) ∧ Hid (J (downL K i t).length wr) ∧ Hid (ItP K n i s m m b a c t wr)) (fun v _ => ((intOf v) + 1).toNat)
  case atStart => exact ⟨0, Nat.zero_le _, by simp, J1, I1⟩
  case round =>
    clear J1 I1
    obtain ⟨t, ht, rfl, hj, hI⟩ := hrel
    by_cases hti : t ≤ i
    · obtain ⟨x, hx⟩ : ∃ x, x = i - t := ⟨_, rfl⟩
      have ex : (i : Int) - (t : Int) = (x : Int) := by omega
      rw [ex]
      have ex2 : (i : Int) - ((t + 1 : Nat) : Int) = (x : Int) - 1 := by omega
      have hxi : x ≤ i := by omega
      have hxn : x < n := by omega
      have lx0 : (0 : Int) ≤ (x : Int) := by omega
      have lx1 : (x : Int) < (i : Int) + 1 := by omega
      have hpt := part_at hK.out hi hti
      rw [← hx] at hpt
      have cm := hI.out.mark.cell x (by omega)
      unfold boolV at cm
      have hstep : Hid (marks K i (t + 1) = stepM K (marks K i t) x) := by
        show stepM K (marks K i t) (i - t) = _
        rw [← hx]
      cases hr : marks K i t x
      · rw [hr] at hpt cm
        have em : Hid (marks K i (t + 1) = marks K i t) := by
          unfold Hid
          rw [hstep.out]
          unfold stepM
          rw [if_neg (by rw [hr]; simp)]
        have ed : Hid (downL K i (t + 1) = downL K i t) := downL_none (by rw [← hx]; exact hpt)
        have hj2 : Hid (J (downL K i (t + 1)).length wr) := by unfold Hid; rw [ed.out]; exact hj.out
        have hI2 : Hid (ItP K n i s m m b a c (t + 1) wr) := ⟨by rw [em.out]; exact hI.out.mark, hI.out.cap, hI.out.sees, hI.out.hq, hI.out.hs⟩
        replace ex := Lib.hid ex
        replace ex2 := Lib.hid ex2
        replace hx := Lib.hid hx
        clear hr hpt em ed hj hI hstep
        go_wp2
        go_roundw
        case rel => exact ⟨t + 1, by omega, by rw [ex2.out], hj2, hI2⟩
        case measure => simp [intOf]
      · rw [hr] at hpt cm
        obtain ⟨dk, dg, dn⟩ := downL_at hti (by rw [← hx]; exact hpt)
        rw [← hx] at dg
        have Y := HY.out _ wr hj.out dk
        rw [dg] at Y
        obtain ⟨fn, tm, asg, bd, hy, hR⟩ := Y
        have hR' := Lib.hid hR
        have hr' := Lib.hid hr
        have dn' := Lib.hid dn
        replace ex := Lib.hid ex
        replace ex2 := Lib.hid ex2
        replace hx := Lib.hid hx
        clear hR hr hpt dk dg dn hj
        repeat (first | (with_reducible refine wp_at_yield6 ?_) | go_values | go_skip | go_guarded | go_step | go_upon | go_back)
        gi_wp2
        refine hR'.out.mono ?_
        rintro e w4 ⟨rfl, j4, o4⟩
        have I4 := Lib.hid (hI.out.outer o4 hab.out)
        rw [← dn'.out] at j4
        replace j4 := Lib.hid j4
        clear hR' hy cm hI o4
        gi_wp2
        have cs := cell_of_row w4 s 0 _ _ (0, 0) I4.out.cap
        have s4 := Lib.hid I4.out.sees
        rcases hK.out.kinds hxn with ⟨h0, ⟨y, hy, e1⟩, e2⟩ | ⟨h0, y, z, hy, hz, e1, e2⟩
        · have em := made_leaf h0
          have es : Hid (marks K i (t + 1) = marks K i t) := by
            unfold Hid
            rw [hstep.out]
            unfold stepM
            rw [if_neg (by rw [em]; simp)]
          have b5 : Below w4.heap.size w4 (w4.alloc (.cells #[.int .i64 (K x 0), .int .i64 (y : Int), .int .i64 0] 41)) := (Below.refl _ _).alloc (Nat.le_refl _) _
          have r5 := Lib.hid (RowAt.new w4 41 #[.int .i64 (K x 0), .int .i64 (y : Int), .int .i64 0])
          have M := isMade_any (K x 0) (y : Int) 0 (w4.alloc (.cells #[.int .i64 (K x 0), .int .i64 (y : Int), .int .i64 0] 41))
          rw [em] at M
          replace M := Lib.hid M
          go_wp2_with (first | (refine wpList_known rfl (at_nodes s4.out hxn rfl rfl rfl rfl _) ?_) | (refine wpList_known rfl (get_node s4.out hxn rfl rfl) ?_))
          refine M.out.mono ?_
          rintro e w6 ⟨rfl, hb6⟩
          have b6 := b5.trans (hb6.mono b5.size)
          have r6 := Lib.hid (r5.out.below hb6 r5.out.lt)
          have I6 := Lib.hid (I4.out.after b6)
          have j6 := Lib.hid (HJ.out _ _ _ j4.out (InnerB.of_below b6))
          have hpm : w4.heap.size ≠ m := fun e => by
            have := I4.out.mark.lt
            omega
          clear M hb6 b5 r5 b6 I4 j4 s4 cs
          generalize w4.heap.size = p at *
          have I7 : Hid (ItP K n i s m m b a c (t + 1) w6) := ⟨by rw [es.out]; exact I6.out.mark, I6.out.cap, I6.out.sees, I6.out.hq, I6.out.hs⟩
          go_wp2
          go_roundw
          case rel => exact ⟨t + 1, by omega, by rw [ex2.out], j6, I7⟩
          case measure => simp [intOf]
        · have em := made_yes h0
          have es : Hid (marks K i (t + 1) = setT (setT (marks K i t) y) z) := by
            unfold Hid
            rw [hstep.out]
            unfold stepM
            rw [if_pos ⟨hr'.out, em⟩, e1, e2, Int.toNat_natCast, Int.toNat_natCast]
          have b5 : Below w4.heap.size w4 (w4.alloc (.cells #[.int .i64 (K x 0), .int .i64 (y : Int), .int .i64 (z : Int)] 41)) := (Below.refl _ _).alloc (Nat.le_refl _) _
          have r5 := Lib.hid (RowAt.new w4 41 #[.int .i64 (K x 0), .int .i64 (y : Int), .int .i64 (z : Int)])
          have M := isMade_any (K x 0) (y : Int) (z : Int) (w4.alloc (.cells #[.int .i64 (K x 0), .int .i64 (y : Int), .int .i64 (z : Int)] 41))
          rw [em] at M
          replace M := Lib.hid M
          go_wp2_with (first | (refine wpList_known rfl (at_nodes s4.out hxn rfl rfl rfl rfl _) ?_) | (refine wpList_known rfl (get_node s4.out hxn rfl rfl) ?_))
          refine M.out.mono ?_
          rintro e w6 ⟨rfl, hb6⟩
          have b6 := b5.trans (hb6.mono b5.size)
          have r6 := Lib.hid (r5.out.below hb6 r5.out.lt)
          have I6 := Lib.hid (I4.out.after b6)
          have j6 := Lib.hid (HJ.out _ _ _ j4.out (InnerB.of_below b6))
          have hpm : w4.heap.size ≠ m := fun e => by
            have := I4.out.mark.lt
            omega
          clear M hb6 b5 r5 b6 I4 j4 s4 cs
          generalize w4.heap.size = p at *
          have ly1 : (y : Int) < (i : Int) + 1 := by omega
          have lz1 : (z : Int) < (i : Int) + 1 := by omega
          have c1 := cell_of_row w6 p 1 _ _ (0, 0) r6.out
          have c2 := cell_of_row w6 p 2 _ _ (0, 0) r6.out
          have my := I6.out.mark.cell y (by omega)
          have mz := I6.out.mark.cell z (by omega)
          unfold boolV at my mz
          have fy := I6.out.mark.free y
          have fz := I6.out.mark.free z
          have my2 := (row_mark (j := y) I6.out.mark).cell z (by omega)
          unfold boolV at my2
          have fz2 := (row_mark (j := y) I6.out.mark).free z
          have rz := row_mark (j := z) (row_mark (j := y) I6.out.mark)
          have ap : Apart m w6 (((w6.setCell ⟨m, y, none⟩ (.bool true)).setCell ⟨m, z, none⟩ (.bool true)).drew) := (((Apart.refl m w6).setCell I6.out.mark _).setCell (row_mark (j := y) I6.out.mark) _).drew
          have A7 := I6.out.apart (t' := t + 1) ap rz (fun j _ => by rw [es.out]) habW.out
          have I7 := Lib.hid A7.1
          have j7 := Lib.hid (HJ.out _ _ _ j6.out A7.2)
          replace ap := Lib.hid ap
          clear A7 rz I6 j6 r6
          go_wp2_with fail
          go_big_region
          clear ap c1 c2 my mz fy fz my2 fz2
          generalize World.drew _ = w7 at *
          go_wp2
          go_roundw
          case rel => exact ⟨t + 1, by omega, by rw [ex2.out], j7, I7⟩
          case measure => simp [intOf]
    · have ex : (i : Int) - (t : Int) = -1 := by omega
      have et : t = i + 1 := by omega
      subst et
      rw [ex]
      clear ex
      go_wp2
      go_end0
      exact ⟨⟨_, rfl⟩, hj.out⟩

end Go.Proofs.YtlfgiggeeoegjaaDoor
