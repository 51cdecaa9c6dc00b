/-
  Contract: the document's Lock.
-/
import Derived.Test.YtmbkjbkbnigcfaaAesRefRounds
import Derived.Test.YtmbkjbkbnigcfaaRelyTail
namespace Go.Proofs.Ytmbkjbkbnigcfaa
open Go.RowKit

theorem aMix_at (t : Nat → Nat) (c r y y1 y2 y3 : Nat) (hr : r < 4) (h : y = 4 * c + r) (h1 : y1 = 4 * c + (r + 1) % 4) (h2 : y2 = 4 * c + (r + 2) % 4) (h3 : y3 = 4 * c + (r + 3) % 4) :
    timesN (t y) 2 ^^^ timesN (t y1) 3 ^^^ t y2 ^^^ t y3 = aMix t y := by
  unfold aMix colN
  rw [show 4 * (y / 4) + (y % 4 + 1) % 4 = y1 by omega, show 4 * (y / 4) + (y % 4 + 2) % 4 = y2 by omega, show 4 * (y / 4) + (y % 4 + 3) % 4 = y3 by omega]
theorem aShift_at (s : Nat → Nat) (c r y z : Nat) (hr : r < 4) (h : y = 4 * c + r) (hz : z = 4 * ((c + r) % 4) + r) : boxN (s z) = aShift (aSub s) y := by
  unfold aShift aSub
  rw [show 4 * ((y / 4 + y % 4) % 4) + y % 4 = z by omega]

/-- While the document's Lock goes on: room for the answer (two above the key), the boxes at x, the round keys at l, the block s at q; the rest as it was. -/
structure RlI (w : World) (x l q : Nat) (key s : Nat → Nat) (w' : World) : Prop where
  room : RowAt w' (w.heap.size + 1 + 1) 23 (rowOf 16 (w8 zeroN))
  box : RowAt w' x 47 (rowOf 256 (w8 boxN))
  rks : RowAt w' l 49 (rowOf 176 (w8 (ringN key)))
  blk : RowAt w' q 23 (rowOf 16 (w8 s))
  rest : Below w.heap.size w w'
  hx : w.heap.size + 1 + 1 < x
  hl : w.heap.size + 1 + 1 < l
  hq : w.heap.size + 1 + 1 < q
  hxq : x ≠ q
  hlq : l ≠ q

section
variable {w w1 w2 : World} {x l q : Nat} {key s : Nat → Nat}
theorem RlI.after (hb : Below w1.heap.size w1 w2) (h : RlI w x l q key s w1) : RlI w x l q key s w2 :=
  ⟨h.room.below hb h.room.lt, h.box.below hb h.box.lt, h.rks.below hb h.rks.lt, h.blk.below hb h.blk.lt, h.rest.trans (hb.mono h.rest.size), h.hx, h.hl, h.hq, h.hxq, h.hlq⟩
/-- What lies above all of it may turn. -/
theorem RlI.over {B : Nat} (hb : Below B w1 w2) (h : RlI w x l q key s w1) (h1 : x < B) (h2 : l < B) (h3 : q < B) : RlI w x l q key s w2 := by
  have := h.hx
  exact ⟨h.room.below hb (by omega), h.box.below hb h1, h.rks.below hb h2, h.blk.below hb h3, h.rest.trans (hb.mono (by omega)), h.hx, h.hl, h.hq, h.hxq, h.hlq⟩
theorem RlI.store (h : RlI w x l q key s w1) (t : Nat → Nat) : RlI w x l q key t (w1.setRow q (rowOf 16 (w8 t))) := by
  have := h.hq
  exact ⟨h.room.setRowOther q _ (by omega), h.box.setRowOther q _ h.hxq, h.rks.setRowOther q _ h.hlq, h.blk.setRow _, below_setRow' h.rest (by omega) _, h.hx, h.hl, h.hq, h.hxq, h.hlq⟩
end

/-- A second block, t, above all of it. -/
structure R2I (w : World) (x l q v : Nat) (key s t : Nat → Nat) (w' : World) : Prop where
  rl : RlI w x l q key s w'
  out : RowAt w' v 23 (rowOf 16 (w8 t))
  hv1 : x < v
  hv2 : l < v
  hv3 : q < v

section
variable {w w1 w2 : World} {x l q v : Nat} {key s t : Nat → Nat}
theorem R2I.after (hb : Below w1.heap.size w1 w2) (h : R2I w x l q v key s t w1) : R2I w x l q v key s t w2 := ⟨h.rl.after hb, h.out.below hb h.out.lt, h.hv1, h.hv2, h.hv3⟩
theorem R2I.drew (h : R2I w x l q v key s t w1) : R2I w x l q v key s t w1.drew := h.after (Below.refl _ _).drew
theorem R2I.over (hb : Below (v + 1) w1 w2) (h : R2I w x l q v key s t w1) : R2I w x l q v key s t w2 := by
  have := h.hv1
  have := h.hv2
  have := h.hv3
  exact ⟨h.rl.over hb (by omega) (by omega) (by omega), h.out.below hb (by omega), h.hv1, h.hv2, h.hv3⟩
theorem R2I.store (h : R2I w x l q v key s t w1) (u : Nat → Nat) : R2I w x l q v key s u (w1.setRow v (rowOf 16 (w8 u))) :=
  ⟨h.rl.over (below_setRow' (Below.refl v _) (Nat.le_refl _) _) h.hv1 h.hv2 h.hv3, h.out.setRow _, h.hv1, h.hv2, h.hv3⟩
theorem R2I.cell {y : Nat} {f g : Nat → Nat} (h : R2I w x l q v key s (part f g y) w1) : R2I w x l q v key s (part f g (y + 1)) (w1.setCell ⟨v, y, none⟩ (.int .u8 ((f y : Nat) : Int))) :=
  ⟨h.rl.over ((Below.refl v _).setCell (Nat.le_refl _) _) h.hv1 h.hv2 h.hv3, (h.out.set y _).congr (u8_row 16 f g y), h.hv1, h.hv2, h.hv3⟩
theorem R2I.congr {u : Nat → Nat} (h : R2I w x l q v key s t w1) (e : ∀ j, j < 16 → t j = u j) : R2I w x l q v key s u w1 :=
  ⟨h.rl, h.out.congr (rowOf_congr fun j hj => by unfold w8; rw [e j hj]), h.hv1, h.hv2, h.hv3⟩
end

theorem R2I.start {w w1 : World} {x l q : Nat} {key s : Nat → Nat} (h : RlI w x l q key s w1) : R2I w x l q w1.heap.size key s zeroN ((w1.alloc (.cells (rowOf 16 (w8 zeroN)) 23)).setRow w1.heap.size (rowOf 16 (w8 zeroN))) :=
  ⟨h.after (below_setRow' ((Below.refl _ _).alloc (Nat.le_refl _) _) (Nat.le_refl _) _), (RowAt.new w1 23 (rowOf 16 (w8 zeroN))).setRow _, h.box.lt, h.rks.lt, h.blk.lt⟩

theorem zero16 : (Try.prog.info? 23).map (fun i => (i.zero, i.size)) = some (some (.agg (rowOf 16 (w8 zeroN))), 16) := by kernel_rfl
theorem ring_get (key : Nat → Nat) (i : Nat) (hi : i < 11) : ∀ j, j < 16 → (rowOf 176 (w8 (ringN key)))[i * 16 + j]? = some (w8 (rkN key i) j) := fun j hj => by
  rw [rowOf_get _ _ _ (by omega)]
  unfold w8
  rw [ring_at2 key i j hj]

set_option maxHeartbeats 8000000 in
set_option maxRecDepth 8000 in
theorem refLock_any (key b : Nat → Nat) (hk : Hid (Byt key)) (hb : Hid (Byt b)) (w : World) :
    Calls Try.prog 15 #[.agg (rowOf 16 (w8 key)), .agg (rowOf 16 (w8 b))] w fun e w' => e = .returned (.agg (rowOf 16 (w8 (lockN key b)))) ∧ Below w.heap.size w w' := by
  have zv := (zero_of_info zero176).1
  have zv2 := (zero_of_info zero256).1
  have zv3 := (zero_of_info zero16).1
  have hw1 := Lib.hid (allocs_row [.cells (rowOf 16 (w8 key)) 23, .cells (rowOf 16 (w8 b)) 23, .cells (rowOf 16 (w8 zeroN)) 23] w)
  have r0 : Hid (RowAt (((w.alloc (.cells (rowOf 16 (w8 key)) 23)).alloc (.cells (rowOf 16 (w8 b)) 23)).alloc (.cells (rowOf 16 (w8 zeroN)) 23)) w.heap.size 23 (rowOf 16 (w8 key))) := hw1.out 0 _ _ rfl
  have r1 : Hid (RowAt (((w.alloc (.cells (rowOf 16 (w8 key)) 23)).alloc (.cells (rowOf 16 (w8 b)) 23)).alloc (.cells (rowOf 16 (w8 zeroN)) 23)) (w.heap.size + 1) 23 (rowOf 16 (w8 b))) := hw1.out 1 _ _ rfl
  have r2 : Hid (RowAt (((w.alloc (.cells (rowOf 16 (w8 key)) 23)).alloc (.cells (rowOf 16 (w8 b)) 23)).alloc (.cells (rowOf 16 (w8 zeroN)) 23)) (w.heap.size + 1 + 1) 23 (rowOf 16 (w8 zeroN))) := hw1.out 2 _ _ rfl
  have b0 : Below w.heap.size w (((w.alloc (.cells (rowOf 16 (w8 key)) 23)).alloc (.cells (rowOf 16 (w8 b)) 23)).alloc (.cells (rowOf 16 (w8 zeroN)) 23)) := allocs_below [.cells (rowOf 16 (w8 key)) 23, .cells (rowOf 16 (w8 b)) 23, .cells (rowOf 16 (w8 zeroN)) 23] w
  clear hw1
  go_enter Try.func15, Try.ntmps15
  go_wp2_with fail
  generalize (((w.alloc (.cells (rowOf 16 (w8 key)) 23)).alloc (.cells (rowOf 16 (w8 b)) 23)).alloc (.cells (rowOf 16 (w8 zeroN)) 23)) = w1 at *
  refine (refBoxes_any w1).mono ?_
  rintro e w2 ⟨rfl, hb2⟩
  replace r0 := Lib.hid (r0.out.below hb2 r0.out.lt)
  replace r1 := Lib.hid (r1.out.below hb2 r1.out.lt)
  replace r2 := Lib.hid (r2.out.below hb2 r2.out.lt)
  replace b0 := b0.trans (hb2.mono b0.size)
  clear hb2
  have r3 := Lib.hid (RowAt.new w2 47 (rowOf 256 (w8 zeroN)))
  have q3 := Lib.hid (r3.out.setRow (rowOf 256 (w8 boxN)))
  have hb3 : Below w2.heap.size w2 ((w2.alloc (.cells (rowOf 256 (w8 zeroN)) 47)).setRow w2.heap.size (rowOf 256 (w8 boxN))) := below_setRow' ((Below.refl _ _).alloc (Nat.le_refl _) _) (Nat.le_refl _) _
  have l2 := r2.out.lt
  replace r0 := Lib.hid (r0.out.below hb3 r0.out.lt)
  replace r1 := Lib.hid (r1.out.below hb3 r1.out.lt)
  replace r2 := Lib.hid (r2.out.below hb3 r2.out.lt)
  replace b0 := b0.trans (hb3.mono b0.size)
  clear hb3
  go_wp2_with (first | (refine wpList_store_row rfl 47 _ _ rfl w2.heap.size (rowOf 256 (w8 boxN)) rfl rfl 47 _ r3.out (info_256 _) (by rw [rowOf_size, rowOf_size]) (rowOf_cells8 _ _) ?_) | (refine wpList_load_row rfl 47 _ rfl w2.heap.size rfl 47 _ (0, 0) _ q3.out Try.underlying47 rfl (info_256 _) ?_) | (refine wpList_load_row rfl 23 _ rfl w.heap.size rfl 23 _ (0, 0) _ r0.out Try.underlying23 rfl (info_key _) ?_))
  clear r3
  generalize World.setRow _ _ _ = w3 at *
  generalize w2.heap.size = x at *
  refine (refRounds_any key hk w3).mono ?_
  rintro e w4 ⟨rfl, hb4⟩
  have l3 := q3.out.lt
  replace r1 := Lib.hid (r1.out.below hb4 r1.out.lt)
  replace r2 := Lib.hid (r2.out.below hb4 r2.out.lt)
  replace q3 := Lib.hid (q3.out.below hb4 q3.out.lt)
  replace b0 := b0.trans (hb4.mono b0.size)
  have l4 := hb4.size
  clear hb4 r0
  have r4 := Lib.hid (RowAt.new w4 49 (rowOf 176 (w8 zeroN)))
  have q4 := Lib.hid (r4.out.setRow (rowOf 176 (w8 (ringN key))))
  have hb5 : Below w4.heap.size w4 ((w4.alloc (.cells (rowOf 176 (w8 zeroN)) 49)).setRow w4.heap.size (rowOf 176 (w8 (ringN key)))) := below_setRow' ((Below.refl _ _).alloc (Nat.le_refl _) _) (Nat.le_refl _) _
  replace r1 := Lib.hid (r1.out.below hb5 r1.out.lt)
  replace r2 := Lib.hid (r2.out.below hb5 r2.out.lt)
  replace q3 := Lib.hid (q3.out.below hb5 q3.out.lt)
  replace b0 := b0.trans (hb5.mono b0.size)
  clear hb5
  have g0 : Hid (∀ j, j < 16 → (rowOf 176 (w8 (ringN key)))[0 + j]? = some (w8 (rkN key 0) j)) := fun j hj => by
    rw [rowOf_get _ _ _ (by omega)]
    unfold w8
    rw [show ringN key (0 + j) = rkN key 0 j by have := ring_at2 key 0 j hj; rwa [Nat.zero_mul] at this]
  go_wp2_with (first | (refine wpList_store_row rfl 49 _ _ rfl w4.heap.size (rowOf 176 (w8 (ringN key))) rfl rfl 49 _ r4.out (info_176 _) (by rw [rowOf_size, rowOf_size]) (rowOf_cells8 _ _) ?_) | (refine wpList_load_row rfl 23 _ rfl (w.heap.size + 1) rfl 23 _ (0, 0) _ r1.out Try.underlying23 rfl (info_key _) ?_) | (refine wpList_load_at rfl 23 _ rfl w4.heap.size 0 rfl 49 _ _ 16 (w8 (rkN key 0)) q4.out g0.out Try.underlying23 rfl (by kernel_rfl) ?_))
  clear r4 g0 zv zv2
  generalize World.setRow _ _ _ = w5 at *
  have lxl : x < w4.heap.size := by omega
  generalize w4.heap.size = l at *
  refine (refXor_keys b (rkN key 0) hb (Lib.hid (rk_byt hk.out 0)) w5).mono ?_
  rintro e w6 ⟨rfl, hb6⟩
  have l5 := q4.out.lt
  have l6 := hb6.size
  replace r2 := Lib.hid (r2.out.below hb6 r2.out.lt)
  replace q3 := Lib.hid (q3.out.below hb6 q3.out.lt)
  replace q4 := Lib.hid (q4.out.below hb6 q4.out.lt)
  replace b0 := b0.trans (hb6.mono b0.size)
  clear hb6 r1
  have r7 := Lib.hid (RowAt.new w6 23 (rowOf 16 (w8 zeroN)))
  have hb7 : Below w6.heap.size w6 ((w6.alloc (.cells (rowOf 16 (w8 zeroN)) 23)).setRow w6.heap.size (rowOf 16 (w8 (aAdd b (rkN key 0))))) := below_setRow' ((Below.refl _ _).alloc (Nat.le_refl _) _) (Nat.le_refl _) _
  have hI : Hid (RlI w x l w6.heap.size key (aAdd b (rkN key 0)) ((w6.alloc (.cells (rowOf 16 (w8 zeroN)) 23)).setRow w6.heap.size (rowOf 16 (w8 (aAdd b (rkN key 0)))))) :=
    ⟨r2.out.below hb7 r2.out.lt, q3.out.below hb7 q3.out.lt, q4.out.below hb7 q4.out.lt, r7.out.setRow _, b0.trans (hb7.mono b0.size), by omega, by omega, by omega, by omega, by omega⟩
  clear hb7 r2 q3 q4 b0
  go_wp2_with (refine wpList_store_row rfl 23 _ _ rfl w6.heap.size (rowOf 16 (w8 (aAdd b (rkN key 0)))) rfl rfl 23 _ r7.out (info_key _) (by rw [rowOf_size, rowOf_size]) (rowOf_cells8 _ _) ?_)
  clear r7
  generalize World.setRow _ _ _ = w7 at *
  generalize w6.heap.size = q at *
  clear l2 l3 l4 l5 l6 lxl
  go_loopw [8] (fun y wr => ∃ k i : Nat, i = k + 1 ∧ k ≤ 10 ∧ y = .int .i64 i ∧ Hid (RlI w x l q key (lockTo key b k) wr))
    (fun y _ => 11 - (intOf y).toNat)
  case atStart => exact ⟨0, 1, rfl, by omega, rfl, hI⟩
  case round =>
    clear hI
    obtain ⟨k, i, hi, hk10, rfl, hI⟩ := hrel
    by_cases hlt : k < 10
    · have BS := Lib.hid (lockTo_byt hk.out hb.out k)
      have BK := Lib.hid (rk_byt hk.out i)
      have L1 : Hid (lockTo key b i = roundS (lockTo key b k) (rkN key i) (decide (i = 10))) := by unfold Hid; rw [hi]; rfl
      generalize lockTo key b k = s at *
      have i10 : i ≤ 10 := by omega
      have li : (i : Int) < 11 := by omega
      have hi1 : 1 ≤ i := by omega
      have d0 : decide ((i : Int) < 11) = true := decide_eq_true (by omega)
      clear hi hk10 hlt
      have r8 := Lib.hid (RowAt.new wr 23 (rowOf 16 (w8 zeroN)))
      have hJ := Lib.hid (R2I.start hI.out)
      clear hI
      go_wp2_with (first | (refine wpList_buildTo rfl 23 _ rfl _ rfl (rowOf 16 (w8 zeroN)) (by kernel_rfl) ?_) | (refine wpList_store_row rfl 23 _ _ rfl wr.heap.size (rowOf 16 (w8 zeroN)) rfl rfl 23 _ r8.out (info_key _) (by rw [rowOf_size]) (rowOf_cells8 _ _) ?_))
      clear r8
      generalize World.setRow _ _ _ = w8' at *
      generalize wr.heap.size = v at *
      go_loopw [10] (fun y wr' => ∃ c : Nat, c ≤ 4 ∧ y = .int .i64 c ∧ Hid (R2I w x l q v key s (part (aShift (aSub s)) zeroN (4 * c)) wr'))
        (fun y _ => 4 - (intOf y).toNat)
      case atStart => exact ⟨0, by omega, rfl, by rw [Nat.mul_zero, part_zero]; exact hJ⟩
      case round =>
        clear hJ
        obtain ⟨c, hc, rfl, hJ⟩ := hrel
        by_cases hlc : c < 4
        · go_wp2
          go_loopw [11] (fun y wr'' => ∃ r : Nat, r ≤ 4 ∧ y = .int .i64 r ∧ Hid (R2I w x l q v key s (part (aShift (aSub s)) zeroN (4 * c + r)) wr''))
            (fun y _ => 4 - (intOf y).toNat)
          case atStart => exact ⟨0, by omega, rfl, hJ⟩
          case round =>
            clear hJ
            obtain ⟨r, hr, rfl, hJ⟩ := hrel
            by_cases hlr : r < 4
            · obtain ⟨y, hy⟩ : ∃ y, y = 4 * c + r := ⟨_, rfl⟩
              obtain ⟨z, hz⟩ : ∃ z, z = 4 * ((c + r) % 4) + r := ⟨_, rfl⟩
              have ey : (4 : Int) * (c : Int) + (r : Int) = (y : Int) := by omega
              have ez : (4 : Int) * (((c : Int) + (r : Int)) % 4) + (r : Int) = (z : Int) := by omega
              have ly : y < 16 := by omega
              have lz : z < 16 := by omega
              have N := Lib.hid (aShift_at s c r y z hlr hy hz)
              rw [← hy] at hJ
              have Y := Lib.hid hy
              clear hy hz
              have c0 := hJ.out.rl.blk.cell z lz
              have lb := BS.out z
              have c1 := hJ.out.rl.box.cell (s z) lb
              have c2 := hJ.out.out.cell y ly
              have f2 := hJ.out.out.free y
              unfold w8 at c0 c1
              have F := Lib.hid (hJ.out.cell)
              rw [← N.out] at F
              generalize boxN (s z) = bb at *
              generalize hsz : s z = sz at *
              clear hsz N
              go_wp2
              go_roundw
              case rel => exact ⟨r + 1, by omega, by go_num, by rw [show 4 * c + (r + 1) = y + 1 by rw [Y.out]; omega]; exact F⟩
              case measure => simp [intOf]; omega
            · have : r = 4 := by omega
              subst this
              go_wp2
              go_roundw
              case rel => exact ⟨c + 1, by omega, by go_num, hJ⟩
              case measure => simp [intOf]; omega
        · have : c = 4 := by omega
          subst this
          replace hJ := Lib.hid (hJ.out.congr (u := aShift (aSub s)) fun j hj => part_below _ _ _ _ hj)
          have BT := Lib.hid (aShift_byt (aSub_byt s))
          by_cases h10 : i < 10
          · have d1 : decide ((i : Int) < 10) = true := decide_eq_true (by omega)
            have d2 : decide (i = 10) = false := decide_eq_false (by omega)
            rw [d2] at L1
            replace L1 : Hid (lockTo key b i = aAdd (aMix (aShift (aSub s))) (rkN key i)) := L1.out
            generalize aShift (aSub s) = t at *
            have r9 := Lib.hid (RowAt.new wr 23 (rowOf 16 (w8 zeroN)))
            have hU : Hid (RowAt ((wr.alloc (.cells (rowOf 16 (w8 zeroN)) 23)).setRow wr.heap.size (rowOf 16 (w8 zeroN))) wr.heap.size 23 (rowOf 16 (w8 zeroN))) := r9.out.setRow _
            have hb9 : Below wr.heap.size wr ((wr.alloc (.cells (rowOf 16 (w8 zeroN)) 23)).setRow wr.heap.size (rowOf 16 (w8 zeroN))) := below_setRow' ((Below.refl _ _).alloc (Nat.le_refl _) _) (Nat.le_refl _) _
            have lv := hJ.out.out.lt
            replace hJ := Lib.hid (hJ.out.after hb9)
            clear hb9
            go_wp2_with (first | (refine wpList_buildTo rfl 23 _ rfl _ rfl (rowOf 16 (w8 zeroN)) (by kernel_rfl) ?_) | (refine wpList_store_row rfl 23 _ _ rfl wr.heap.size (rowOf 16 (w8 zeroN)) rfl rfl 23 _ r9.out (info_key _) (by rw [rowOf_size]) (rowOf_cells8 _ _) ?_))
            clear r9
            generalize World.setRow _ _ _ = w9' at *
            generalize wr.heap.size = u at *
            go_loopw [13] (fun y wr' => ∃ c : Nat, c ≤ 4 ∧ y = .int .i64 c ∧ Hid (R2I w x l q v key s t wr') ∧ Hid (RowAt wr' u 23 (rowOf 16 (w8 (part (aMix t) zeroN (4 * c))))))
              (fun y _ => 4 - (intOf y).toNat)
            case atStart => exact ⟨0, by omega, rfl, hJ, by rw [Nat.mul_zero, part_zero]; exact hU⟩
            case round =>
              clear hJ hU
              obtain ⟨c, hc, rfl, hJ, hU⟩ := hrel
              by_cases hlc : c < 4
              · go_wp2
                go_loopw [14] (fun y wr'' => ∃ r : Nat, r ≤ 4 ∧ y = .int .i64 r ∧ Hid (R2I w x l q v key s t wr'') ∧ Hid (RowAt wr'' u 23 (rowOf 16 (w8 (part (aMix t) zeroN (4 * c + r))))))
                  (fun y _ => 4 - (intOf y).toNat)
                case atStart => exact ⟨0, by omega, rfl, hJ, hU⟩
                case round =>
                  clear hJ hU
                  obtain ⟨r, hr, rfl, hJ, hU⟩ := hrel
                  by_cases hlr : r < 4
                  · obtain ⟨y, hy⟩ : ∃ y, y = 4 * c + r := ⟨_, rfl⟩
                    obtain ⟨y1, hy1⟩ : ∃ y1, y1 = 4 * c + (r + 1) % 4 := ⟨_, rfl⟩
                    obtain ⟨y2, hy2⟩ : ∃ y2, y2 = 4 * c + (r + 2) % 4 := ⟨_, rfl⟩
                    obtain ⟨y3, hy3⟩ : ∃ y3, y3 = 4 * c + (r + 3) % 4 := ⟨_, rfl⟩
                    have ey : (4 : Int) * (c : Int) + (r : Int) = (y : Int) := by omega
                    have ey1 : (4 : Int) * (c : Int) + ((r : Int) + 1) % 4 = (y1 : Int) := by omega
                    have ey2 : (4 : Int) * (c : Int) + ((r : Int) + 2) % 4 = (y2 : Int) := by omega
                    have ey3 : (4 : Int) * (c : Int) + ((r : Int) + 3) % 4 = (y3 : Int) := by omega
                    have ly : y < 16 := by omega
                    have ly1 : y1 < 16 := by omega
                    have ly2 : y2 < 16 := by omega
                    have ly3 : y3 < 16 := by omega
                    have N := Lib.hid (aMix_at t c r y y1 y2 y3 hlr hy hy1 hy2 hy3)
                    rw [← hy] at hU
                    have Y := Lib.hid hy
                    clear hy hy1 hy2 hy3
                    have m0 := BT.out y
                    have m1 := BT.out y1
                    have m2 := BT.out y2
                    have m3 := BT.out y3
                    go_wp2
                    refine wp_region_still_tail 40 (by kernel_rfl) (by kernel_rfl) ?_
                    change wpStill _ _ wr.drew (fun a' => wpList _ _ _ _ a' wr.drew) _ _
                    replace hU : Hid (RowAt wr.drew u 23 (rowOf 16 (w8 (part (aMix t) zeroN y)))) := hU
                    replace hJ := Lib.hid hJ.out.drew
                    generalize wr.drew = w9 at *
                    have c0 := hJ.out.out.cell y ly
                    have c1 := hJ.out.out.cell y1 ly1
                    have c2 := hJ.out.out.cell y2 ly2
                    have c3 := hJ.out.out.cell y3 ly3
                    have cu := hU.out.cell y ly
                    have fu := hU.out.free y
                    unfold w8 at c0 c1 c2 c3
                    have T2 := Lib.hid (refTimes_any (t y) 2 m0 (by decide) w9)
                    have T3 := Lib.hid (refTimes_any (t y1) 3 m1 (by decide) w9)
                    have n0 := times_lt m0 2
                    have n1 := times_lt m1 3
                    generalize timesN (t y) 2 = a0 at *
                    generalize timesN (t y1) 3 = a1 at *
                    have E1 := u8_xor_nat a0 a1 n0 n1
                    have n2 := xor8 n0 n1
                    generalize a0 ^^^ a1 = a2 at *
                    have E2 := u8_xor_nat a2 (t y2) n2 m2
                    have n3 := xor8 n2 m2
                    generalize a2 ^^^ t y2 = a3 at *
                    have E3 := u8_xor_nat a3 (t y3) n3 m3
                    generalize a3 ^^^ t y3 = a4 at *
                    have e3 := Lib.hid (u8_row 16 (aMix t) zeroN y)
                    rw [← N.out] at e3
                    clear N
                    simp only [List.take_succ_cons, List.take_zero, List.drop_succ_cons, List.drop_zero]
                    refine wpStill_of_quiet _ _ ?_
                    repeat (first | go_big_quiet_skip | (go_big_quiet_want; go_big_quiet_op; go_big_quiet_on))
                    (go_big_quiet_want; go_big_quiet_op; apply Exists.intro; refine ⟨T2.out, ?_⟩; go_big_quiet_on)
                    repeat (first | go_big_quiet_skip | (go_big_quiet_want; go_big_quiet_op; go_big_quiet_on))
                    (go_big_quiet_want; go_big_quiet_op; apply Exists.intro; refine ⟨T3.out, ?_⟩; go_big_quiet_on)
                    repeat (first | go_big_quiet_skip | (go_big_quiet_want; go_big_quiet_op; go_big_quiet_on))
                    refine wpQuiet_nil ?_
                    clear T2 T3
                    go_wp2
                    go_roundw
                    case rel =>
                      refine ⟨r + 1, by omega, by go_num, Lib.hid (hJ.out.over ((Below.refl (v + 1) _).setCell (by show v + 1 ≤ u; omega) _)), ?_⟩
                      rw [show 4 * c + (r + 1) = y + 1 by rw [Y.out]; omega]
                      exact (hU.out.set y _).congr e3.out
                    case measure => simp [intOf]; omega
                  · have : r = 4 := by omega
                    subst this
                    go_wp2
                    go_roundw
                    case rel => exact ⟨c + 1, by omega, by go_num, hJ, hU⟩
                    case measure => simp [intOf]; omega
              · have : c = 4 := by omega
                subst this
                replace hU : Hid (RowAt wr u 23 (rowOf 16 (w8 (aMix t)))) := hU.out.congr (part_all 16 _ _)
                have BM := Lib.hid (aMix_byt BT.out)
                go_wp2_with (first | (refine wpList_load_row rfl 23 _ rfl u rfl 23 _ (0, 0) _ hU.out Try.underlying23 rfl (info_key _) ?_) | (refine wpList_store_row rfl 23 _ _ rfl v (rowOf 16 (w8 (aMix t))) rfl rfl 23 _ hJ.out.out (info_key _) (by rw [rowOf_size, rowOf_size]) (rowOf_cells8 _ _) ?_))
                replace hJ := Lib.hid (hJ.out.store (aMix t))
                clear hU
                generalize World.setRow _ _ _ = w10 at *
                refine wp_region_rely_tail 5 (R2I w x l q v key s (aMix t)) [eqv (.agg (rowOf 16 (w8 (aMix t)))), eqv (.int .i64 (i : Int)), eqv (.pointer (some ⟨l, i * 16, none⟩)), eqv (.agg (rowOf 16 (w8 (rkN key i)))), eqv (.agg (rowOf 16 (w8 (aAdd (aMix t) (rkN key i)))))] (by kernel_rfl) (by kernel_rfl) hJ.out.drew
                  (.cons (steady_eqv _) (.cons (steady_eqv _) (.cons (steady_eqv _) (.cons (steady_eqv _) (.cons (steady_eqv _) .nil))))) ?_
                intro R hR
                simp only [List.take_succ_cons, List.take_zero, List.drop_succ_cons, List.drop_zero]
                refine wpRely_cons (fun w' hC hf => ?_) (fun v0 => ?_)
                · (repeat (first | (obtain ⟨rfl, hf⟩ := hf) | (obtain ⟨⟨q, rfl, hq⟩, hf⟩ := hf) | (obtain ⟨_, hf⟩ := hf)))
                  exact grows_load (by rfl) hC rfl rfl (hC.out) Try.underlying23 rfl (info_key _)
                simp only [Act.put, List.setIfInBounds_toArray, List.set_cons_succ, List.set_cons_zero, List.nil_append]
                refine wpRely_cons (fun w' hC hf => ?_) (fun v1 => ?_)
                · (repeat (first | (obtain ⟨rfl, hf⟩ := hf) | (obtain ⟨⟨q, rfl, hq⟩, hf⟩ := hf) | (obtain ⟨_, hf⟩ := hf)))
                  exact grows_eqv (by rfl) hC (by go_simp)
                simp only [Act.put, List.setIfInBounds_toArray, List.set_cons_succ, List.set_cons_zero, List.nil_append, List.cons_append]
                refine wpRely_cons (fun w' hC hf => ?_) (fun v2 => ?_)
                · (repeat (first | (obtain ⟨rfl, hf⟩ := hf) | (obtain ⟨⟨q, rfl, hq⟩, hf⟩ := hf) | (obtain ⟨_, hf⟩ := hf)))
                  exact grows_eqv (by rfl) hC (by go_simp)
                simp only [Act.put, List.setIfInBounds_toArray, List.set_cons_succ, List.set_cons_zero, List.nil_append, List.cons_append]
                refine wpRely_cons (fun w' hC hf => ?_) (fun v3 => ?_)
                · (repeat (first | (obtain ⟨rfl, hf⟩ := hf) | (obtain ⟨⟨q, rfl, hq⟩, hf⟩ := hf) | (obtain ⟨_, hf⟩ := hf)))
                  exact grows_load_at (by rfl) hC rfl rfl hC.rl.rks (ring_get key i (by omega)) Try.underlying23 rfl (by kernel_rfl)
                simp only [Act.put, List.setIfInBounds_toArray, List.set_cons_succ, List.set_cons_zero, List.nil_append, List.cons_append]
                refine wpRely_cons (fun w' hC hf => ?_) (fun v4 => ?_)
                · (repeat (first | (obtain ⟨rfl, hf⟩ := hf) | (obtain ⟨⟨q, rfl, hq⟩, hf⟩ := hf) | (obtain ⟨_, hf⟩ := hf)))
                  exact grows_calls hR (fun _ _ hb h => h.after hb) hC (by rfl) (by go_simp) (refXor_keys (aMix t) (rkN key i) BM BK w')
                simp only [Act.put, List.setIfInBounds_toArray, List.set_cons_succ, List.set_cons_zero, List.nil_append, List.cons_append]
                refine wpRely_nil fun w9 hC hf => ?_
                obtain ⟨_, _, _, _, rfl, _⟩ := hf
                have hI := Lib.hid hC.rl
                clear hC
                refine wpList_store_row rfl 23 _ _ rfl q (rowOf 16 (w8 (aAdd (aMix t) (rkN key i)))) rfl rfl 23 _ hI.out.blk (info_key _) (by rw [rowOf_size, rowOf_size]) (rowOf_cells8 _ _) ?_
                replace hI := Lib.hid (hI.out.store (aAdd (aMix t) (rkN key i)))
                generalize World.setRow _ _ _ = w12 at *
                rw [← L1.out] at hI
                clear L1
                go_wp2
                go_roundw
                case rel => exact ⟨i, i + 1, rfl, i10, by go_num, hI⟩
                case measure => simp [intOf]; omega
          · have d1 : decide ((i : Int) < 10) = false := decide_eq_false (by omega)
            have d2 : decide (i = 10) = true := decide_eq_true (by omega)
            rw [d2] at L1
            replace L1 : Hid (lockTo key b i = aAdd (aShift (aSub s)) (rkN key i)) := L1.out
            generalize aShift (aSub s) = t at *
            go_wp2
            refine wp_region_rely_tail 5 (R2I w x l q v key s t) [eqv (.agg (rowOf 16 (w8 t))), eqv (.int .i64 (i : Int)), eqv (.pointer (some ⟨l, i * 16, none⟩)), eqv (.agg (rowOf 16 (w8 (rkN key i)))), eqv (.agg (rowOf 16 (w8 (aAdd t (rkN key i)))))] (by kernel_rfl) (by kernel_rfl) hJ.out.drew
              (.cons (steady_eqv _) (.cons (steady_eqv _) (.cons (steady_eqv _) (.cons (steady_eqv _) (.cons (steady_eqv _) .nil))))) ?_
            intro R hR
            simp only [List.take_succ_cons, List.take_zero, List.drop_succ_cons, List.drop_zero]
            refine wpRely_cons (fun w' hC hf => ?_) (fun v0 => ?_)
            · (repeat (first | (obtain ⟨rfl, hf⟩ := hf) | (obtain ⟨⟨q, rfl, hq⟩, hf⟩ := hf) | (obtain ⟨_, hf⟩ := hf)))
              exact grows_load (by rfl) hC rfl rfl (hC.out) Try.underlying23 rfl (info_key _)
            simp only [Act.put, List.setIfInBounds_toArray, List.set_cons_succ, List.set_cons_zero, List.nil_append]
            refine wpRely_cons (fun w' hC hf => ?_) (fun v1 => ?_)
            · (repeat (first | (obtain ⟨rfl, hf⟩ := hf) | (obtain ⟨⟨q, rfl, hq⟩, hf⟩ := hf) | (obtain ⟨_, hf⟩ := hf)))
              exact grows_eqv (by rfl) hC (by go_simp)
            simp only [Act.put, List.setIfInBounds_toArray, List.set_cons_succ, List.set_cons_zero, List.nil_append, List.cons_append]
            refine wpRely_cons (fun w' hC hf => ?_) (fun v2 => ?_)
            · (repeat (first | (obtain ⟨rfl, hf⟩ := hf) | (obtain ⟨⟨q, rfl, hq⟩, hf⟩ := hf) | (obtain ⟨_, hf⟩ := hf)))
              exact grows_eqv (by rfl) hC (by go_simp)
            simp only [Act.put, List.setIfInBounds_toArray, List.set_cons_succ, List.set_cons_zero, List.nil_append, List.cons_append]
            refine wpRely_cons (fun w' hC hf => ?_) (fun v3 => ?_)
            · (repeat (first | (obtain ⟨rfl, hf⟩ := hf) | (obtain ⟨⟨q, rfl, hq⟩, hf⟩ := hf) | (obtain ⟨_, hf⟩ := hf)))
              exact grows_load_at (by rfl) hC rfl rfl hC.rl.rks (ring_get key i (by omega)) Try.underlying23 rfl (by kernel_rfl)
            simp only [Act.put, List.setIfInBounds_toArray, List.set_cons_succ, List.set_cons_zero, List.nil_append, List.cons_append]
            refine wpRely_cons (fun w' hC hf => ?_) (fun v4 => ?_)
            · (repeat (first | (obtain ⟨rfl, hf⟩ := hf) | (obtain ⟨⟨q, rfl, hq⟩, hf⟩ := hf) | (obtain ⟨_, hf⟩ := hf)))
              exact grows_calls hR (fun _ _ hb h => h.after hb) hC (by rfl) (by go_simp) (refXor_keys t (rkN key i) BT BK w')
            simp only [Act.put, List.setIfInBounds_toArray, List.set_cons_succ, List.set_cons_zero, List.nil_append, List.cons_append]
            refine wpRely_nil fun w9 hC hf => ?_
            obtain ⟨_, _, _, _, rfl, _⟩ := hf
            have hI := Lib.hid hC.rl
            clear hC
            refine wpList_store_row rfl 23 _ _ rfl q (rowOf 16 (w8 (aAdd t (rkN key i)))) rfl rfl 23 _ hI.out.blk (info_key _) (by rw [rowOf_size, rowOf_size]) (rowOf_cells8 _ _) ?_
            replace hI := Lib.hid (hI.out.store (aAdd t (rkN key i)))
            generalize World.setRow _ _ _ = w12 at *
            rw [← L1.out] at hI
            clear L1
            go_wp2
            go_roundw
            case rel => exact ⟨i, i + 1, rfl, i10, by go_num, hI⟩
            case measure => simp [intOf]; omega
    · have : k = 10 := by omega
      subst this
      have : i = 11 := by omega
      subst this
      go_wp2_with (first | (refine wpList_load_row rfl 23 _ rfl q rfl 23 _ (0, 0) _ hI.out.blk Try.underlying23 rfl (info_key _) ?_) | (refine wpList_store_row rfl 23 _ _ rfl (w.heap.size + 1 + 1) (rowOf 16 (w8 (lockN key b))) rfl rfl 23 _ hI.out.room (info_key _) (by rw [rowOf_size, rowOf_size]) (rowOf_cells8 _ _) ?_))
      refine bodyPost_ret (v := .agg (rowOf 16 (w8 (lockN key b)))) ?_ rfl ⟨rfl, below_setRow' hI.out.rest (by omega) _⟩
      exact results_cell_row Try.results15 _ _ (w.heap.size + 1 + 1) 23 (rowOf 16 (w8 (lockN key b))) (0, 0) _ rfl (hI.out.room.setRow _) Try.underlying23 rfl (info_key _)

end Go.Proofs.Ytmbkjbkbnigcfaa
