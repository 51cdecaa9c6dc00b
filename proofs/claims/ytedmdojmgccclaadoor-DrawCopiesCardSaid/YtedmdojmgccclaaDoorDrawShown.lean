/-
  Contract: shown: one draw is told, and no other one.
-/
import Derived.Test.YtedmdojmgccclaaDoorDrawFrom
namespace Go.Proofs.YtedmdojmgccclaaDoor
open Go.RowKit

def sevenN : Nat → Nat := fun j => if j = 0 then 7 else 0
theorem s8_16 : rowOf 16 (w8 sevenN) = #[.int .u8 7, .int .u8 0, .int .u8 0, .int .u8 0, .int .u8 0, .int .u8 0, .int .u8 0, .int .u8 0, .int .u8 0, .int .u8 0, .int .u8 0, .int .u8 0, .int .u8 0, .int .u8 0, .int .u8 0, .int .u8 0] := rfl

theorem seesK_one {w : World} {g : Nat} {f : Nat → Nat} (h : RowAt w g 27 (rowOf 16 (w8 f))) : SeesK w (some ⟨g, 0, none⟩) 1 (fun _ => f) := fun m hm => by
  refine ⟨_, rfl, h.lt, ?_⟩
  rw [addr_add, Nat.zero_add, h.cell m (by omega)]
  unfold w8 flatK
  rw [show m % 16 = m by omega]

theorem seesK_row {w : World} {g n : Nat} {K : Nat → Nat → Nat} (h : RowAt w g 27 (rowOf (n * 16) (w8 (flatK K)))) : SeesK w (some ⟨g, 0, none⟩) n K := fun m hm => by
  refine ⟨_, rfl, h.lt, ?_⟩
  rw [addr_add, Nat.zero_add, h.cell m hm]
  rfl

set_option maxHeartbeats 1000000 in
set_option maxRecDepth 8000 in
theorem shown7_any (w : World) (hk : Hid (KRow w)) :
    Calls Tryd.prog 6 #[] w fun e w' => e = .returned (.bool true) ∧ Below w.heap.size w w' := by
  have q0 := Lib.hid (RowAt.new w 27 (rowOf 16 (w8 sevenN)))
  have b0 : Below w.heap.size w (w.alloc (.cells (rowOf 16 (w8 sevenN)) 27)) := (Below.refl _ _).alloc (Nat.le_refl _) _
  have N0 := Lib.hid (drawNew_any 1 (by decide) (fun _ => sevenN) _ 1 _ (seesK_one q0.out))
  go_enter Tryd.func6, Tryd.ntmps6
  go_wp2_with (refine wpList_build_one rfl _ rfl sevenN rfl ?_)
  generalize w.alloc (.cells (rowOf 16 (w8 sevenN)) 27) = w0 at *
  refine N0.out.mono ?_
  rintro e w1 ⟨p, a1, c1, rfl, D1, hb1⟩
  replace D1 := Lib.hid (D1.out.base b0.size)
  replace b0 := b0.trans (hb1.mono b0.size)
  have hp := D1.out.here
  clear hb1 N0 q0
  have N1 := Lib.hid (drawNext_yes w.heap.size p 1 c1 0 (by decide) a1 (fun _ => sevenN) w1 D1 (by decide))
  go_wp2_with fail
  refine N1.out.mono ?_
  rintro e w2 ⟨rfl, D2, ap2⟩
  clear N1 D1
  replace b0 := b0.trans (ap2.under hp b0.size)
  clear ap2
  have z2 := Lib.hid (RowAt.new w2 27 (rowOf 16 (w8 zeroN)))
  have r3 := Lib.hid (RowAt.new w2 27 (rowOf 16 (w8 sevenN)))
  have b3 : Below w2.heap.size w2 (w2.alloc (.cells (rowOf 16 (w8 sevenN)) 27)) := (Below.refl _ _).alloc (Nat.le_refl _) _
  have D3 := Lib.hid (D2.out.after b3)
  have hpq : w2.heap.size ≠ p := by have := D2.out.row.lt; omega
  replace b0 := b0.trans (b3.mono b0.size)
  have N3 := Lib.hid (drawNext_dry w.heap.size p 1 c1 (by decide) a1 (fun _ => sevenN) _ D3)
  clear D2 b3
  go_wp2_with (refine wpList_store_row rfl 27 _ _ rfl w2.heap.size (rowOf 16 (w8 sevenN)) rfl rfl 27 _ z2.out (info_key _) (by rw [rowOf_size, rowOf_size]) (rowOf_cells8 _ _) ?_; rw [World.setRow_alloc_new]; generalize w2.alloc (.cells (rowOf 16 (w8 sevenN)) 27) = w3 at *)
  refine N3.out.mono ?_
  rintro e w4 ⟨rfl, D4, ap4⟩
  clear N3 D3 D4 z2
  replace r3 := Lib.hid (ap4.row r3.out hpq)
  replace b0 := b0.trans (ap4.under hp b0.size)
  clear ap4
  have z4 := Lib.hid (RowAt.new w4 27 (rowOf 16 (w8 zeroN)))
  have b5 : Below w4.heap.size w4 (w4.alloc (.cells (rowOf 16 (w8 zeroN)) 27)) := (Below.refl _ _).alloc (Nat.le_refl _) _
  replace r3 := Lib.hid (r3.out.below b5 r3.out.lt)
  replace b0 := b0.trans (b5.mono b0.size)
  clear b5
  have F0 := Lib.hid (drawFrom_any 1 1 (by decide) (by decide) 1 rfl _ (hk.out.below b0 hk.out.1 b0.size))
  go_wp2_with (first | (refine wpList_store_row rfl 27 _ _ rfl w4.heap.size (rowOf 16 (w8 zeroN)) rfl rfl 27 _ z4.out (info_key _) (by rw [rowOf_size]) (rowOf_cells8 _ _) ?_; rw [World.setRow_alloc_new]; generalize w4.alloc (.cells (rowOf 16 (w8 zeroN)) 27) = w5 at *) | (refine wpList_load_row rfl 27 _ rfl w2.heap.size rfl 27 _ (0, 0) _ r3.out Tryd.underlying27 rfl (info_key _) ?_) | (refine wpList_known rfl (run_eql_key2 sevenN sevenN true (sameK_rfl _) rfl rfl rfl _) ?_))
  refine F0.out.mono ?_
  rintro e w6 ⟨g, rfl, _, hb6⟩
  replace b0 := b0.trans (hb6.mono b0.size)
  clear hb6 F0 r3 z4
  go_wp2
  go_ret
  exact ⟨rfl, b0⟩

end Go.Proofs.YtedmdojmgccclaaDoor
