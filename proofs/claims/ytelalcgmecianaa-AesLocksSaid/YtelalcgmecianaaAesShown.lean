/-
  Contract: shown: a block is locked as the document has it.
-/
import Derived.Test.YtelalcgmecianaaAesLock
import Derived.Test.YtelalcgmecianaaWant
namespace Go.Proofs.Ytelalcgmecianaa
open Go.RowKit

def lf (l : List Nat) : Nat → Nat := fun j => l.getD j 0

theorem same_lit {f g : Nat → Nat} (h : sameK f g = true) : Same16 f g := (sameK_iff f g).1 h
theorem rk_lit {key : Nat → Nat} {i : Nat} {a b : List Nat} (h : Same16 (rkN key i) (lf a)) (e : sameK (rkNext (lf a) (xtsN 1 i)) (lf b) = true) : Same16 (rkN key (i + 1)) (lf b) :=
  Same16.trans (fun j hj => rkCol_congr h (xtsN 1 i) (j / 4) (j % 4) (by omega) (by omega)) (same_lit e)
theorem st_lit {key b : Nat → Nat} {i : Nat} {s k t : List Nat} (h : Same16 (lockTo key b i) (lf s)) (hk : Same16 (rkN key (i + 1)) (lf k)) (e : sameK (roundS (lf s) (lf k) (decide (i + 1 = 10))) (lf t) = true) : Same16 (lockTo key b (i + 1)) (lf t) :=
  (roundS_congr h _ _).trans (Same16.trans (fun j hj => by unfold roundS aAdd; rw [hk j hj]) (same_lit e))

def shK0 : List Nat := [0, 1, 2, 3, 4, 5, 6, 7, 8, 9, 10, 11, 12, 13, 14, 15]
def shK1 : List Nat := [214, 170, 116, 253, 210, 175, 114, 250, 218, 166, 120, 241, 214, 171, 118, 254]
def shK2 : List Nat := [182, 146, 207, 11, 100, 61, 189, 241, 190, 155, 197, 0, 104, 48, 179, 254]
def shK3 : List Nat := [182, 255, 116, 78, 210, 194, 201, 191, 108, 89, 12, 191, 4, 105, 191, 65]
def shK4 : List Nat := [71, 247, 247, 188, 149, 53, 62, 3, 249, 108, 50, 188, 253, 5, 141, 253]
def shK5 : List Nat := [60, 170, 163, 232, 169, 159, 157, 235, 80, 243, 175, 87, 173, 246, 34, 170]
def shK6 : List Nat := [94, 57, 15, 125, 247, 166, 146, 150, 167, 85, 61, 193, 10, 163, 31, 107]
def shK7 : List Nat := [20, 249, 112, 26, 227, 95, 226, 140, 68, 10, 223, 77, 78, 169, 192, 38]
def shK8 : List Nat := [71, 67, 135, 53, 164, 28, 101, 185, 224, 22, 186, 244, 174, 191, 122, 210]
def shK9 : List Nat := [84, 153, 50, 209, 240, 133, 87, 104, 16, 147, 237, 156, 190, 44, 151, 78]
def shK10 : List Nat := [19, 17, 29, 127, 227, 148, 74, 23, 243, 7, 167, 139, 77, 43, 48, 197]
def shS0 : List Nat := [0, 16, 32, 48, 64, 80, 96, 112, 128, 144, 160, 176, 192, 208, 224, 240]
def shS1 : List Nat := [137, 216, 16, 232, 133, 90, 206, 104, 45, 24, 67, 216, 203, 18, 143, 228]
def shS2 : List Nat := [73, 21, 89, 143, 85, 229, 215, 160, 218, 202, 148, 250, 31, 10, 99, 247]
def shS3 : List Nat := [250, 99, 106, 40, 37, 179, 57, 201, 64, 102, 138, 49, 87, 36, 77, 23]
def shS4 : List Nat := [36, 114, 64, 35, 105, 102, 179, 250, 110, 210, 117, 50, 136, 66, 91, 108]
def shS5 : List Nat := [200, 22, 119, 188, 155, 122, 201, 59, 37, 2, 121, 146, 176, 38, 25, 150]
def shS6 : List Nat := [198, 47, 225, 9, 247, 94, 237, 195, 204, 121, 57, 93, 132, 249, 207, 93]
def shS7 : List Nat := [209, 135, 108, 15, 121, 196, 48, 10, 180, 85, 148, 173, 214, 111, 244, 31]
def shS8 : List Nat := [253, 227, 186, 210, 5, 229, 208, 215, 53, 71, 150, 78, 241, 254, 55, 241]
def shS9 : List Nat := [189, 110, 124, 61, 242, 181, 119, 158, 11, 97, 33, 110, 139, 16, 182, 137]
def shS10 : List Nat := [105, 196, 224, 216, 106, 123, 4, 48, 216, 205, 183, 128, 112, 180, 197, 90]

/-- The key and the block of the example. -/
def shK : Nat → Nat := fun j => j % 256
def shB : Nat → Nat := fun j => 17 * j % 256
theorem shK_byt : Byt shK := fun _ => Nat.mod_lt _ (by decide)
theorem shB_byt : Byt shB := fun _ => Nat.mod_lt _ (by decide)

theorem sk0 : Same16 (rkN shK 0) (lf shK0) := same_lit (by kernel_rfl)
theorem sk1 : Same16 (rkN shK 1) (lf shK1) := rk_lit sk0 (by kernel_rfl)
theorem sk2 : Same16 (rkN shK 2) (lf shK2) := rk_lit sk1 (by kernel_rfl)
theorem sk3 : Same16 (rkN shK 3) (lf shK3) := rk_lit sk2 (by kernel_rfl)
theorem sk4 : Same16 (rkN shK 4) (lf shK4) := rk_lit sk3 (by kernel_rfl)
theorem sk5 : Same16 (rkN shK 5) (lf shK5) := rk_lit sk4 (by kernel_rfl)
theorem sk6 : Same16 (rkN shK 6) (lf shK6) := rk_lit sk5 (by kernel_rfl)
theorem sk7 : Same16 (rkN shK 7) (lf shK7) := rk_lit sk6 (by kernel_rfl)
theorem sk8 : Same16 (rkN shK 8) (lf shK8) := rk_lit sk7 (by kernel_rfl)
theorem sk9 : Same16 (rkN shK 9) (lf shK9) := rk_lit sk8 (by kernel_rfl)
theorem sk10 : Same16 (rkN shK 10) (lf shK10) := rk_lit sk9 (by kernel_rfl)
theorem ss0 : Same16 (lockTo shK shB 0) (lf shS0) := same_lit (by kernel_rfl)
theorem ss1 : Same16 (lockTo shK shB 1) (lf shS1) := st_lit ss0 sk1 (by kernel_rfl)
theorem ss2 : Same16 (lockTo shK shB 2) (lf shS2) := st_lit ss1 sk2 (by kernel_rfl)
theorem ss3 : Same16 (lockTo shK shB 3) (lf shS3) := st_lit ss2 sk3 (by kernel_rfl)
theorem ss4 : Same16 (lockTo shK shB 4) (lf shS4) := st_lit ss3 sk4 (by kernel_rfl)
theorem ss5 : Same16 (lockTo shK shB 5) (lf shS5) := st_lit ss4 sk5 (by kernel_rfl)
theorem ss6 : Same16 (lockTo shK shB 6) (lf shS6) := st_lit ss5 sk6 (by kernel_rfl)
theorem ss7 : Same16 (lockTo shK shB 7) (lf shS7) := st_lit ss6 sk7 (by kernel_rfl)
theorem ss8 : Same16 (lockTo shK shB 8) (lf shS8) := st_lit ss7 sk8 (by kernel_rfl)
theorem ss9 : Same16 (lockTo shK shB 9) (lf shS9) := st_lit ss8 sk9 (by kernel_rfl)
theorem ss10 : Same16 (lockTo shK shB 10) (lf shS10) := st_lit ss9 sk10 (by kernel_rfl)
theorem shown_row : rowOf 16 (w8 (lockN shK shB)) = rowOf 16 (w8 (lf shS10)) := rowOf_congr fun j hj => by unfold w8; rw [show lockN shK shB j = lf shS10 j from ss10 j hj]

set_option maxHeartbeats 1000000 in
set_option maxRecDepth 8000 in
theorem shown_any (w : World) :
    Calls Try.prog 10 #[] w fun e w' => e = .returned (.bool true) ∧ Below w.heap.size w w' := by
  have r0 := Lib.hid (RowAt.new w 23 (rowOf 16 (w8 zeroN)))
  have r1 : Hid (RowAt ((w.alloc (.cells (rowOf 16 (w8 zeroN)) 23)).alloc (.cells (rowOf 16 (w8 zeroN)) 23)) (w.heap.size + 1) 23 (rowOf 16 (w8 zeroN))) := by
    have := RowAt.new (w.alloc (.cells (rowOf 16 (w8 zeroN)) 23)) 23 (rowOf 16 (w8 zeroN))
    rw [World.size_alloc] at this
    exact this
  have h0 := Lib.hid ((r0.out.alloc (.cells (rowOf 16 (w8 zeroN)) 23)).setRowOther (w.heap.size + 1) (rowOf 16 (w8 zeroN)) (by omega))
  have h1 := Lib.hid (r1.out.setRow (rowOf 16 (w8 zeroN)))
  have b0 : Below w.heap.size w (((w.alloc (.cells (rowOf 16 (w8 zeroN)) 23)).alloc (.cells (rowOf 16 (w8 zeroN)) 23)).setRow (w.heap.size + 1) (rowOf 16 (w8 zeroN))) := below_setRow' (((Below.refl _ _).alloc (Nat.le_refl _) _).alloc (by simp) _) (by omega) _
  go_enter Try.func10, Try.ntmps10
  go_wp2_with (first | (refine wpList_buildTo rfl 23 _ rfl _ rfl (rowOf 16 (w8 zeroN)) (by kernel_rfl) ?_) | (refine wpList_store_row rfl 23 _ _ rfl w.heap.size (rowOf 16 (w8 zeroN)) rfl rfl 23 _ r0.out (info_key _) (by rw [rowOf_size]) (rowOf_cells8 _ _) ?_; rw [World.setRow_alloc_new]) | (refine wpList_store_row rfl 23 _ _ rfl (w.heap.size + 1) (rowOf 16 (w8 zeroN)) rfl rfl 23 _ r1.out (info_key _) (by rw [rowOf_size]) (rowOf_cells8 _ _) ?_))
  rw [← z8_16]
  clear r0 r1
  generalize World.setRow _ _ _ = w1 at *
  go_loopw [3] (fun i wr => ∃ j : Nat, j ≤ 16 ∧ i = .int .i64 j ∧ Hid (RowAt wr w.heap.size 23 (rowOf 16 (w8 (part shK zeroN j)))) ∧ Hid (RowAt wr (w.heap.size + 1) 23 (rowOf 16 (w8 (part shB zeroN j)))) ∧ Below w.heap.size w wr)
    (fun i _ => 16 - (intOf i).toNat)
  case atStart => exact ⟨0, by omega, rfl, by rw [part_zero]; exact h0, by rw [part_zero]; exact h1, b0⟩
  case round =>
    clear h0 h1 b0
    obtain ⟨j, hj, rfl, h0, h1, hbl⟩ := hrel
    by_cases hlt : j < 16
    · have c0 := h0.out.cell j hlt
      have f0 := h0.out.free j
      have c1 := h1.out.cell j hlt
      have f1 := h1.out.free j
      have e3 := Lib.hid (u8_row 16 shK zeroN j)
      have e4 := Lib.hid (u8_row 16 shB zeroN j)
      have x0 : Hid ((j : Int) = ((shK j : Nat) : Int)) := by unfold Hid shK; omega
      have x1 : Hid ((17 : Int) * (j : Int) = ((shB j : Nat) : Int)) := by unfold Hid shB; omega
      go_wp2
      go_roundw
      case rel =>
        refine ⟨j + 1, by omega, by go_num, ?_, ?_, (hbl.setCell (Nat.le_refl _) _).setCell (by simp) _⟩
        · refine RowAt.setOther ?_ _ _ (by simp)
          have := (h0.out.set j (.int .u8 ((shK j : Nat) : Int))).congr e3.out
          rw [← x0.out] at this
          exact this
        · have := ((h1.out.setOther ⟨w.heap.size, j, none⟩ (.int .u8 (j : Int)) (by simp)).set j (.int .u8 ((shB j : Nat) : Int))).congr e4.out
          rw [← x1.out] at this
          exact this
      case measure => simp [intOf]; omega
    · have : j = 16 := by omega
      subst this
      replace h0 : Hid (RowAt wr w.heap.size 23 (rowOf 16 (w8 shK))) := h0.out.congr (part_all 16 _ _)
      replace h1 : Hid (RowAt wr (w.heap.size + 1) 23 (rowOf 16 (w8 shB))) := h1.out.congr (part_all 16 _ _)
      go_wp2_with (refine wpList_load_row rfl 23 _ rfl w.heap.size rfl 23 _ (0, 0) _ h0.out Try.underlying23 rfl (info_key _) ?_)
      refine (new_any shK _).mono ?_
      rintro e w2 ⟨p, rfl, hp, hf, hb2⟩
      have L := Lib.hid (lock_any p shK shB (Lib.hid shK_byt) (Lib.hid shB_byt) w2 (Lib.hid (Or.inl hf)))
      rw [shown_row] at L
      replace h1 := Lib.hid (h1.out.below hb2 h1.out.lt)
      have hz := hbl.size
      replace hbl := hbl.trans (hb2.mono hz)
      have hz2 := hbl.size
      clear hb2 hf h0
      go_wp2_with (refine wpList_wload_row (by rfl) 23 _ rfl (w.heap.size + 1) rfl 23 _ _ h1.out Try.underlying23 rfl (info_key _) ?_)
      refine L.out.mono ?_
      rintro e w3 ⟨rfl, _, ha⟩
      clear L h1
      replace hbl := hbl.trans (ha.under (by omega) hz2)
      clear ha
      go_wp2_with (refine wpList_wknown (by rfl) (run_eql_key (lf shS10) rfl rfl rfl _) ?_)
      go_ret
      exact ⟨rfl, hbl⟩

end Go.Proofs.Ytelalcgmecianaa
