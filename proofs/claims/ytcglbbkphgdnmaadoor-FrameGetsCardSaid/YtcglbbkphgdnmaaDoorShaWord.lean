/-
  Contracts: turns, wordAt.
-/
import Derived.Test.YtcglbbkphgdnmaaDoorShaTurn
namespace Go.Proofs.YtcglbbkphgdnmaaDoor
open Go.RowKit

/-- A closure that turns by ns, made below block B. -/
def Turner (B : Nat) (w : World) (v : Value) (ns : List Nat) : Prop :=
  ∃ g p cap, v = .func (.func 75) #[] #[.pointer (some ⟨p, 0, none⟩)] ∧ p < B ∧ g < B ∧ RowAt w p 118 #[.slice (some ⟨g, 0, none⟩) ns.length cap] ∧ RowAt w g 3 (nums ns).toArray

theorem Turner.below {B : Nat} {w w' : World} {v : Value} {ns : List Nat} (h : Turner B w v ns) {C : Nat} (hb : Below C w w') (hC : B ≤ C) : Turner B w' v ns := by
  obtain ⟨g, p, cap, e, hp, hg, r1, r2⟩ := h
  exact ⟨g, p, cap, e, hp, hg, r1.below hb (by omega), r2.below hb (by omega)⟩

theorem Turner.mono {B C : Nat} {w : World} {v : Value} {ns : List Nat} (h : Turner B w v ns) (hC : B ≤ C) : Turner C w v ns := by
  obtain ⟨g, p, cap, e, hp, hg, r1, r2⟩ := h
  exact ⟨g, p, cap, e, by omega, by omega, r1, r2⟩

theorem turner_call {B q : Nat} {w : World} {ns : List Nat} (h : Turner B w (.func (.func 75) #[] #[.pointer (some ⟨q, 0, none⟩)]) ns) (hns : ∀ n ∈ ns, 1 ≤ n ∧ n ≤ 31) (hl : ns.length ≤ 9) (x : Nat) (hx : x < 4294967296) :
    Calls Tryd.prog 75 #[.int .u32 x, .pointer (some ⟨q, 0, none⟩)] w fun e w' => e = .returned (.int .u32 (turnsN x ns : Nat)) ∧ w' = w := by
  obtain ⟨g, p, cap, e, _, _, r1, r2⟩ := h
  obtain rfl : q = p := by simpa using e
  refine turns1_any g q ns ns.length cap x hx hns rfl hl w r1 ?_
  unfold Hid
  intro j n hj
  rw [cell_of_row w g j _ _ _ r2]
  simp [nums, hj]

set_option maxHeartbeats 400000 in
theorem turns_any (g l cap : Nat) (w : World) :
    Calls Tryd.prog 69 #[.slice (some ⟨g, 0, none⟩) l cap] w fun e w' => e = .returned (.func (.func 75) #[] #[.pointer (some ⟨w.heap.size, 0, none⟩)]) ∧
      w' = w.alloc (.cells #[.slice (some ⟨g, 0, none⟩) l cap] 118 (0, 0)) := by
  go_enter Tryd.func69, Tryd.ntmps69
  go_wp2
  go_ret
  exact ⟨rfl, rfl⟩

/-- The first j bytes of a word. -/
def wordP (B : Nat → Nat) (i : Nat) : Nat → Nat
  | 0 => 0
  | j + 1 => wordP B i j * 256 + B (4 * i + j)

theorem wordP_lt {B : Nat → Nat} (h : Bytes B) (i j : Nat) : wordP B i j < 256 ^ j := by
  induction j with
  | zero => simp [wordP]
  | succ j ih =>
    have := h (4 * i + j)
    simp only [wordP, Nat.pow_succ]
    omega

theorem wordP_four (B : Nat → Nat) (i : Nat) : wordP B i 4 = wordN B i := by
  simp [wordP, wordN]

theorem wordP_lt3 {B : Nat → Nat} (h : Bytes B) (i j : Nat) (hj : j < 4) : wordP B i j < 16777216 :=
  Nat.lt_of_lt_of_le (wordP_lt h i j) (Nat.pow_le_pow_right (n := 256) (j := 3) (by decide) (by omega))

theorem join8 (y b : Nat) (hy : y < 16777216) (hb : b < 256) : bits .or .u32 ((y : Int) * 256) (b : Int) = ((y * 256 + b : Nat) : Int) := by
  rw [bits_join .u32 32 (by decide) wraps_u32 8 _ _ (by omega) (by omega) (by omega) (by omega) (by omega) (by omega)]
  omega

set_option maxHeartbeats 400000 in
theorem wordAt_any (B : Nat → Nat) (hB : Hid (Bytes B)) (i : Nat) (hi : i < 16) (w : World) :
    Calls Tryd.prog 74 #[.agg (rowOf 64 (w8 B)), .int .i64 (i : Nat)] w fun e w' => e = .returned (.int .u32 (wordN B i : Nat)) ∧ Below w.heap.size w w' := by
  have sl := run_slice_lh (P := Tryd.prog) Tryd.underlying89 (by kernel_rfl : (Tryd.prog.info? 5).map (·.size) = some 1) w.heap.size (4 * (i : Int)) (4 * ((i : Int) + 1)) (4 * i) (4 * i + 4) (by omega) (by omega) (by omega) (by omega) (by omega)
  rw [show 4 * i + 4 - 4 * i = 4 by omega] at sl
  go_enter Tryd.func74, Tryd.ntmps74
  go_wp2
  clear sl
  have hR := Lib.hid (RowAt.new w 89 (rowOf 64 (w8 B)))
  have hBl := ((Below.refl w.heap.size w).alloc (Nat.le_refl _) (.cells (rowOf 64 (w8 B)) 89 (0, 0)))
  generalize w.alloc (.cells (rowOf 64 (w8 B)) 89 (0, 0)) = w1 at *
  go_loopw [5, 15] (fun t i' wr => ∃ j y : Nat, j ≤ 4 ∧ i' = .int .i64 j ∧ t = .int .u32 y ∧ Hid (y = wordP B i j) ∧ wr = w1)
    (fun _ i _ => 4 - (intOf i).toNat)
  case atStart => exact ⟨0, 0, by omega, rfl, rfl, by simp [Hid, wordP], rfl⟩
  case round =>
    obtain ⟨j, y, hj, rfl, rfl, hr, rfl⟩ := hrel
    by_cases hlt : j < 4
    · have cj := hR.out.cell (4 * i + j) (by omega)
      unfold w8 at cj
      have hb := hB.out (4 * i + j)
      have hy : y < 16777216 := by rw [hr.out]; exact wordP_lt3 hB.out i j hlt
      obtain ⟨b, hbe⟩ : ∃ b, B (4 * i + j) = b := ⟨_, rfl⟩
      rw [hbe] at cj hb
      have e1 := Lib.hid (join8 y b hy hb)
      have e2 : Hid (y * 256 + b = wordP B i (j + 1)) := by unfold Hid; rw [wordP, ← hr.out, hbe]
      clear hbe
      go_wp2
      go_roundw
      case rel => exact ⟨j + 1, y * 256 + b, by omega, by go_num, by rw [← e1.out], e2, trivial⟩
      case measure => simp [intOf]; omega
    · have : j = 4 := by omega
      subst this
      go_wp2
      go_ret
      refine ⟨?_, hBl⟩
      have := hr.out
      rw [wordP_four] at this
      rw [← this]
      rfl

end Go.Proofs.YtcglbbkphgdnmaaDoor
