/-
  The cipher's block; contract of New.
-/
import Derived.Test.YtmbkjbkbnigcfaaRelyTail
import Derived.Test.YtmbkjbkbnigcfaaAesNext
import Derived.Test.YtmbkjbkbnigcfaaAesTables
namespace Go.Proofs.Ytmbkjbkbnigcfaa
open Go.RowKit

/-- The cells of a cipher: whether it is done, the lock's state and its queue, the round keys. -/
def cipV (d m : Int) (r : Nat → Nat) : Nat → Value
  | 0 => .int .u32 d
  | 1 => .int .i32 m
  | 2 => .int .u32 0
  | j + 3 => .int .u8 (r j : Nat)

theorem cip_at (d m : Int) (r : Nat → Nat) (j : Nat) : cipV d m r (3 + j) = .int .u8 (r j : Nat) := by rw [Nat.add_comm]; rfl

theorem cip_cells (d m : Int) (r : Nat → Nat) (n : Nat) : (rowOf n (cipV d m r)).all (·.oneCell') = true := by
  rw [Array.all_eq_true_iff_forall_mem]
  intro v hv
  unfold rowOf at hv
  simp only [List.mem_toArray, List.mem_map] at hv
  obtain ⟨b, _, rfl⟩ := hv
  unfold cipV
  split <;> rfl

theorem cip_congr {d m : Int} {r s : Nat → Nat} (h : ∀ j, j < 176 → r j = s j) : rowOf 179 (cipV d m r) = rowOf 179 (cipV d m s) := rowOf_congr fun j hj => by
  match j with
  | 0 => rfl
  | 1 => rfl
  | 2 => rfl
  | j + 3 => show Value.int .u8 _ = Value.int .u8 _; rw [h j (by omega)]

theorem cip_set0 (d m d' : Int) (r : Nat → Nat) : (rowOf 179 (cipV d m r)).setIfInBounds 0 (.int .u32 d') = rowOf 179 (cipV d' m r) := by
  rw [rowOf_set]
  refine rowOf_congr fun j _ => ?_
  match j with
  | 0 => rfl
  | 1 => rfl
  | 2 => rfl
  | j + 3 => rfl
theorem cip_set1 (d m m' : Int) (r : Nat → Nat) : (rowOf 179 (cipV d m r)).setIfInBounds 1 (.int .i32 m') = rowOf 179 (cipV d m' r) := by
  rw [rowOf_set]
  refine rowOf_congr fun j _ => ?_
  match j with
  | 0 => rfl
  | 1 => rfl
  | 2 => rfl
  | j + 3 => rfl

/-- Round key i laid. -/
def layK (x f : Nat → Nat) (i : Nat) : Nat → Nat := fun j => if 16 * i ≤ j ∧ j < 16 * i + 16 then f (j - 16 * i) else x j

theorem cip_lay (d m : Int) (x f : Nat → Nat) (i : Nat) : rowOf 179 (laidV (cipV d m x) (w8 f) (3 + i * 16) 16) = rowOf 179 (cipV d m (layK x f i)) := by
  rw [Nat.mul_comm i 16]
  refine rowOf_congr fun j _ => ?_
  unfold laidV
  match j with
  | 0 => rw [if_neg (by omega)]; rfl
  | 1 => rw [if_neg (by omega)]; rfl
  | 2 => rw [if_neg (by omega)]; rfl
  | j + 3 =>
    show _ = Value.int .u8 (layK x f i j : Nat)
    unfold layK
    by_cases h : 16 * i ≤ j ∧ j < 16 * i + 16
    · rw [if_pos (by omega), if_pos h]
      unfold w8
      rw [show j + 3 - (3 + 16 * i) = j - 16 * i by omega]
    · rw [if_neg (by omega), if_neg h]
      rfl

theorem cip_get (d m : Int) (x f : Nat → Nat) (i : Nat) (hi : i < 11) (h : ∀ j, j < 16 → x (16 * i + j) = f j) : ∀ j, j < 16 → (rowOf 179 (cipV d m x))[3 + i * 16 + j]? = some (w8 f j) := fun j hj => by
  rw [Nat.mul_comm i 16, rowOf_get _ _ _ (by omega), Nat.add_assoc, cip_at, h j hj]
  rfl

/-- All round keys, one behind the other. -/
def ringN (key : Nat → Nat) : Nat → Nat := fun j => rkN key (j / 16) (j % 16)

theorem ring_at (key : Nat → Nat) (i j : Nat) (hj : j < 16) : ringN key (16 * i + j) = rkN key i j := by
  unfold ringN
  rw [show (16 * i + j) / 16 = i by omega, show (16 * i + j) % 16 = j by omega]

/-- A cipher whose round keys are not made; one whose are. -/
def Fresh (w : World) (p : Nat) (key : Nat → Nat) : Prop := ∃ x, RowAt w p 71 (rowOf 179 (cipV 0 0 x)) ∧ ∀ j, j < 16 → x j = key j
def Made (w : World) (p : Nat) (key : Nat → Nat) : Prop := RowAt w p 71 (rowOf 179 (cipV 1 0 (ringN key)))
def Cip (w : World) (p : Nat) (key : Nat → Nat) : Prop := Fresh w p key ∨ Made w p key

theorem Made.below {B p : Nat} {w w' : World} {key : Nat → Nat} (h : Made w p key) (hb : Below B w w') (hp : p < B) : Made w' p key := RowAt.below h hb hp
theorem Fresh.below {B p : Nat} {w w' : World} {key : Nat → Nat} (h : Fresh w p key) (hb : Below B w w') (hp : p < B) : Fresh w' p key := by
  obtain ⟨x, h1, h2⟩ := h
  exact ⟨x, h1.below hb hp, h2⟩
theorem Cip.below {B p : Nat} {w w' : World} {key : Nat → Nat} (h : Cip w p key) (hb : Below B w w') (hp : p < B) : Cip w' p key := by
  rcases h with h | h
  · exact .inl (h.below hb hp)
  · exact .inr (h.below hb hp)
theorem Fresh.lt {w : World} {p : Nat} {key : Nat → Nat} (h : Fresh w p key) : p < w.heap.size := by
  obtain ⟨x, h1, _⟩ := h
  exact h1.lt
theorem Cip.lt {w : World} {p : Nat} {key : Nat → Nat} (h : Cip w p key) : p < w.heap.size := by
  rcases h with h | h
  · exact h.lt
  · exact RowAt.lt h

set_option maxHeartbeats 1000000 in
set_option maxRecDepth 8000 in
theorem new_any (key : Nat → Nat) (w : World) :
    Calls Try.prog 24 #[.agg (rowOf 16 (w8 key))] w fun e w' => ∃ p, e = .returned (.pointer (some ⟨p, 0, none⟩)) ∧ w.heap.size ≤ p ∧ Fresh w' p key ∧ Below w.heap.size w w' := by
  have r0 : Hid (RowAt ((w.alloc (.cells (rowOf 16 (w8 key)) 23)).alloc (.cells (rowOf 179 (cipV 0 0 zeroN)) 71)) w.heap.size 23 (rowOf 16 (w8 key))) := (RowAt.new _ _ _).alloc _
  have r1 : Hid (RowAt ((w.alloc (.cells (rowOf 16 (w8 key)) 23)).alloc (.cells (rowOf 179 (cipV 0 0 zeroN)) 71)) (w.heap.size + 1) 71 (rowOf 179 (cipV 0 0 zeroN))) := by
    have := RowAt.new (w.alloc (.cells (rowOf 16 (w8 key)) 23)) 71 (rowOf 179 (cipV 0 0 zeroN))
    rw [World.size_alloc] at this
    exact this
  have b0 : Below w.heap.size w ((w.alloc (.cells (rowOf 16 (w8 key)) 23)).alloc (.cells (rowOf 179 (cipV 0 0 zeroN)) 71)) := ((Below.refl _ _).alloc (Nat.le_refl _) _).alloc (by simp) _
  go_enter Try.func24, Try.ntmps24
  go_wp2_with (refine wpList_buildTo rfl 71 _ rfl _ rfl (rowOf 179 (cipV 0 0 zeroN)) (by kernel_rfl) ?_)
  refine wp_region_still_tail 5 (by kernel_rfl) (by kernel_rfl) ?_
  change wpStill _ _ (World.drew _) (fun a' => wpList _ _ _ _ a' (World.drew _)) _ _
  replace r0 := Lib.hid r0.out.drew
  replace r1 := Lib.hid r1.out.drew
  replace b0 := b0.drew
  generalize World.drew _ = w9 at *
  simp only [List.take_succ_cons, List.take_zero, List.drop_succ_cons, List.drop_zero]
  refine wpStill_of_quiet _ _ ?_
  (go_big_quiet_want; go_big_quiet_op; go_big_quiet_on)
  refine wpQuiet_load_row (by rfl) 23 _ rfl w.heap.size rfl 23 (rowOf 16 (w8 key)) _ (fun w' hw' => by subst hw'; exact r0.out) Try.underlying23 rfl (info_key _) ?_
  simp only [Act.put, List.setIfInBounds_toArray, List.set_cons_succ, List.set_cons_zero]
  repeat (first | go_big_quiet_skip | (go_big_quiet_want; go_big_quiet_op; go_big_quiet_on))
  refine wpQuiet_nil ?_
  refine wpList_store_at rfl 23 _ _ rfl (w.heap.size + 1) 3 179 16 (cipV 0 0 zeroN) (w8 key) rfl rfl 71 r1.out (by kernel_rfl) (rowOf_cells8 _ _) (by decide) ?_
  have r2 := Lib.hid (r1.out.setRow (rowOf 179 (cipV 0 0 (layK zeroN key 0))))
  have b2 := below_setRow' b0 (show w.heap.size ≤ w.heap.size + 1 by omega) (rowOf 179 (cipV 0 0 (layK zeroN key 0)))
  rw [show rowOf 179 (laidV (cipV 0 0 zeroN) (w8 key) 3 16) = rowOf 179 (cipV 0 0 (layK zeroN key 0)) from cip_lay 0 0 zeroN key 0]
  generalize World.setRow _ _ _ = w3 at *
  clear r0 r1 b0
  go_wp2
  go_ret
  refine ⟨w.heap.size + 1, rfl, by omega, ⟨_, r2.out, fun j hj => ?_⟩, b2⟩
  unfold layK
  rw [if_pos (by omega)]
  rfl

end Go.Proofs.Ytmbkjbkbnigcfaa
