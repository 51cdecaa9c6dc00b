/-
  Rows of cells whose content is a function of the place; the bits of words.
-/
import Derived.Test.YtapebaoajknepaaBytes
import Derived.Test.YtapebaoajknepaaProg
import Derived.Test.YtapebaoajknepaaShaMath
import Derived.WalkKit
import Derived.WalkSpells
import Derived.WalkLawsBesides
import Derived.BigQuiet
import Derived.Deep.QuietTactic
import Derived.Deep.WholeRow
import Derived.Lib.Hide
import Derived.Laws.Bits64
import Derived.Laws.Bits64b
import Derived.Below
namespace Go.Proofs.Ytapebaoajknepaa
open Go.RowKit

/-- n cells, place j holding 'f j'. -/
def rowOf (n : Nat) (f : Nat → Value) : Array Value := ((List.range n).map f).toArray

theorem rowOf_size (n : Nat) (f : Nat → Value) : (rowOf n f).size = n := by simp [rowOf]

theorem rowOf_get (n : Nat) (f : Nat → Value) (j : Nat) (h : j < n) : (rowOf n f)[j]? = some (f j) := by
  simp [rowOf, h]

theorem rowOf_congr {n : Nat} {f g : Nat → Value} (h : ∀ j, j < n → f j = g j) : rowOf n f = rowOf n g := by
  unfold rowOf
  congr 1
  apply List.map_congr_left
  intro j hj
  exact h j (by simpa using hj)

theorem rowOf_set (n : Nat) (f : Nat → Value) (i : Nat) (v : Value) : (rowOf n f).setIfInBounds i v = rowOf n (fun j => if j = i then v else f j) := by
  apply Array.ext
  · simp [rowOf]
  · intro j h1 h2
    simp [rowOf, List.getElem_set]
    by_cases e : i = j
    · subst e; simp
    · rw [if_neg e, if_neg (fun h => e h.symm)]

/-- Words, as cells. -/
def w32 (f : Nat → Nat) : Nat → Value := fun j => .int .u32 (f j : Nat)
def w64 (f : Nat → Nat) : Nat → Value := fun j => .int .u64 (f j : Nat)
def w8 (f : Nat → Nat) : Nat → Value := fun j => .int .u8 (f j : Nat)

theorem rowOf_cells32 (n : Nat) (f : Nat → Nat) : (rowOf n (w32 f)).all (·.oneCell') = true := by
  rw [Array.all_eq_true_iff_forall_mem]
  intro v hv
  unfold rowOf at hv
  simp only [List.mem_toArray, List.mem_map] at hv
  obtain ⟨b, _, rfl⟩ := hv
  rfl
theorem rowOf_cells64 (n : Nat) (f : Nat → Nat) : (rowOf n (w64 f)).all (·.oneCell') = true := by
  rw [Array.all_eq_true_iff_forall_mem]
  intro v hv
  unfold rowOf at hv
  simp only [List.mem_toArray, List.mem_map] at hv
  obtain ⟨b, _, rfl⟩ := hv
  rfl
theorem rowOf_cells8 (n : Nat) (f : Nat → Nat) : (rowOf n (w8 f)).all (·.oneCell') = true := by
  rw [Array.all_eq_true_iff_forall_mem]
  intro v hv
  unfold rowOf at hv
  simp only [List.mem_toArray, List.mem_map] at hv
  obtain ⟨b, _, rfl⟩ := hv
  rfl

theorem rowOf_upd32 (n : Nat) (f : Nat → Nat) (i v : Nat) : (rowOf n (w32 f)).setIfInBounds i (.int .u32 (v : Nat)) = rowOf n (w32 (upd f i v)) := by
  rw [rowOf_set]
  congr 1
  funext j
  unfold w32 upd
  split <;> rfl
theorem rowOf_upd64 (n : Nat) (f : Nat → Nat) (i v : Nat) : (rowOf n (w64 f)).setIfInBounds i (.int .u64 (v : Nat)) = rowOf n (w64 (upd f i v)) := by
  rw [rowOf_set]
  congr 1
  funext j
  unfold w64 upd
  split <;> rfl
theorem rowOf_upd8 (n : Nat) (f : Nat → Nat) (i v : Nat) : (rowOf n (w8 f)).setIfInBounds i (.int .u8 (v : Nat)) = rowOf n (w8 (upd f i v)) := by
  rw [rowOf_set]
  congr 1
  funext j
  unfold w8 upd
  split <;> rfl

/-- A block of the call's own: a row. -/
def RowAt (w : World) (p : Nat) (t : TypeId) (cs : Array Value) : Prop := w.heap[p]? = some (.cells cs t (0, 0))

theorem RowAt.cell {w : World} {p n : Nat} {t : TypeId} {f : Nat → Value} (h : RowAt w p t (rowOf n f)) (j : Nat) (hj : j < n) : w.cell? ⟨p, j, none⟩ = some (f j) := by
  rw [cell_of_row w p j _ _ _ h, rowOf_get n f j hj]
theorem RowAt.free {w : World} {p : Nat} {t : TypeId} {cs : Array Value} (h : RowAt w p t cs) (j : Nat) : w.frozen? ⟨p, j, none⟩ = false := frozen_of_row w p j cs _ h
theorem RowAt.below {B p : Nat} {t : TypeId} {cs : Array Value} {w w' : World} (h : RowAt w p t cs) (hb : Below B w w') (hp : p < B) : RowAt w' p t cs := (hb.block p hp).trans h
theorem RowAt.lt {w : World} {p : Nat} {t : TypeId} {cs : Array Value} (h : RowAt w p t cs) : p < w.heap.size := by
  unfold RowAt at h
  exact (Array.getElem?_eq_some_iff.1 h).1
theorem RowAt.setOther {w : World} {p : Nat} {t : TypeId} {cs : Array Value} (h : RowAt w p t cs) (a : Addr) (v : Value) (hne : p ≠ a.block) : RowAt (w.setCell a v) p t cs := by
  unfold RowAt
  rw [heap_setCell_other _ _ _ _ hne]
  exact h
theorem RowAt.set {w : World} {p : Nat} {t : TypeId} {cs : Array Value} (h : RowAt w p t cs) (i : Nat) (v : Value) : RowAt (w.setCell ⟨p, i, none⟩ v) p t (cs.setIfInBounds i v) :=
  heap_setCell_same w p i cs _ _ h
theorem RowAt.alloc {w : World} {p : Nat} {t : TypeId} {cs : Array Value} (h : RowAt w p t cs) (o : Obj) : RowAt (w.alloc o) p t cs := by
  unfold RowAt
  rw [Below.heap_alloc _ _ _ h.lt]
  exact h
theorem RowAt.drew {w : World} {p : Nat} {t : TypeId} {cs : Array Value} (h : RowAt w p t cs) : RowAt w.drew p t cs := h
theorem RowAt.drewN {w : World} {p : Nat} {t : TypeId} {cs : Array Value} (h : RowAt w p t cs) (n : Nat) : RowAt (w.drewN n) p t cs := h
theorem RowAt.new (w : World) (t : TypeId) (cs : Array Value) : RowAt (w.alloc (.cells cs t (0, 0))) w.heap.size t cs := heap_alloc_new w _
theorem RowAt.setRow {w : World} {p : Nat} {t : TypeId} {cs : Array Value} (h : RowAt w p t cs) (ds : Array Value) : RowAt (w.setRow p ds) p t ds := setRow_heap w p cs ds t _ h
theorem RowAt.setRowOther {w : World} {p : Nat} {t : TypeId} {cs : Array Value} (h : RowAt w p t cs) (g : Nat) (ds : Array Value) (hne : p ≠ g) : RowAt (w.setRow g ds) p t cs := by
  unfold RowAt
  rw [setRow_other w g p ds hne]
  exact h
theorem RowAt.congr {w : World} {p : Nat} {t : TypeId} {cs ds : Array Value} (h : RowAt w p t cs) (e : cs = ds) : RowAt w p t ds := e ▸ h

/-! Slices of an array that lies in a block of its own. -/
section
variable {P : Program} {ty e : TypeId} {n : Nat}
theorem sizeOf_one (hs : (P.info? e).map (·.size) = some 1) (w : World) : (sizeOf e).run P w = .ok 1 w := by
  cases hq : P.info? e with
  | none => simp [hq] at hs
  | some i => simp [hq] at hs; simp [sizeOf, typeInfo, hq, hs]

theorem run_slice_lh (hu : P.underlying ty = some (.array n e)) (hs : (P.info? e).map (·.size) = some 1) (g : Nat) (l h : Int) (l' h' : Nat) (el : l = l') (eh : h = h') (h1 : l' < n) (h2 : l' ≤ h') (h3 : h' ≤ n) (w : World) :
    (Instr.sliceAt ty (.pointer (some ⟨g, 0, none⟩)) (some (.int .i64 l)) (some (.int .i64 h)) none).run P w = .ok (.slice (some ⟨g, l', none⟩) (h' - l') (n - l')) w := by
  subst el eh
  have hn : P.arrayLen ty = n := by simp [Program.arrayLen, hu]
  have he : P.elem ty = e := by simp [Program.elem, hu]
  have ht : P.underlying ty = some (.array (P.arrayLen ty) (P.elem ty)) := by rw [hn, he, hu]
  rw [run_sliceAt_array_lh w ty _ ht .i64 .i64 _ _ (by omega) (by omega) (by omega), he, sizeOf_one hs, hn]
  have : n ≠ l' := by omega
  simp [slicedAt, Result.andThen, this, Addr.add]
  exact fun h => h.symm

theorem run_slice_l (hu : P.underlying ty = some (.array n e)) (hs : (P.info? e).map (·.size) = some 1) (g : Nat) (l : Int) (l' : Nat) (el : l = l') (h1 : l' < n) (w : World) :
    (Instr.sliceAt ty (.pointer (some ⟨g, 0, none⟩)) (some (.int .i64 l)) none none).run P w = .ok (.slice (some ⟨g, l', none⟩) (n - l') (n - l')) w := by
  subst el
  have hn : P.arrayLen ty = n := by simp [Program.arrayLen, hu]
  have he : P.elem ty = e := by simp [Program.elem, hu]
  have ht : P.underlying ty = some (.array (P.arrayLen ty) (P.elem ty)) := by rw [hn, he, hu]
  rw [run_sliceAt_array_l w ty _ ht .i64 _ (by omega) (by omega), he, sizeOf_one hs, hn]
  have : n ≠ l' := by omega
  simp [slicedAt, Result.andThen, this, Addr.add]
  exact fun h => h.symm

theorem run_slice_all (hu : P.underlying ty = some (.array n e)) (hs : (P.info? e).map (·.size) = some 1) (g : Nat) (w : World) :
    (Instr.sliceAt ty (.pointer (some ⟨g, 0, none⟩)) none none none).run P w = .ok (.slice (some ⟨g, 0, none⟩) n n) w := by
  have hn : P.arrayLen ty = n := by simp [Program.arrayLen, hu]
  have he : P.elem ty = e := by simp [Program.elem, hu]
  have ht : P.underlying ty = some (.array (P.arrayLen ty) (P.elem ty)) := by rw [hn, he, hu]
  rw [run_sliceAt_array_all w ty _ ht, he, sizeOf_one hs, hn]
  by_cases h0 : n = 0
  · simp [slicedAt, Result.andThen, h0]
  · simp [slicedAt, Result.andThen, h0, Addr.add]
end

/-! Bits. -/
theorem bits_xor_u32_nat (a b : Nat) (ha : a < 4294967296) (hb : b < 4294967296) : bits .xor .u32 a b = ((a ^^^ b : Nat) : Int) := by
  have hx := xor_lt a b ha hb
  have ha' : a % 2 ^ 32 = a := Nat.mod_eq_of_lt ha
  have hb' : b % 2 ^ 32 = b := Nat.mod_eq_of_lt hb
  show IntKind.u32.wrap ((BitVec.ofInt 32 a ^^^ BitVec.ofInt 32 b).toNat : Nat) = _
  rw [BitVec.ofInt_natCast, BitVec.ofInt_natCast, BitVec.toNat_xor, BitVec.toNat_ofNat, BitVec.toNat_ofNat, ha', hb', IntKind.wrap_u32]
  omega
theorem wraps_u32 (n : Int) (h₀ : 0 ≤ n) (h₁ : n < 2 ^ 32) : IntKind.u32.wrap n = n := by rw [IntKind.wrap_u32]; omega
theorem bits_and_u32_nat (a b : Nat) (ha : a < 4294967296) (hb : b < 4294967296) : bits .and .u32 a b = ((a &&& b : Nat) : Int) :=
  (bits_nat .u32 32 (by decide) wraps_u32 a b ha hb).1
theorem bits_or_u32_nat (a b : Nat) (ha : a < 4294967296) (hb : b < 4294967296) : bits .or .u32 a b = ((a ||| b : Nat) : Int) :=
  (bits_nat .u32 32 (by decide) wraps_u32 a b ha hb).2

/-! The turn. -/
theorem rot_count (n : Nat) (h1 : 1 ≤ n) (h2 : n ≤ 31) : bits .and .u64 (IntKind.u64.wrap (-(n : Int))) 31 = ((32 - n : Nat) : Int) := by
  have e : IntKind.u64.wrap (-(n : Int)) = ((18446744073709551616 - n : Nat) : Int) := by
    simp [IntKind.wrap, IntKind.bits, IntKind.signed]
    omega
  have e2 : (18446744073709551616 - n) &&& 31 = 32 - n := by
    rw [show (31 : Nat) = 2 ^ 5 - 1 by rfl, Nat.and_two_pow_sub_one_eq_mod]
    omega
  rw [e, show (31 : Int) = ((31 : Nat) : Int) by rfl, bits_and_u64_nat _ _ (by omega) (by decide), e2]

theorem rot_value (x n : Nat) (hx : x < 4294967296) (h1 : 1 ≤ n) (h2 : n ≤ 31) (c : Nat) (hc : c = 32 - n) :
    bits .or .u32 ((x : Int) * 2 ^ c % 4294967296) ((x : Int) / 2 ^ (32 - c)) = ((rotr x n : Nat) : Int) := by
  subst hc
  have e1 : 32 - (32 - n) = n := by omega
  rw [e1]
  have e2 : (x : Int) * 2 ^ (32 - n) % 4294967296 = ((x * 2 ^ (32 - n) % 4294967296 : Nat) : Int) := by simp
  have e3 : (x : Int) / 2 ^ n = ((x / 2 ^ n : Nat) : Int) := by simp
  have l1 : x * 2 ^ (32 - n) % 4294967296 < 4294967296 := Nat.mod_lt _ (by decide)
  have l2 : x / 2 ^ n < 4294967296 := Nat.lt_of_le_of_lt (Nat.div_le_self _ _) hx
  rw [e2, e3, bits_or_u32_nat _ _ l1 l2, rotr_or x n hx h1 h2]

end Go.Proofs.Ytapebaoajknepaa
