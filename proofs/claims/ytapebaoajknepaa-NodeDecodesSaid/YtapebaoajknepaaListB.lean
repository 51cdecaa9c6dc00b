/-
  Bytes as places of a function.
-/
import Derived.Test.YtapebaoajknepaaShaRows
import Derived.Test.YtapebaoajknepaaMath
namespace Go.Proofs.Ytapebaoajknepaa
open Go.RowKit

/-- n places of a function, as bytes. -/
def listB (n : Nat) (f : Nat → Nat) : List UInt8 := (List.range n).map fun j => UInt8.ofNat (f j)

theorem listB_length (n : Nat) (f : Nat → Nat) : (listB n f).length = n := by simp [listB]

theorem listB_congr {n : Nat} {f g : Nat → Nat} (h : ∀ j, j < n → f j = g j) : listB n f = listB n g := by
  unfold listB
  apply List.map_congr_left
  intro j hj
  rw [h j (by simpa using hj)]

theorem listB_succ (n : Nat) (f : Nat → Nat) : listB (n + 1) f = listB n f ++ [UInt8.ofNat (f n)] := by
  unfold listB
  rw [List.range_succ, List.map_append]
  rfl

theorem xor_byte {a b : Nat} (ha : a < 256) (hb : b < 256) : a ^^^ b < 256 := Nat.xor_lt_two_pow (n := 8) ha hb

/-- A row of bytes in a block of any type, as a text. -/
theorem block_string {P : Program} {w : World} {t e src dst : TypeId} {g n cap : Nat} {f : Nat → Nat} (hf : Bytes f) (hs : P.underlying src = some (.slice e)) (he : P.underlying e = some (.int .u8)) (hd : P.underlying dst = some .string)
    (h : RowAt w g t (rowOf n (w8 f))) : (convert src dst (.slice (some ⟨g, 0, none⟩) n cap)).run P w = .ok (.string (bs (listB n f))) w := by
  have := run_convert_bytes_back (P := P) w src dst e ⟨g, 0, none⟩ cap (listB n f) hs he hd (fun j hj => ?_)
  · rw [listB_length] at this
    exact this
  · rw [listB_length] at hj
    have ha : (⟨g, 0, none⟩ : Addr).add j = ⟨g, j, none⟩ := by unfold Addr.add; split <;> simp_all
    have hx : (listB n f)[j]'(by rw [listB_length]; exact hj) = UInt8.ofNat (f j) := by simp [listB]
    rw [ha, h.cell j hj, hx, UInt8.toNat_ofNat', Nat.mod_eq_of_lt (hf j)]
    rfl

theorem listB_bs (n : Nat) (f : Nat → Nat) : (bs (listB n f)).data.toList = listB n f := rfl
theorem bs_size (l : List UInt8) : (bs l).size = l.length := by show l.toArray.size = _; simp
theorem ofNat_mod256 (m : Nat) : UInt8.ofNat (m % 256) = UInt8.ofNat m := by
  apply UInt8.toNat_inj.1
  simp

theorem numB_list (k n : Nat) : listB k (fun j => n / 256 ^ j % 256) = numB k n := by
  induction k with
  | zero => rfl
  | succ k ih => rw [listB_succ, ih, numB_snoc, ofNat_mod256]

theorem listB_append (a b : Nat) (f : Nat → Nat) : listB (a + b) f = listB a f ++ listB b (fun j => f (a + j)) := by
  induction b with
  | zero => simp [listB]
  | succ b ih => rw [← Nat.add_assoc, listB_succ, listB_succ, ih, List.append_assoc]

theorem listB_take (n m : Nat) (f : Nat → Nat) (h : m ≤ n) : (listB n f).take m = listB m f := by
  obtain ⟨d, rfl⟩ := Nat.exists_eq_add_of_le h
  rw [listB_append, List.take_append_of_le_length (by rw [listB_length]; exact Nat.le_refl _), List.take_of_length_le (by rw [listB_length]; exact Nat.le_refl _)]

theorem listB_drop (n m : Nat) (f : Nat → Nat) (h : m ≤ n) : (listB n f).drop m = listB (n - m) (fun j => f (m + j)) := by
  obtain ⟨d, rfl⟩ := Nat.exists_eq_add_of_le h
  rw [listB_append, List.drop_left' (by rw [listB_length]), show m + d - m = d by omega]

theorem listB_get (n : Nat) (f : Nat → Nat) (j : Nat) (h : j < n) : (listB n f)[j]? = some (UInt8.ofNat (f j)) := by
  unfold listB
  simp [h]

/-- The byte at a place of a text (0 behind its end). -/
def byteS (s : ByteArray) (j : Nat) : Nat := (s.data.toList.getD j 0).toNat

theorem byteS_lt (s : ByteArray) (j : Nat) : byteS s j < 256 := (s.data.toList.getD j 0).toNat_lt

theorem listB_byteS (s : ByteArray) : listB s.data.toList.length (byteS s) = s.data.toList := by
  apply List.ext_getElem?
  intro j
  by_cases h : j < s.data.toList.length
  · rw [listB_get _ _ _ h]
    unfold byteS
    rw [List.getD_eq_getElem?_getD, List.getElem?_eq_getElem h]
    simp
  · rw [List.getElem?_eq_none (by rw [listB_length]; omega), List.getElem?_eq_none (by omega)]

end Go.Proofs.Ytapebaoajknepaa
