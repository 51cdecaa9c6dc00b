/-
  The first bytes of an array in a block, as a text.
-/
import Derived.Test.YtcglbbkphgdnmaaDoorListB
namespace Go.Proofs.YtcglbbkphgdnmaaDoor
open Go.RowKit

section
variable {P : Program} {ty e : TypeId} {n : Nat}
/-- The first h bytes of an array in a block of its own. -/
theorem run_slice_h (hu : P.underlying ty = some (.array n e)) (hs : (P.info? e).map (·.size) = some 1) (g : Nat) (h : Int) (h' : Nat) (eh : h = h') (h2 : h' ≤ n) (h3 : 0 < n) (w : World) :
    (Instr.sliceAt ty (.pointer (some ⟨g, 0, none⟩)) none (some (.int .i64 h)) none).run P w = .ok (.slice (some ⟨g, 0, none⟩) h' n) w := by
  subst eh
  have hn : P.arrayLen ty = n := by simp [Program.arrayLen, hu]
  have he : P.elem ty = e := by simp [Program.elem, hu]
  have ht : P.underlying ty = some (.array (P.arrayLen ty) (P.elem ty)) := by rw [hn, he, hu]
  rw [run_sliceAt_array_h w ty _ ht .i64 _ (by omega) (by omega), he, sizeOf_one hs, hn]
  have : n ≠ 0 := by omega
  simp [slicedAt, Result.andThen, this, Addr.add]
end

/-- The first m bytes of a row, as a text. -/
theorem block_head {P : Program} {w : World} {t e src dst : TypeId} {g n m cap : Nat} {f : Nat → Nat} (hf : Bytes f) (hm : m ≤ n) (hs : P.underlying src = some (.slice e)) (he : P.underlying e = some (.int .u8)) (hd : P.underlying dst = some .string)
    (h : RowAt w g t (rowOf n (w8 f))) : (convert src dst (.slice (some ⟨g, 0, none⟩) m cap)).run P w = .ok (.string (bs (listB m f))) w := by
  have := run_convert_bytes_back (P := P) w src dst e ⟨g, 0, none⟩ cap (listB m f) hs he hd (fun j hj => ?_)
  · rw [listB_length] at this
    exact this
  · rw [listB_length] at hj
    have ha : (⟨g, 0, none⟩ : Addr).add j = ⟨g, j, none⟩ := by unfold Addr.add; split <;> simp_all
    have hx : (listB m f)[j]'(by rw [listB_length]; exact hj) = UInt8.ofNat (f j) := by simp [listB]
    rw [ha, h.cell j (by omega), hx, UInt8.toNat_ofNat', Nat.mod_eq_of_lt (hf j)]
    rfl

end Go.Proofs.YtcglbbkphgdnmaaDoor
