/-
  A page that is whole; bytes 0 made behind a guard.
-/
import Derived.Test.YtogeccmeaacgnaaNandLow
import Derived.Test.YtogeccmeaacgnaaMakeV
namespace Go.Proofs.Ytogeccmeaacgnaa
open Go.RowKit
set_option linter.unusedVariables false

theorem wpList_wmake_row {P : Program} {S T : TypeId} {z : Value} {k bytes : Nat} {F : Nat → Value} {m : Nat} {ops : Array Oper} {rest : List Oper} {o : Oper} {a : Act} {w : World} {Q : Exit → Act → World → Prop} (hu : P.underlying S = some (.slice T)) (hi : (P.info? T).map (fun i => (i.zero, i.size, i.bytes)) = some (some z, k, bytes)) (hF : ∀ j, j < m * k → z.cells[j % z.cells.size]! = F j) (hm : m ≤ 1000000) (hk : k ≤ 10) (hby : bytes ≤ 1000)
    (hw : Region.wanted o (yielded ops a.tmps) = true) {l c : Operand} (ho : o.op = .makeSlice S l c) (hl : a.eval l = .int .i64 (m : Int)) (hc : a.eval c = .int .i64 (m : Int))
    (h : wpList P ops Q rest (a.put o.dst (.slice (some ⟨w.heap.size, 0, none⟩) m m)) (w.alloc (.cells (rowOf (m * k) F) T))) : wpList P ops Q (o :: rest) a w :=
  wpList_want hw fun _ hK => by
    unfold Oper.wp
    simp only [run_make_row hu hi hF hm hk hby ho hl hc, Oper.upon]
    exact hK _ _ h
theorem zero_bytes (n : Nat) : ∀ j, j < n → (Value.int .u8 0).cells[j % (Value.int .u8 0).cells.size]! = w8 zeroN j := by
  intro j _
  show (#[Value.int .u8 0] : Array Value)[j % 1]! = _
  rw [Nat.mod_one]
  rfl

theorem pageT_full (s : ByteArray) (h : s.size ≤ 256) : s ++ bs (listB (256 - s.size) zeroN) = pageT s 9223372036854775807 0 := by
  have hl : s.data.toList.length = s.size := by simp
  have e : s.data.toList ++ listB (256 - s.size) zeroN = listB 256 (pageN s 9223372036854775807 0) := by
    apply List.ext_getElem
    · rw [List.length_append, listB_length, listB_length, hl]
      omega
    · intro j h1 h2
      rw [listB_length] at h2
      have hr : (listB 256 (pageN s 9223372036854775807 0))[j]'(by rw [listB_length]; exact h2) = UInt8.ofNat (pageN s 9223372036854775807 0 j) := by simp [listB]
      rw [hr]
      unfold pageN
      rw [if_pos (by omega)]
      by_cases c : j < s.data.toList.length
      · rw [List.getElem_append_left c]
        unfold byteL
        rw [List.getD_eq_getElem?_getD, List.getElem?_eq_getElem c]
        simp
      · rw [List.getElem_append_right (by omega)]
        rw [byteL_end _ _ (by omega)]
        simp [listB, zeroN]
  unfold pageT
  rw [← e]
  show s ++ bs _ = bs _
  apply Go.WideShapes.bytes_inj
  rw [show (s ++ bs (listB (256 - s.size) zeroN)).data.toList = s.data.toList ++ (bs (listB (256 - s.size) zeroN)).data.toList by simp]
  rfl
end Go.Proofs.Ytogeccmeaacgnaa
