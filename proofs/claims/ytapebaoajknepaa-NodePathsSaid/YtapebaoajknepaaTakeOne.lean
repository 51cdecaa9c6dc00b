/-
  Bytes taken one by one from the beginning of a text (takeByte), and what goes with it.
-/
import Derived.Test.YtapebaoajknepaaNum
import Derived.Lib.Strings
namespace Go.Proofs.Ytapebaoajknepaa
open Go.RowKit

theorem ba_ext {a b : ByteArray} (h : a.data.toList = b.data.toList) : a = b := by
  cases a; cases b; simp at h; subst h; rfl

theorem ba_size (s : ByteArray) : s.data.toList.length = s.size := by simp

theorem ba_drop (s : ByteArray) (k : Nat) : (s.extract k s.size).data.toList = s.data.toList.drop k := by
  rw [Lib.extract_data]
  exact List.take_of_length_le (by rw [List.length_drop, ba_size]; exact Nat.le_refl _)

theorem ba_cons_rest {s r : ByteArray} {b : UInt8} (h : s.data.toList = b :: r.data.toList) : s.extract 1 s.size = r := by
  apply ba_ext
  rw [ba_drop, h]
  rfl

theorem ba_cons_pos {s r : ByteArray} {b : UInt8} (h : s.data.toList = b :: r.data.toList) : 0 < s.size := by
  rw [← ba_size, h]; simp

theorem ba_cons_head {s r : ByteArray} {b : UInt8} (h : s.data.toList = b :: r.data.toList) (h0 : 0 < s.size) : s[0] = b := by
  have : s.data.toList[0]? = some b := by rw [h]; rfl
  rw [List.getElem?_eq_some_iff] at this
  obtain ⟨h1, h2⟩ := this
  rw [← h2]
  rfl

set_option maxHeartbeats 400000 in
set_option maxRecDepth 8000 in
theorem takeByte_yes (s r : ByteArray) (b : UInt8) (h : Hid (s.data.toList = b :: r.data.toList)) (w : World) :
    Calls Try.prog 51 #[.string s] w fun e w' => e = .returned (.tuple #[.int .u8 (b.toNat : Int), .string r, .int .i64 0]) ∧ ∃ n, w' = w.drewN n := by
  have hp := ba_cons_pos h.out
  have h0 : ((s.size : Int) == 0) = false := beq_eq_false_iff_ne.2 (by omega)
  have h1 : (0 : Int) < s.size := by omega
  have h2 : (1 : Int) ≤ s.size := by omega
  have E1 := Lib.hid (ba_cons_rest h.out)
  have E2 := Lib.hid (ba_cons_head h.out hp)
  go_enter Try.func51, Try.ntmps51
  go_wp2
  go_quiet (fail)
  go_wp2
  go_ret3
  exact ⟨by rw [← E1.out, ← E2.out]; rfl, _, rfl⟩

set_option maxHeartbeats 400000 in
set_option maxRecDepth 8000 in
theorem takeByte_no (s : ByteArray) (h : s.size = 0) (w : World) :
    Calls Try.prog 51 #[.string s] w fun e w' => e = .returned (.tuple #[.int .u8 0, .string (bs []), .int .i64 10]) ∧ w = w' := by
  have h0 : ((s.size : Int) == 0) = true := beq_iff_eq.2 (by omega)
  go_enter Try.func51, Try.ntmps51
  go_wp2
  go_ret3
  exact ⟨rfl, rfl⟩

theorem list_more {α : Type} {L tk rest : List α} {j k : Nat} (h : L = tk ++ rest) (hj : tk.length = j) (hk : j < k) (hL : k ≤ L.length) : ∃ b r, rest = b :: r := by
  cases rest with
  | nil => simp at h; subst h; omega
  | cons b r => exact ⟨b, r, rfl⟩

theorem list_end {α : Type} {L tk rest : List α} {j : Nat} (h : L = tk ++ rest) (hj : tk.length = j) : tk = L.take j ∧ rest = L.drop j := by
  subst hj; subst h; simp

/-- What takeEach leaves where bytes are missed. -/
def EachShort (base : Nat) (w : World) (e : Ending) (w' : World) : Prop :=
  e = .returned (.tuple #[.string (bs []), .int .i64 10]) ∧ Below base w w'

theorem heap_new2 (w : World) (o1 o2 : Obj) : ((w.alloc o1).alloc o2).heap[w.heap.size + 1]? = some o2 := by
  have h := heap_alloc_new (w.alloc o1) o2
  rwa [World.size_alloc] at h

theorem bs_app (a : List UInt8) (s : ByteArray) : bs a ++ s = bs (a ++ s.data.toList) := by
  apply ba_ext
  simp [bs]

theorem ba_take (s : ByteArray) (k : Nat) : (s.extract 0 k).data.toList = s.data.toList.take k := by
  rw [Lib.extract_data]; simp

end Go.Proofs.Ytapebaoajknepaa
