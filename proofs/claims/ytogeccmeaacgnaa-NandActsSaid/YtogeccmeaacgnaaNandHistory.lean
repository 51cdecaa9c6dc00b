/-
  Contracts: slices.Clone of texts; History.
-/
import Derived.Test.YtogeccmeaacgnaaNandSmall
import Derived.Test.YtogeccmeaacgnaaNandText
import Derived.Test.YtogeccmeaacgnaaAppV
namespace Go.Proofs.Ytogeccmeaacgnaa
open Go.RowKit
set_option linter.unusedVariables false

theorem eqIn_nilS (d : Nat) (a : Option Addr) (n c : Nat) (w : World) : (Op.equalIn (d + 1) 34 (.slice a n c) (.slice none 0 0)).run Try.prog w = .ok a.isNone w := by
  cases a <;> simp [Op.equalIn, run_underlying Try.underlying34]
theorem eql_nilS (a : Option Addr) (n c : Nat) (w : World) : (binOp .eql 34 (.slice a n c) (.slice none 0 0)).run Try.prog w = .ok (.bool a.isNone) w := by
  have e2 : (Op.equal 34 (.slice a n c) (.slice none 0 0)).run Try.prog w = .ok a.isNone w := eqIn_nilS 9999 a n c w
  simp [binOp, e2]
theorem infoStr' : (Try.prog.info? 9).map (fun i => (i.zero, i.size, i.bytes)) = some (some (.string ⟨#[]⟩), 1, 16) := by kernel_rfl

def lstS (l : List ByteArray) : Nat → Value := fun j => .string (l.getD j ⟨#[]⟩)
theorem cellL_lst (l : List ByteArray) : cellL l.length (lstS l) = l.map .string := by
  apply List.ext_getElem
  · simp [cellL]
  · intro j h1 h2
    simp [cellL] at h1
    simp [cellL, lstS, h1]

theorem sz_str : (Try.prog.info? 9).map (·.size) = some 1 := by kernel_rfl
theorem el_strs : Try.prog.elem 34 = 9 := by kernel_rfl
theorem at_strs {w0 : World} {ad : Option Addr} {n c i : Nat} {F : Nat → Value} (h : SeesV w0 ad n F) (hi : i < n) {o : Oper} {a : Act} {x y : Operand} (ho : o.op = .indexAddr 34 x y) (hx : a.eval x = .slice ad n c) {z : Int} (hy : a.eval y = .int .i64 z) (hz : z = (i : Int)) (w : World) :
    (execOp a.eval o).run Try.prog w = .ok (.value (.pointer (some (elV ad i)))) w := by
  have := run_index_v Try.underlying34 el_strs sz_str (k := 1) (n := n) (by rw [Nat.mul_one]; exact h) (by decide) hi ho hx hy hz w
  rwa [Nat.mul_one] at this
theorem get_str {w : World} {ad : Option Addr} {m : Nat} {s : ByteArray} (hc : w.cell? (elV ad m) = some (.string s)) {o : Oper} {a : Act} {x : Operand} (ho : o.op = .load 9 x) (hx : a.eval x = .pointer (some (elV ad m))) :
    (execOp a.eval o).run Try.prog w = .ok (.value (.string s)) w := run_load_one hc Try.underlying9 rfl ho hx

/-- What History tells: the texts, in memory of its own, or nil. -/
def HistEnd (l : List ByteArray) (w : World) (e : Ending) (w' : World) : Prop := ∃ a c, e = .returned (.slice a l.length c) ∧ Hid (SeesV w' a l.length (lstS l)) ∧ Below w.heap.size w w'

set_option maxHeartbeats 1000000 in
set_option maxRecDepth 8000 in
theorem cloneS_some (l : List ByteArray) (hm : l.length ≤ 1000000) (p c : Nat) (w : World) (h1 : Hid (SeesV w (some ⟨p, 0, none⟩) l.length (lstS l))) :
    Calls Try.prog 46 #[.slice (some ⟨p, 0, none⟩) l.length c] w (HistEnd l w) := by
  have e0 := eql_nilS (some ⟨p, 0, none⟩) l.length c
  rw [Option.isNone_some] at e0
  have o0 : Hid ((w.alloc (.cells #[] 9)).ownsRow w.heap.size 9 1 (.slice (some ⟨w.heap.size, 0, none⟩) 0 0) 0 []) := World.ownsRow_made w #[] 0 (Nat.le_refl _) (by decide) rfl
  have b0 : Below w.heap.size w (w.alloc (.cells #[] 9)) := (Below.refl _ _).alloc (Nat.le_refl _) _
  have s1 := Lib.hid (h1.out.after b0)
  go_enter Try.func46, Try.ntmps46
  go_wp2_with (first | (refine wpList_append_V Try.underlying34 infoStr' rfl (by decide) rfl _ _ rfl w.heap.size _ 0 [] rfl o0.out b0.size (some ⟨p, 0, none⟩) l.length c rfl (lstS l) s1.out (fun _ => rfl) (by omega) hm (fun e => by cases e) ?_; intro v2 w2 h2 h3 h4 h5; refine Hid.out ?_))
  unfold Hid
  have h6 := h2.out
  rw [List.nil_append, Nat.zero_add] at h6
  obtain ⟨a', c', rfl, hs, _⟩ := own_seesV h6 (F := lstS l) (fun m hm => cellL_get _ _ m (by omega))
  rw [Nat.mul_one] at hs
  replace hs := Lib.hid hs
  have b2 := b0.trans h4.out
  clear h2 h3 h4 h5 h6
  go_wp2
  go_ret
  exact ⟨_, _, rfl, hs, b2⟩

set_option maxRecDepth 8000 in
theorem cloneS_nil (w : World) : Calls Try.prog 46 #[.slice none 0 0] w (HistEnd [] w) := by
  have e0 := eql_nilS none 0 0
  rw [Option.isNone_none] at e0
  go_enter Try.func46, Try.ntmps46
  go_wp2
  go_ret
  exact ⟨_, _, rfl, .nil _ _ _, Below.refl _ _⟩

set_option maxRecDepth 8000 in
theorem history_any (B : Nat) (w : World) (L : Lay) (S : St) (hv : Value) (h : Hid (Ch B w L S hv)) (hm : S.hist.length ≤ 1000000) :
    Calls Try.prog 29 #[.pointer (some ⟨L.cp, 0, none⟩)] w (HistEnd S.hist w) := by
  have C : Hid (Calls Try.prog 46 #[hv] w (HistEnd S.hist w)) := by
    have ho := h.out.hist
    rcases ho.2 with ⟨e1, e2⟩ | ⟨g, cap, cur, e1, _⟩
    · rw [e1, List.eq_nil_of_length_eq_zero e2]
      exact cloneS_nil w
    · obtain ⟨a', c', e3, hs, _⟩ := own_seesV ho (F := lstS S.hist) (fun m hm => by rw [← cellL_lst]; exact cellL_get _ _ m (by omega))
      rw [Nat.mul_one] at hs
      rw [e1] at e3
      cases e3
      rw [e1]
      exact cloneS_some S.hist hm g cap w hs
  have c3 := h.out.c3
  go_enter Try.func29, Try.ntmps29
  go_wp2_with fail
  refine C.out.mono ?_
  rintro e w1 ⟨a, c, rfl, hs, hb⟩
  go_wp2
  go_ret
  exact ⟨a, c, rfl, hs, hb⟩

end Go.Proofs.Ytogeccmeaacgnaa
