/-
  What the texts of several layers share: bytes as values and as texts, slices of texts that came in, whole rows.
-/
import Derived.Test.YtapebaoajknepaaProg
import Derived.WalkKit
import Derived.WalkSpells
import Derived.WalkLawsBesides
import Derived.BigQuiet
import Derived.Deep.QuietTactic
import Derived.Deep.WholeRow
import Derived.Lib.Hide
import Derived.Below
import Derived.Laws.AppendOwn
import Derived.OwnWalk
import Derived.StillTailTactics
namespace Go.Proofs.Ytapebaoajknepaa
open Go.RowKit

/-- A byte as a value; bytes as a string. -/
def bv (b : UInt8) : Value := .int .u8 b.toNat

def bs (l : List UInt8) : ByteArray := ⟨l.toArray⟩

theorem bs_data (s : ByteArray) : bs s.data.toList = s := by
  cases s; rfl

theorem own_string {P : Program} {w : World} {base : Nat} {e src dst : TypeId} {v : Value} {n : Nat} (l : List UInt8) (hs : P.underlying src = some (.slice e)) (he : P.underlying e = some (.int .u8)) (hd : P.underlying dst = some .string)
    (h : w.ownsRow base e 1 v n (l.map bv)) : (convert src dst v).run P w = .ok (.string (bs l)) w := by
  have hl : l.length = n := by simpa using h.1
  subst hl
  rcases h.2 with ⟨rfl, h0⟩ | ⟨g, cap, cur, rfl, _, _, _⟩
  · have : l = [] := List.eq_nil_of_length_eq_zero h0
    subst this
    exact run_convert_bytes_nil w src e hs he 0 0 dst hd
  · refine run_convert_bytes_back w src dst e _ cap l hs he hd (fun j hj => ?_)
    refine h.cells rfl j _ ?_
    simp [bv, List.getElem?_eq_getElem hj]

theorem Try.info5 : (Try.prog.info? 5).map (fun i => (i.zero, i.size, i.bytes)) = some (some (.int .u8 0), 1, 1) := by kernel_rfl

theorem below_setRow' {B : Nat} {a w : World} (h : Below B a w) {g : Nat} (hg : B ≤ g) (cs : Array Value) : Below B a (w.setRow g cs) :=
  h.trans ⟨rfl, rfl, rfl, by simp, fun k hk => setRow_other w g k cs (by omega)⟩

/-- What is told of a slice of texts that came in. -/
def CameStrs (w : World) (a : Option Addr) (len cap : Nat) (ss : List ByteArray) : Prop :=
  ss.length = len ∧ len ≤ cap ∧ cap ≤ maxLen ∧ (∀ s ∈ ss, s.size ≤ maxLen) ∧ ∀ j (h : j < ss.length), ∃ ad, a = some ad ∧ ad.block < w.heap.size ∧ w.cell? (ad.add j) = some (.string ss[j])

theorem cameStrs_nil (w : World) : CameStrs w none 0 0 [] := ⟨rfl, Nat.le_refl _, by decide, by simp, fun j h => by simp at h⟩

theorem block_add (a : Addr) (n : Nat) : (a.add n).block = a.block := by unfold Addr.add; split <;> rfl

theorem cameStrs_some {w : World} {x : Addr} {len cap : Nat} {ss : List ByteArray} (hl : len ≤ cap) (hm : cap ≤ maxLen) (hz : ss.length = cap)
    (hcell : ∀ i, i < ss.length → w.cell? (x.add i) = some (.string (ss.getD i ByteArray.empty))) (hw : ∀ s ∈ ss, s.size ≤ maxLen) : CameStrs w (some x) len cap (ss.take len) := by
  refine ⟨by simp; omega, hl, hm, fun s hs => hw s (List.mem_of_mem_take hs), fun j h => ?_⟩
  have hj : j < ss.length := by simp at h; omega
  have hc := hcell j hj
  refine ⟨x, rfl, ?_, ?_⟩
  · have := World.block_lt_of_cell? w _ hc
    rwa [block_add] at this
  · rw [hc, List.getElem_take]
    simp [List.getD, List.getElem?_eq_getElem hj]

/-- The texts of a list lie in the cells of a slice. -/
def Sees (w : World) (a : Option Addr) (ss : List ByteArray) : Prop :=
  ∀ j (h : j < ss.length), ∃ ad, a = some ad ∧ ad.block < w.heap.size ∧ w.cell? (ad.add j) = some (.string ss[j])

theorem Sees.below {B : Nat} {w w' : World} {a : Option Addr} {ss : List ByteArray} (h : Sees w a ss) (hb : Below B w w') (hB : w.heap.size ≤ B) : Sees w' a ss := fun j hj => by
  obtain ⟨ad, e, hl, hc⟩ := h j hj
  exact ⟨ad, e, Nat.lt_of_lt_of_le hl hb.size, (hb.cell (by rw [block_add]; omega)).trans hc⟩

theorem wpStill_load_row {P : Program} {ops : Array Oper} {rest : List Oper} {o : Oper} {a : Act} {w : World} {Q : Act → Prop} (hgd : o.guard = none) (ty : TypeId) (x : Operand) (ho : o.op = .load ty x)
    (g : Nat) (hx : a.eval x = .pointer (some ⟨g, 0, none⟩)) (t : TypeId) (cs : Array Value) (fr : Nat × Nat) (d : TypeDesc) (hg : w.heap[g]? = some (.cells cs t fr))
    (hu : P.underlying ty = some d) (hd : (match d with | .struct _ | .array _ _ => true | _ => false) = true) (hi : (P.info? ty).map (·.size) = some cs.size)
    (h : wpStill P ops w Q rest (a.put o.dst (.agg cs))) : wpStill P ops w Q (o :: rest) a := by
  refine wpStill_step (fun K hK => ?_)
  have hw : Region.wanted o (yielded ops a.tmps) = true := by simp [Region.wanted, hgd]
  rw [if_pos hw]
  unfold Oper.still execOp
  simp only [ho, hx, Instr.loadAt, Instr.sureAddr, Sem.run_bind, Sem.run_pure, Result.andThen_ok, run_loadVar_row w g t ty cs fr d hg hu hd hi]
  exact ⟨rfl, hK _ h⟩

end Go.Proofs.Ytapebaoajknepaa
