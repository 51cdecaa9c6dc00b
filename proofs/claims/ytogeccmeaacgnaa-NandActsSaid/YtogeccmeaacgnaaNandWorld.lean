/-
  A chip in memory, and its power.
-/
import Derived.Test.YtogeccmeaacgnaaBeside
import Derived.Test.YtogeccmeaacgnaaCopyText
import Derived.Test.YtogeccmeaacgnaaListB
namespace Go.Proofs.Ytogeccmeaacgnaa
open Go.RowKit
set_option linter.unusedVariables false

/-- Power, as it lies. -/
def pw (up : Bool) (left keep : Int) (junk : Nat) : Array Value := #[.bool up, .int .i64 left, .int .i64 keep, .int .u8 (junk : Nat)]

/-- Where a chip lies: its power, itself, its segments, each one's pages; so many of both. -/
structure Lay where
  pp : Nat
  cp : Nat
  sp : Nat
  tp : Nat → Nat
  n : Nat
  m : Nat

/-- What a chip has. -/
structure St where
  up : Bool
  left : Int
  keep : Nat
  junk : Nat
  rated : Int
  wear : Nat → Nat
  bad : Nat → Bool
  page : Nat → Nat → ByteArray
  hist : List ByteArray
  progs : Nat
  erases : Nat

def chipA (L : Lay) (S : St) (hv : Value) : Array Value := #[.pointer (some ⟨L.pp, 0, none⟩), .slice (some ⟨L.sp, 0, none⟩) L.n L.n, .int .i64 S.rated, hv, .int .i64 (S.progs : Nat), .int .i64 (S.erases : Nat)]
def segV (L : Lay) (wear : Nat → Nat) (bad : Nat → Bool) : Nat → Value := fun j => if j % 3 = 0 then .slice (some ⟨L.tp (j / 3), 0, none⟩) L.m L.m else if j % 3 = 1 then .int .i64 (wear (j / 3) : Nat) else .bool (bad (j / 3))
def strV (f : Nat → ByteArray) : Nat → Value := fun j => .string (f j)

theorem segV_0 (L : Lay) (wr : Nat → Nat) (bd : Nat → Bool) (i : Nat) : segV L wr bd (i * 3) = .slice (some ⟨L.tp i, 0, none⟩) L.m L.m := by unfold segV; rw [if_pos (by omega), show i * 3 / 3 = i by omega]
theorem segV_1 (L : Lay) (wr : Nat → Nat) (bd : Nat → Bool) (i : Nat) : segV L wr bd (i * 3 + 1) = .int .i64 (wr i : Nat) := by unfold segV; rw [if_neg (by omega), if_pos (by omega), show (i * 3 + 1) / 3 = i by omega]
theorem segV_2 (L : Lay) (wr : Nat → Nat) (bd : Nat → Bool) (i : Nat) : segV L wr bd (i * 3 + 2) = .bool (bd i) := by unfold segV; rw [if_neg (by omega), if_neg (by omega), show (i * 3 + 2) / 3 = i by omega]

/-- A chip in memory: all of it from block B on; hv is its history. -/
structure Ch (B : Nat) (w : World) (L : Lay) (S : St) (hv : Value) : Prop where
  pow : RowAt w L.pp 78 (pw S.up S.left S.keep S.junk)
  chip : RowAt w L.cp 82 (chipA L S hv)
  segs : RowAt w L.sp 86 (rowOf (L.n * 3) (segV L S.wear S.bad))
  pages : ∀ i, i < L.n → RowAt w (L.tp i) 9 (rowOf L.m (strV (S.page i)))
  hist : w.ownsRow B 9 1 hv S.hist.length (S.hist.map .string)
  inj : ∀ i j, i < L.n → j < L.n → L.tp i = L.tp j → i = j
  far : ∀ i, i < L.n → hv.ownBlock ≠ some (L.tp i)
  low : B ≤ L.pp ∧ B ≤ L.cp ∧ B ≤ L.sp ∧ ∀ i, i < L.n → B ≤ L.tp i
  room : 1 ≤ L.n ∧ L.n ≤ 64 ∧ 1 ≤ L.m ∧ L.m ≤ 16
  byte : S.junk < 256
  tall : (S.keep : Int) < 9223372036854775808

/-- The blocks of a chip. -/
def foot (L : Lay) (hv : Value) : Nat → Prop := fun k => k = L.pp ∨ k = L.cp ∨ k = L.sp ∨ (∃ i, i < L.n ∧ k = L.tp i) ∨ hv.ownBlock = some k

/-- From one chip to the next: nothing else has turned. -/
structure Goes (L : Lay) (hv : Value) (w : World) (hv' : Value) (w' : World) : Prop where
  side : Beside (foot L hv) w w'
  mine : ∀ k, hv'.ownBlock = some k → hv.ownBlock = some k ∨ w.heap.size ≤ k

theorem Goes.of_below {L : Lay} {hv : Value} {w w' : World} (h : Below w.heap.size w w') : Goes L hv w hv w' := ⟨.of_below h, fun k h => .inl h⟩
theorem Goes.foot {L : Lay} {hv hv' : Value} {w w' : World} (h : Goes L hv w hv' w') : ∀ k, foot L hv' k → foot L hv k ∨ w.heap.size ≤ k := by
  rintro k (h1 | h1 | h1 | h1 | h1)
  · exact .inl (.inl h1)
  · exact .inl (.inr (.inl h1))
  · exact .inl (.inr (.inr (.inl h1)))
  · exact .inl (.inr (.inr (.inr (.inl h1))))
  · rcases h.mine k h1 with h2 | h2
    · exact .inl (.inr (.inr (.inr (.inr h2))))
    · exact .inr h2
theorem Goes.trans {L : Lay} {v0 v1 v2 : Value} {a b c : World} (h : Goes L v0 a v1 b) (k : Goes L v1 b v2 c) : Goes L v0 a v2 c :=
  ⟨h.side.wide k.side h.foot, fun i hi => by
    rcases k.mine i hi with h1 | h1
    · exact h.mine i h1
    · exact .inr (Nat.le_trans h.side.size h1)⟩
theorem Goes.below {L : Lay} {v0 v1 : Value} {a b c : World} (h : Goes L v0 a v1 b) (k : Below b.heap.size b c) : Goes L v0 a v1 c := h.trans (.of_below k)

theorem Ch.base {B : Nat} {w : World} {L : Lay} {S : St} {hv : Value} (h : Ch B w L S hv) : ∀ k, foot L hv k → B ≤ k ∧ k < w.heap.size := by
  rintro k (rfl | rfl | rfl | ⟨i, hi, rfl⟩ | h1)
  · exact ⟨h.low.1, h.pow.lt⟩
  · exact ⟨h.low.2.1, h.chip.lt⟩
  · exact ⟨h.low.2.2.1, h.segs.lt⟩
  · exact ⟨h.low.2.2.2 i hi, (h.pages i hi).lt⟩
  · exact h.hist.lt k h1
theorem Ch.after {B : Nat} {w w' : World} {L : Lay} {S : St} {hv : Value} (h : Ch B w L S hv) (hb : Below w.heap.size w w') : Ch B w' L S hv :=
  ⟨h.pow.below hb h.pow.lt, h.chip.below hb h.chip.lt, h.segs.below hb h.segs.lt, fun i hi => (h.pages i hi).below hb (h.pages i hi).lt, own_onto h.hist hb, h.inj, h.far, h.low, h.room, h.byte, h.tall⟩
theorem Goes.under {L : Lay} {v0 v1 : Value} {a b : World} {B : Nat} {S : St} (h : Goes L v0 a v1 b) (hc : Ch B a L S v0) (hB : B ≤ a.heap.size) : Below B a b := h.side.under (fun k hk => (hc.base k hk).1) hB

/-- Another power. -/
theorem Ch.power {B : Nat} {w w' : World} {L : Lay} {S : St} {hv : Value} (h : Ch B w L S hv) (ha : Apart L.pp w w') {up : Bool} {left : Int} {keep junk : Nat} (hr : RowAt w' L.pp 78 (pw up left keep junk)) (hj : junk < 256) (hk : (keep : Int) < 9223372036854775808) :
    Ch B w' L { S with up := up, left := left, keep := keep, junk := junk } hv ∧ Goes L hv w hv w' := by
  have hs : Beside (fun k => k = L.pp) w w' := .of_apart ha rfl
  refine ⟨⟨hr, h.chip.beside hs (h.chip.apart h.pow (by decide)), h.segs.beside hs (h.segs.apart h.pow (by decide)), fun i hi => (h.pages i hi).beside hs ((h.pages i hi).apart h.pow (by decide)), own_beside h.hist hs (fun k e1 e2 => h.pow.not_own h.hist (by decide) (by rw [e1, e2])), h.inj, h.far, h.low, h.room, hj, hk⟩, hs.mono fun k e => .inl e, fun k e => .inl e⟩

end Go.Proofs.Ytogeccmeaacgnaa
