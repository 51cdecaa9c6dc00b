/-
  A chip and the document's chip, side by side.
-/
import Derived.Test.YtogeccmeaacgnaaNandRefProg2
import Derived.Test.YtogeccmeaacgnaaNandRefNew
import Derived.Test.YtogeccmeaacgnaaNandRefA
namespace Go.Proofs.Ytogeccmeaacgnaa
open Go.RowKit
set_option linter.unusedVariables false

theorem inB_zero {m : Nat} (h : 1 ≤ m) : inB 0 m = true := (inB_iff _ _).2 ⟨by omega, by omega⟩
theorem refErase_any (n m : Nat) (S : St) (M : Mem) (w : World) (hc : Hid (RefC w n m S M)) (hn64 : n ≤ 64) (hm1 : 1 ≤ m) (hm16 : m ≤ 16) (z : Int) (lw : Low S) (hk : Hid ((S.keep : Int) < 9223372036854775808)) :
    Calls Try.prog 15 #[.agg (rowOf 139 (refF n m S M)), .int .i64 z] w (RefEnd n m M (eraseS n S z) (eraseE n S z) w) := by
  unfold eraseE eraseS
  by_cases hu : S.up = false
  · rw [if_pos hu, if_pos hu]
    exact refErase_off n m S M w hc z hu
  rw [if_neg hu, if_neg hu]
  have hu' : S.up = true := by simpa using hu
  by_cases hin : inB z n = false
  · rw [if_pos hin, if_pos hin]
    exact refErase_arg n m S M w hc z hu' (by rw [hin]; rfl)
  rw [if_neg hin, if_neg hin]
  obtain ⟨i, rfl, hi⟩ := inB_get (show inB z n = true by simpa using hin)
  rw [show ((i : Nat) : Int).toNat = i from rfl]
  have hin2 : (inB ((i : Nat) : Int) n && inB 0 m) = true := by rw [inB_nat i n hi, inB_zero hm1]; rfl
  by_cases hb : wornB S i = true
  · rw [if_pos hb, if_pos hb]
    exact refErase_worn n m S M w hc i hi hn64 hu' hin2 hb
  rw [if_neg hb, if_neg hb]
  have hb' : wornB S i = false := by simpa using hb
  by_cases hl : (S.left - 1 != 0) = true
  · rw [if_pos hl, if_pos hl]
    exact refErase_whole n m S M w hc i hi hn64 hm1 hm16 hu' hin2 hb' hl lw.hi ⟨lw.wear i, lw.erases⟩
  · rw [if_neg hl, if_neg hl]
    exact refErase_part n m S M w hc i hi hn64 hm1 hm16 hu' hin2 hb' (by simpa using hl) lw.hi ⟨lw.wear i, lw.erases⟩ hk

theorem refProg_any (n m : Nat) (S : St) (M : Mem) (w : World) (hc : Hid (RefC w n m S M)) (hn64 : n ≤ 64) (hm16 : m ≤ 16) (z y : Int) (s : ByteArray) (lw : Low S) (hk : Hid (S.junk < 256 ∧ (S.keep : Int) < 9223372036854775808)) :
    Calls Try.prog 13 #[.agg (rowOf 139 (refF n m S M)), .int .i64 z, .int .i64 y, .string s] w (RefEnd n m M (progS n m S z y s) (progE n m S z y s) w) := by
  unfold progE progS
  by_cases hu : S.up = false
  · rw [if_pos hu, if_pos hu]
    exact refProg_off n m S M w hc z y s hu
  rw [if_neg hu, if_neg hu]
  have hu' : S.up = true := by simpa using hu
  by_cases hin : (inB z n && inB y m) = false
  · rw [if_pos hin, if_pos hin]
    exact refProg_arg n m S M w hc z y s hu' hin
  rw [if_neg hin, if_neg hin]
  have hin' : (inB z n && inB y m) = true := by simpa using hin
  by_cases hs : 256 < s.size
  · rw [if_pos hs, if_pos hs]
    exact refProg_long n m S M w hc z y s hu' hin' hs
  rw [if_neg hs, if_neg hs]
  rw [Bool.and_eq_true] at hin'
  obtain ⟨i, rfl, hi⟩ := inB_get hin'.1
  obtain ⟨j, rfl, hj⟩ := inB_get hin'.2
  rw [show ((i : Nat) : Int).toNat = i from rfl, show ((j : Nat) : Int).toNat = j from rfl]
  by_cases hb : isB (S.page i j) = true
  · rw [if_pos hb, if_pos hb]
    exact refProg_used n m S M w hc i j s hi hj hn64 hm16 hu' (by omega) hb
  rw [if_neg hb, if_neg hb]
  have hb' : isB (S.page i j) = false := by simpa using hb
  by_cases hl : (S.left - 1 != 0) = true
  · rw [if_pos hl, if_pos hl]
    exact refProg_whole n m S M w hc i j s hi hj hn64 hm16 hu' (by omega) hb' hl lw.hi ⟨lw.progs, lw.hist⟩
  · rw [if_neg hl, if_neg hl]
    exact refProg_part n m S M w hc i j s hi hj hn64 hm16 hu' (by omega) hb' (by simpa using hl) lw.hi ⟨lw.progs, lw.hist⟩ hk

/-- Where a slice of the document's lies: neither in the chip, nor in block rp. -/
def Sep (w : World) (L : Lay) (hv : Value) (rp : Nat) (a : Option Addr) : Prop := ∀ ad, a = some ad → ad.block < w.heap.size ∧ ¬ foot L hv ad.block ∧ ad.block ≠ rp
structure Both (B : Nat) (w : World) (L : Lay) (S : St) (hv : Value) (rp : Nat) (R : St) (M : Mem) : Prop where
  ch : Ch B w L S hv
  row : RowAt w rp 36 (rowOf 139 (refF L.n L.m R M))
  ref : RefC w L.n L.m R M
  base : B ≤ rp
  sl : Sep w L hv rp M.al
  sp : Sep w L hv rp M.ap

section
variable {B : Nat} {w w' : World} {L : Lay} {S : St} {hv : Value} {rp : Nat} {R : St} {M : Mem}
theorem Sep.goes {a : Option Addr} (h : Sep w L hv rp a) {hv' : Value} (g : Goes L hv w hv' w') : Sep w' L hv' rp a := fun ad e => by
  obtain ⟨h1, h2, h3⟩ := h ad e
  refine ⟨Nat.lt_of_lt_of_le h1 g.side.size, fun hf => ?_, h3⟩
  rcases g.foot _ hf with h4 | h4
  · exact h2 h4
  · omega
theorem Both.notFoot (h : Both B w L S hv rp R M) : ¬ foot L hv rp := by
  rintro (h1 | h1 | h1 | ⟨i, hi, h1⟩ | h1)
  · exact h.ch.pow.apart h.row (by decide) h1.symm
  · exact h.ch.chip.apart h.row (by decide) h1.symm
  · exact h.ch.segs.apart h.row (by decide) h1.symm
  · exact (h.ch.pages i hi).apart h.row (by decide) h1.symm
  · exact h.row.not_own h.ch.hist (by decide) h1
/-- The chip has turned, the document's not yet. -/
theorem Both.chip (h : Both B w L S hv rp R M) {S' : St} {hv' : Value} (hc : Ch B w' L S' hv') (g : Goes L hv w hv' w') : Both B w' L S' hv' rp R M :=
  ⟨hc, h.row.beside g.side h.notFoot, ⟨h.ref.cells.beside g.side fun ad e => (h.sl ad e).2.1, h.ref.past.beside g.side fun ad e => (h.sp ad e).2.1, h.ref.nil⟩, h.base, h.sl.goes g, h.sp.goes g⟩
theorem Both.after (h : Both B w L S hv rp R M) (hb : Below w.heap.size w w') : Both B w' L S hv rp R M := h.chip (h.ch.after hb) (.of_below hb)
/-- The document's chip is laid anew. -/
theorem Both.turn (h : Both B w L S hv rp R M) {R' : St} {M' : Mem} (ref : RefC w L.n L.m R' M') (sl : Sep w L hv rp M'.al) (sp : Sep w L hv rp M'.ap) (hs : Beside (fun k => k = rp) w w') (hr : RowAt w' rp 36 (rowOf 139 (refF L.n L.m R' M'))) : Both B w' L S hv rp R' M' := by
  have nf := h.notFoot
  have keep : ∀ {a : Option Addr}, Sep w L hv rp a → Sep w' L hv rp a := fun hx ad e => ⟨Nat.lt_of_lt_of_le (hx ad e).1 hs.size, (hx ad e).2⟩
  refine ⟨⟨h.ch.pow.beside hs fun e => nf (.inl e.symm), h.ch.chip.beside hs fun e => nf (.inr (.inl e.symm)), h.ch.segs.beside hs fun e => nf (.inr (.inr (.inl e.symm))), fun i hi => (h.ch.pages i hi).beside hs fun e => nf (.inr (.inr (.inr (.inl ⟨i, hi, e.symm⟩)))), own_beside h.ch.hist hs fun k e1 e2 => nf (.inr (.inr (.inr (.inr (e2 ▸ e1))))), h.ch.inj, h.ch.far, h.ch.low, h.ch.room, h.ch.byte, h.ch.tall⟩, hr, ⟨ref.cells.beside hs fun ad e => (sl ad e).2.2, ref.past.beside hs fun ad e => (sp ad e).2.2, ref.nil⟩, h.base, keep sl, keep sp⟩
/-- The same, of a row of which the power alone has turned. -/
theorem Both.power (h : Both B w L S hv rp R M) {R' : St} (hp : R'.page = R.page) (hh : R'.hist = R.hist) (hs : Beside (fun k => k = rp) w w') (hr : RowAt w' rp 36 (rowOf 139 (refF L.n L.m R' M))) : Both B w' L S hv rp R' M :=
  h.turn ⟨by rw [hp]; exact h.ref.cells, by rw [hh]; exact h.ref.past, h.ref.nil⟩ h.sl h.sp hs hr
theorem Sep.new (h : Both B w L S hv rp R M) {a b : Option Addr} (ha : Sep w L hv rp a) (hsz : w.heap.size ≤ w'.heap.size) (hn : ∀ ad, b = some ad → a = some ad ∨ w.heap.size ≤ ad.block ∧ ad.block < w'.heap.size) : Sep w' L hv rp b := fun ad e => by
  rcases hn ad e with h1 | ⟨h1, h2⟩
  · obtain ⟨h3, h4, h5⟩ := ha ad h1
    exact ⟨Nat.lt_of_lt_of_le h3 hsz, h4, h5⟩
  · refine ⟨h2, fun hf => ?_, fun e2 => ?_⟩
    · have := (h.ch.base _ hf).2
      omega
    · have := h.row.lt
      omega
/-- The document's chip behind a call of its own, laid into its variable. -/
theorem Both.ref' (h : Both B w L S hv rp R M) {R' : St} {M' : Mem} (hb : Below w.heap.size w w') (hc : RefC w' L.n L.m R' M') (hn : NewM w w' M M') : Both B (w'.setRow rp (rowOf 139 (refF L.n L.m R' M'))) L S hv rp R' M' :=
  (h.after hb).turn hc (Sep.new h h.sl hb.size hn.1) (Sep.new h h.sp hb.size hn.2) ((Beside.refl (fun k => k = rp) w').setRow (.inl rfl) _) ((h.after hb).row.setRow _)
end

end Go.Proofs.Ytogeccmeaacgnaa
