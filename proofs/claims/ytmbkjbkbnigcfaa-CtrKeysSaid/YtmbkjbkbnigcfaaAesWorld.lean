/-
  What stays while a block is locked, or opened: the cipher, the block, the room for the answer.
-/
import Derived.Test.YtmbkjbkbnigcfaaAesDo
namespace Go.Proofs.Ytmbkjbkbnigcfaa
open Go.RowKit

theorem Apart.setAbove {p q : Nat} {w w' : World} (h : Apart p w w') (hq : w.heap.size ≤ q) (ds : Array Value) : Apart p w (w'.setRow q ds) := fun cs => by
  refine (h cs).trans ⟨rfl, rfl, rfl, by simp, fun k hk => ?_⟩
  have hne : q ≠ k := by omega
  simp only [World.setRow, Array.getElem?_modify, if_neg hne]
theorem Apart.setCellAbove {p : Nat} {a : Addr} {w w' : World} (h : Apart p w w') (hq : w.heap.size ≤ a.block) (v : Value) : Apart p w (w'.setCell a v) := fun cs => by
  refine (h cs).trans ⟨rfl, rfl, rfl, by simp [World.setCell, World.setRow], fun k hk => ?_⟩
  have hne : a.block ≠ k := by omega
  simp only [World.setRow, World.setCell, Array.getElem?_modify, if_neg hne]

/-- The cipher of key at p, the block s at q, room for a block at r; but for them all is as in w. -/
structure LkI (w : World) (p q r : Nat) (key s : Nat → Nat) (w' : World) : Prop where
  made : Made w' p key
  blk : RowAt w' q 23 (rowOf 16 (w8 s))
  room : RowAt w' r 23 (rowOf 16 (w8 zeroN))
  rest : Apart p w w'
  hp : p < w.heap.size
  hq : w.heap.size ≤ q
  hr : w.heap.size ≤ r
  hqr : q ≠ r

section
variable {w w1 w2 : World} {p q r : Nat} {key s : Nat → Nat}
theorem LkI.after (hb : Below w1.heap.size w1 w2) (h : LkI w p q r key s w1) : LkI w p q r key s w2 :=
  ⟨h.made.below hb (RowAt.lt h.made), h.blk.below hb h.blk.lt, h.room.below hb h.room.lt, h.rest.below hb, h.hp, h.hq, h.hr, h.hqr⟩
theorem LkI.drew (h : LkI w p q r key s w1) : LkI w p q r key s w1.drew := h.after (Below.refl _ _).drew
theorem LkI.store (h : LkI w p q r key s w1) (t : Nat → Nat) : LkI w p q r key t (w1.setRow q (rowOf 16 (w8 t))) :=
  ⟨RowAt.setRowOther h.made q _ (by have := h.hp; have := h.hq; omega), h.blk.setRow _, h.room.setRowOther q _ h.hqr.symm, h.rest.setAbove h.hq _, h.hp, h.hq, h.hr, h.hqr⟩
theorem LkI.cell {j : Nat} {f g : Nat → Nat} (h : LkI w p q r key (part f g j) w1) : LkI w p q r key (part f g (j + 1)) (w1.setCell ⟨q, j, none⟩ (.int .u8 ((f j : Nat) : Int))) :=
  ⟨RowAt.setOther h.made _ _ (by have := h.hp; have := h.hq; show p ≠ q; omega), (h.blk.set j _).congr (u8_row 16 f g j), h.room.setOther _ _ (by show r ≠ q; exact h.hqr.symm), h.rest.setCellAbove h.hq _, h.hp, h.hq, h.hr, h.hqr⟩
theorem LkI.congr {t : Nat → Nat} (h : LkI w p q r key s w1) (e : ∀ j, j < 16 → s j = t j) : LkI w p q r key t w1 :=
  ⟨h.made, h.blk.congr (rowOf_congr fun j hj => by unfold w8; rw [e j hj]), h.room, h.rest, h.hp, h.hq, h.hr, h.hqr⟩
theorem LkI.round (_h : LkI w p q r key s w1) (i : Nat) (hi : i < 11) : ∀ j, j < 16 → (rowOf 179 (cipV 1 0 (ringN key)))[3 + i * 16 + j]? = some (w8 (rkN key i) j) :=
  cip_get 1 0 (ringN key) (rkN key i) i hi fun j hj => ring_at key i j hj
theorem LkI.endMade (h : LkI w p q r key s w1) (cs : Array Value) : Made (w1.setRow r cs) p key := RowAt.setRowOther h.made r _ (by have := h.hp; have := h.hr; omega)
theorem LkI.endApart (h : LkI w p q r key s w1) (cs : Array Value) : Apart p w (w1.setRow r cs) := h.rest.setAbove h.hr _
end

theorem wLock_byt : Byt wLock := fun j => by unfold wLock; split <;> decide
theorem wOpen_byt : Byt wOpen := fun j => by unfold wOpen; split <;> decide

theorem Apart.same {p : Nat} {w w' : World} {key : Nat → Nat} (h : Apart p w w') (h1 : Made w p key) (h2 : Made w' p key) : Below w.heap.size w w' := by
  have := h.done h2
  rwa [setRow_self w p _ _ (0, 0) h1] at this

/-- What is there behind Do. -/
theorem lk_start (p : Nat) (key s : Nat → Nat) (w w2 : World) (h : Cip w p key) (hm : Made w2 p key) (ha : Apart p ((w.alloc (.cells (rowOf 16 (w8 s)) 23)).alloc (.cells (rowOf 16 (w8 zeroN)) 23)) w2) :
    LkI w p w.heap.size (w.heap.size + 1) key s w2 := by
  have hp := h.lt
  have b0 : Below w.heap.size w ((w.alloc (.cells (rowOf 16 (w8 s)) 23)).alloc (.cells (rowOf 16 (w8 zeroN)) 23)) := ((Below.refl _ _).alloc (Nat.le_refl _) _).alloc (by simp) _
  have r0 : RowAt ((w.alloc (.cells (rowOf 16 (w8 s)) 23)).alloc (.cells (rowOf 16 (w8 zeroN)) 23)) w.heap.size 23 (rowOf 16 (w8 s)) := (RowAt.new _ _ _).alloc _
  have r1 : RowAt ((w.alloc (.cells (rowOf 16 (w8 s)) 23)).alloc (.cells (rowOf 16 (w8 zeroN)) 23)) (w.heap.size + 1) 23 (rowOf 16 (w8 zeroN)) := by
    have := RowAt.new (w.alloc (.cells (rowOf 16 (w8 s)) 23)) 23 (rowOf 16 (w8 zeroN))
    rw [World.size_alloc] at this
    exact this
  exact ⟨hm, ha.row r0 (by omega), ha.row r1 (by omega), (Apart.of_below b0).trans ha, hp, Nat.le_refl _, by omega, by omega⟩

theorem cip_new (p : Nat) (key s : Nat → Nat) (w : World) (h : Cip w p key) : Cip ((w.alloc (.cells (rowOf 16 (w8 s)) 23)).alloc (.cells (rowOf 16 (w8 zeroN)) 23)) p key :=
  h.below (((Below.refl _ _).alloc (Nat.le_refl _) _).alloc (by simp) _) h.lt

end Go.Proofs.Ytmbkjbkbnigcfaa
