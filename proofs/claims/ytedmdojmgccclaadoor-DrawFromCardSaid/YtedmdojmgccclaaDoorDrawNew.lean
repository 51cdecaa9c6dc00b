/-
  Draws in memory; contracts: slices.Clone of keys, New.
-/
import Derived.Test.YtedmdojmgccclaaDoorDrawKeys
namespace Go.Proofs.YtedmdojmgccclaaDoor
open Go.RowKit

theorem eqIn_nil (d : Nat) (a : Option Addr) (n c : Nat) (w : World) : (Op.equalIn (d + 1) 22 (.slice a n c) (.slice none 0 0)).run Tryd.prog w = .ok a.isNone w := by
  cases a <;> simp [Op.equalIn, run_underlying Tryd.underlying22]
theorem eql_nil (a : Option Addr) (n c : Nat) (w : World) : (binOp .eql 22 (.slice a n c) (.slice none 0 0)).run Tryd.prog w = .ok (.bool a.isNone) w := by
  have e2 : (Op.equal 22 (.slice a n c) (.slice none 0 0)).run Tryd.prog w = .ok a.isNone w := eqIn_nil 9999 a n c w
  simp [binOp, e2]

set_option maxHeartbeats 1000000 in
set_option maxRecDepth 8000 in
theorem clone_some (n : Nat) (hn : n ≤ 1000000) (K : Nat → Nat → Nat) (ad : Addr) (c : Nat) (w : World) (h1 : Hid (SeesK w (some ad) n K)) :
    Calls Tryd.prog 16 #[.slice (some ad) n c] w fun e w' => ∃ v, e = .returned v ∧ Hid (w'.ownsRow w.heap.size 27 16 v n (keyL n K)) ∧ Below w.heap.size w w' := by
  obtain ⟨i0, hi, hz0, hz1, hz2⟩ := info_parts Tryd.infoKey
  have e0 := eql_nil (some ad) n c
  rw [Option.isNone_some] at e0
  have o0 : Hid ((w.alloc (.cells #[] 27)).ownsRow w.heap.size 27 16 (.slice (some ⟨w.heap.size, 0, none⟩) 0 0) 0 []) := World.ownsRow_made w #[] 0 (Nat.le_refl _) (by decide) rfl
  have b0 : Below w.heap.size w (w.alloc (.cells #[] 27)) := (Below.refl _ _).alloc (Nat.le_refl _) _
  have s1 : Hid (∀ j u, (keyL n K)[j]? = some u → (w.alloc (.cells #[] 27)).cell? (ad.add j) = some u) := by
    intro j u hj
    have hl : j < n * 16 := by
      have := (List.getElem?_eq_some_iff.1 hj).1
      rwa [keyL_length] at this
    obtain ⟨ad', e, _, hc⟩ := (h1.out.after b0) j hl
    cases e
    rw [keyL_get n K j hl] at hj
    rw [hc]
    exact hj
  have hk : ∀ k, (Value.slice (some ⟨w.heap.size, 0, none⟩) 0 0).ownBlock = some k → w.heap.size ≤ k := fun k hk => by cases hk; exact Nat.le_refl _
  go_enter Tryd.func16, Tryd.ntmps16
  go_wp2_with (first | (refine wpList_append_own_at _ rfl _ _ 22 rfl w.heap.size 27 i0 (.agg (rowOf 16 (w8 zeroN))) 16 16 Tryd.underlying22 hi hz0 hz1 hz2 rfl (by decide) _ 0 [] rfl o0.out ad n c (keyL n K) rfl (keyL_length n K) s1.out (keyL_one n K) (by unfold maxLen; omega) (by omega) b0.size ?_; intro v' w1 hown' hgrow hnil hloc; rw [List.nil_append, Nat.zero_add] at hown'; replace hown' := Lib.hid hown'; replace hgrow := Lib.hid hgrow; clear hnil hloc))
  go_ret
  exact ⟨_, rfl, hown', b0.grown hgrow.out b0.size (fun k hk' => hk k hk')⟩

set_option maxHeartbeats 1000000 in
set_option maxRecDepth 8000 in
theorem clone_any (n : Nat) (hn : n ≤ 1000000) (K : Nat → Nat → Nat) (a : Option Addr) (c : Nat) (w : World) (h1 : Hid (SeesK w a n K)) :
    Calls Tryd.prog 16 #[.slice a n c] w fun e w' => ∃ v, e = .returned v ∧ Hid (w'.ownsRow w.heap.size 27 16 v n (keyL n K)) ∧ Below w.heap.size w w' := by
  cases a with
  | some ad => exact clone_some n hn K ad c w h1
  | none =>
    have h0 : n = 0 := by
      rcases Nat.eq_zero_or_pos n with h | h
      · exact h
      · obtain ⟨ad, e, _⟩ := h1.out.some h
        cases e
    subst h0
    have e0 := eql_nil none 0 c
    rw [Option.isNone_none] at e0
    go_enter Tryd.func16, Tryd.ntmps16
    go_wp2
    go_ret
    exact ⟨_, rfl, World.ownsRow_nil _ _ _ _, Below.refl _ _⟩

/-- Draws at block p: their keys, n of them, lie from block B on; t were told. -/
structure Dr (B : Nat) (w : World) (p : Nat) (a : Option Addr) (n c : Nat) (K : Nat → Nat → Nat) (t : Nat) : Prop where
  row : RowAt w p 46 #[.slice a n c, .int .i64 (t : Nat)]
  keys : SeesK w a n K
  away : ∀ ad, a = some ad → B ≤ ad.block ∧ ad.block < w.heap.size ∧ ad.block ≠ p
  here : B ≤ p
  told : t ≤ n
  room : n ≤ c

theorem Dr.after {B p n c t : Nat} {a : Option Addr} {K : Nat → Nat → Nat} {w w' : World} (h : Dr B w p a n c K t) (hb : Below w.heap.size w w') : Dr B w' p a n c K t :=
  ⟨h.row.below hb h.row.lt, h.keys.after hb, fun ad e => ⟨(h.away ad e).1, Nat.lt_of_lt_of_le (h.away ad e).2.1 hb.size, (h.away ad e).2.2⟩, h.here, h.told, h.room⟩
theorem Dr.base {B B' p n c t : Nat} {a : Option Addr} {K : Nat → Nat → Nat} {w : World} (h : Dr B' w p a n c K t) (hB : B ≤ B') : Dr B w p a n c K t :=
  ⟨h.row, h.keys, fun ad e => ⟨Nat.le_trans hB (h.away ad e).1, (h.away ad e).2⟩, Nat.le_trans hB h.here, h.told, h.room⟩
theorem Dr.turn {B p n c t t' : Nat} {a : Option Addr} {K : Nat → Nat → Nat} {w w' : World} (h : Dr B w p a n c K t) (hb : Apart p w w') (hr : RowAt w' p 46 #[.slice a n c, .int .i64 (t' : Nat)]) (ht : t' ≤ n) : Dr B w' p a n c K t' :=
  ⟨hr, h.keys.apart hb fun ad e => (h.away ad e).2.2, fun ad e => ⟨(h.away ad e).1, Nat.lt_of_lt_of_le (h.away ad e).2.1 hb.size, (h.away ad e).2.2⟩, h.here, ht, h.room⟩

theorem SeesK.far {w : World} {a : Option Addr} {n q : Nat} {K : Nat → Nat → Nat} (h : SeesK w a n K) (cs : Array Value) (hq : ∀ ad, a = Option.some ad → ad.block ≠ q) : SeesK (w.setRow q cs) a n K := fun m hm => by
  obtain ⟨ad, e, hl, hc⟩ := h m hm
  refine ⟨ad, e, by rw [setRow_size]; exact hl, ?_⟩
  rw [← hc]
  apply World.cell?_of_block
  rw [block_add, setRow_other _ _ _ _ (hq ad e)]
theorem Dr.far {B p n c t q : Nat} {a : Option Addr} {K : Nat → Nat → Nat} {w : World} (h : Dr B w p a n c K t) (cs : Array Value) (hp : p ≠ q) (hq : ∀ ad, a = some ad → ad.block ≠ q) : Dr B (w.setRow q cs) p a n c K t :=
  ⟨h.row.setRowOther q cs hp, h.keys.far cs hq, fun ad e => ⟨(h.away ad e).1, by rw [setRow_size]; exact (h.away ad e).2.1, (h.away ad e).2.2⟩, h.here, h.told, h.room⟩
theorem Apart.far {p q : Nat} {w w' : World} (h : Apart p w w') (hq : w.heap.size ≤ q) (ds : Array Value) : Apart p w (w'.setRow q ds) := fun cs => by
  have h1 := h cs
  refine ⟨h1.os, h1.tape, h1.output, by rw [setRow_size, setRow_size, setRow_size]; exact h.size, fun k hk => ?_⟩
  rw [← h1.block k hk]
  by_cases e : k = p
  · subst e
    simp only [World.setRow, Array.getElem?_modify]
    rw [if_neg (show ¬ q = k by omega)]
  · rw [setRow_other _ _ _ _ e, setRow_other _ _ _ _ e, setRow_other _ _ _ _ (by omega)]

set_option maxHeartbeats 1000000 in
set_option maxRecDepth 8000 in
theorem drawNew_any (n : Nat) (hn : n ≤ 1000000) (K : Nat → Nat → Nat) (a : Option Addr) (c : Nat) (w : World) (h1 : Hid (SeesK w a n K)) :
    Calls Tryd.prog 7 #[.slice a n c] w fun e w' => ∃ p a' c', e = .returned (.pointer (some ⟨p, 0, none⟩)) ∧ Hid (Dr w.heap.size w' p a' n c' K 0) ∧ Below w.heap.size w w' := by
  have C0 := Lib.hid (clone_any n hn K a c w h1)
  go_enter Tryd.func7, Tryd.ntmps7
  go_wp2_with fail
  refine C0.out.mono ?_
  rintro e w1 ⟨v, rfl, hown, hb⟩
  obtain ⟨a', c', rfl, hs, hc, _, hbl⟩ := own_seesK hown.out
  have hl : Hid (∀ ad, a' = some ad → w.heap.size ≤ ad.block ∧ ad.block < w1.heap.size) := fun ad e => by
    have := hown.out.lt ad.block (hbl ad e).2.1
    exact this
  have D : Hid (Dr w.heap.size (w1.alloc (.cells #[.slice a' n c', .int .i64 0] 46)) w1.heap.size a' n c' K 0) :=
    ⟨RowAt.new _ _ _, hs.after ((Below.refl _ _).alloc (Nat.le_refl _) _), fun ad e => ⟨(hl.out ad e).1, by have := (hl.out ad e).2; simp; omega, by have := (hl.out ad e).2; omega⟩, hb.size, Nat.zero_le _, hc⟩
  have b1 := hb.alloc hb.size (.cells #[.slice a' n c', .int .i64 0] 46)
  clear hown hs hbl hl C0
  go_wp2
  go_ret
  exact ⟨_, _, _, rfl, D, b1⟩

end Go.Proofs.YtedmdojmgccclaaDoor
