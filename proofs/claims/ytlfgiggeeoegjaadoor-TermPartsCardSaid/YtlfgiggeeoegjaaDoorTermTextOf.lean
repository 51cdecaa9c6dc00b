/-
  Contract: Text.
-/
import Derived.Test.YtlfgiggeeoegjaaDoorTermText
namespace Go.Proofs.YtlfgiggeeoegjaaDoor
open Go.RowKit
set_option linter.unusedVariables false

/-- The text that is told of place i. -/
def textV (K : Nds) (n : Nat) (i : Int) : ByteArray := if sizeV K n i = 0 ∨ 2000 < sizeV K n i then ByteArray.empty else bs (txT (tm K i.toNat))

theorem textV_no {K : Nds} {n : Nat} {i : Int} (h : sizeV K n i = 0 ∨ 2000 < sizeV K n i) : textV K n i = ByteArray.empty := if_pos h
theorem textV_yes {K : Nds} {n : Nat} {i : Int} (h0 : sizeV K n i ≠ 0) (h1 : sizeV K n i ≤ 2000) : ∃ j : Nat, j < n ∧ i = j ∧ n ≤ 200 ∧ Wf K n ∧ textV K n i = bs (txT (tm K j)) ∧ lnT (tm K j) = sizeV K n i := by
  have hp : placeB K n i = true := by
    cases h : placeB K n i
    · exact absurd (sizeV_no h) h0
    · rfl
  obtain ⟨j, hj, rfl, hn, hK⟩ := place_yes hp
  refine ⟨j, hj, rfl, hn, hK, ?_, ?_⟩
  · unfold textV
    rw [if_neg (by omega), Int.toNat_natCast]
  · rw [sizeV_yes hp] at h1 ⊢
    unfold szN szT at *
    omega

theorem SeesV.lt {w : World} {a : Option Addr} {n : Nat} {F : Nat → Value} (h : SeesV w a n F) (hn : 0 < n) : ∀ ad, a = Option.some ad → ad.block < w.heap.size := by
  intro ad e
  obtain ⟨ad', e', hl⟩ := h.some hn
  rw [e] at e'
  cases e'
  exact hl

set_option maxHeartbeats 2000000 in
set_option maxRecDepth 8000 in
theorem text_any (K : Nds) (n : Nat) (i : Int) (a : Option Addr) (c : Nat) (hc : n ≤ c) (w : World) (hs : Hid (SeesN w a n K)) (hp : Hid (PTab w.heap.size w)) :
    Calls Tryd.prog 11 #[.slice a n c, .int .i64 i] w fun e w' => e = .returned (.string (textV K n i)) ∧ Below w.heap.size w w' := by
  have Z := Lib.hid (size_any K n i a c hc w hs hp)
  by_cases h0 : sizeV K n i = 0
  · rw [textV_no (.inl h0)]
    rw [h0] at Z
    go_enter Tryd.func11, Tryd.ntmps11
    go_wp2_with fail
    refine Z.out.mono ?_
    rintro e w1 ⟨rfl, hb⟩
    go_wp2
    go_ret
    exact ⟨rfl, hb⟩
  · by_cases h1 : 2000 < sizeV K n i
    · rw [textV_no (.inr h1)]
      generalize sizeV K n i = z at *
      have d0 : ((z : Int) == 0) = false := beq_ff (by omega)
      have d1 : (2000 : Int) < (z : Int) := by omega
      go_enter Tryd.func11, Tryd.ntmps11
      go_wp2_with fail
      refine Z.out.mono ?_
      rintro e w1 ⟨rfl, hb⟩
      go_wp2
      go_ret
      exact ⟨rfl, hb⟩
    · obtain ⟨j, hj, rfl, hn, hK, et, el⟩ := textV_yes h0 (by omega)
      rw [et]
      clear et
      obtain ⟨tx, htx⟩ : ∃ tx, bs (txT (tm K j)) = tx := ⟨_, rfl⟩
      rw [htx]
      replace htx := Lib.hid htx
      generalize sizeV K n j = z at *
      have d0 : ((z : Int) == 0) = false := beq_ff (by omega)
      have d1 : ¬ (2000 : Int) < (z : Int) := by omega
      replace hK := Lib.hid hK
      replace el := Lib.hid el
      have hl : Hid (∀ ad, a = some ad → ad.block < w.heap.size) := hs.out.lt (by omega)
      go_enter Tryd.func11, Tryd.ntmps11
      go_wp2_with fail
      refine Z.out.mono ?_
      rintro e w1 ⟨rfl, hb⟩
      have A := Lib.hid (appendText_any K n hn hK a c w1.heap.size (fun ad e => Nat.lt_of_lt_of_le (hl.out ad e) hb.size) j hj 0 (.slice none 0 0) [] w1 (hs.out.after hb) (hp.out.after hb) (World.ownsRow_nil _ _ _ _) (Nat.le_refl _) (by have := el.out; omega))
      clear Z
      go_wp2_with fail
      refine A.out.mono ?_
      rintro e w2 ⟨v2, rfl, own2, b2, _⟩
      have cv := own_string (P := Tryd.prog) (src := 46) (dst := 9) (txT (tm K j)) Tryd.underlying46 Tryd.underlying5 Tryd.underlying9 own2.out
      have b3 := hb.trans (b2.mono hb.size)
      clear A own2 b2 hb
      rw [htx.out] at cv
      go_wp2
      go_ret
      exact ⟨rfl, b3⟩

end Go.Proofs.YtlfgiggeeoegjaaDoor
