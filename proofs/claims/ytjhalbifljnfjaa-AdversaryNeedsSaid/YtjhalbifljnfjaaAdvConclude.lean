/-
  Contract: conclude of a mind: rounds that go on by a label.
-/
import Derived.Test.YtjhalbifljnfjaaAdvLearn
import Derived.Deep.LoopGhost
namespace Go.Proofs.Ytjhalbifljnfjaa
open Go.RowKit
set_option linter.unusedVariables false

theorem learn_sound {T : Nds} {m : Nat} {X X' X'' : Nat → Bool} {d : Nat} (hs : SoundT T m X X') (h : LearnOk T m X' d true X'') : SoundT T m X X'' ∧ gap X'' m < gap X' m := by
  obtain ⟨q, hq, hx, he, hf⟩ := h.2 rfl
  have hc : ∀ k, k ≤ m → gap X'' k = gap (setT X' q) k := by
    intro k
    induction k with
    | zero => intro _; rfl
    | succ k ih =>
      intro hk
      show gap _ k + _ = gap _ k + _
      rw [ih (by omega), he k (by omega)]
  refine ⟨?_, by rw [hc m (Nat.le_refl _)]; exact gap_set hx m hq⟩
  have h1 := sound_step hs hf
  exact ⟨fun e hd hX => by rw [he e hd]; exact h1.1 e hd hX, fun e hd hX => h1.2 e hd (by rw [← he e hd]; exact hX)⟩

set_option maxHeartbeats 2000000 in
set_option maxRecDepth 8000 in
theorem conclude_any (T : Nds) (aT aA : Option Addr) (m cT n cA p cK : Nat) (X : Nat → Bool) (hP : Hid (PlT T m)) (hm : m ≤ 1000) (ho : Hid (Off aT p)) (w : World) (hT : Hid (SeesN w aT m T)) (hr : Hid (BRow w p m X)) :
    Calls Try.prog 37 #[.agg #[.slice aT m cT, .slice aA n cA, .slice (some ⟨p, 0, none⟩) m cK]] w fun e w' => e = .returned (.tuple #[]) ∧ Hid (BRow w' p m (clB T m X)) ∧ Hid (Apart p w w') := by
  have b0 : Below w.heap.size w (w.alloc (.cells #[.slice aT m cT, .slice aA n cA, .slice (some ⟨p, 0, none⟩) m cK] 52)) := (Below.refl w.heap.size w).alloc (Nat.le_refl _) _
  have r0 := Lib.hid (hr.out.after b0)
  have s0 := Lib.hid (hT.out.after b0)
  have q0 := Lib.hid (RowAt.new w 52 #[.slice aT m cT, .slice aA n cA, .slice (some ⟨p, 0, none⟩) m cK])
  have hA0 := Lib.hid (Apart.of_below (p := p) b0)
  have hpq : Hid (w.heap.size ≠ p) := fun e => by have := hr.out.lt; omega
  clear b0
  go_enter Try.func37, Try.ntmps37
  go_wp2
  go_step3
  go_wp2
  go_step3
  go_wp2
  generalize w.alloc (.cells #[.slice aT m cT, .slice aA n cA, .slice (some ⟨p, 0, none⟩) m cK] 52) = w1 at *
  generalize w.heap.size = q at *
  go_loopg [] (gap X m) (fun g wr => ∃ X' : Nat → Bool, gap X' m ≤ g ∧ Hid (SoundT T m X X') ∧ Hid (BRow wr p m X') ∧ Hid (SeesN wr aT m T) ∧ Hid (RowAt wr q 52 #[.slice aT m cT, .slice aA n cA, .slice (some ⟨p, 0, none⟩) m cK]) ∧ Hid (Apart p w wr))
  case atStart => exact ⟨X, Nat.le_refl _, SoundT.refl T m X, r0, s0, q0, hA0⟩
  case round =>
    clear r0 s0 q0 hA0
    obtain ⟨X', hg, hs, hB, hS, hq, hA⟩ := hrel
    have c0 : wr.cell? ⟨q, 0, none⟩ = some (.slice aT m cT) := cell_of_row wr q 0 _ _ (0, 0) hq.out
    go_wp2
    clear c0
    go_loopg [6] m (fun g2 v wy => ∃ j : Nat, j + g2 = m ∧ v = .int .i64 (j : Int) ∧ Hid (∀ e, e < j → SatT T X' e) ∧ Hid (BRow wy p m X') ∧ Hid (SeesN wy aT m T) ∧ Hid (RowAt wy q 52 #[.slice aT m cT, .slice aA n cA, .slice (some ⟨p, 0, none⟩) m cK]) ∧ Hid (Apart p w wy))
    case atStart => exact ⟨0, by omega, rfl, fun e he => absurd he (Nat.not_lt_zero _), hB, hS, hq, hA⟩
    case round =>
      clear hB hS hq hA
      obtain ⟨j, hj, rfl, hsat, hB, hS, hq, hA⟩ := hrel
      by_cases hlt : j < m
      · have lj : (j : Int) < (m : Int) := by omega
        have L := Lib.hid (learns_any T aT aA m cT n cA p cK j X' hlt hP.out _ hS hB)
        go_wp2_with (first | (refine wpList_load_row rfl 52 _ rfl q rfl 52 #[.slice aT m cT, .slice aA n cA, .slice (some ⟨p, 0, none⟩) m cK] (0, 0) _ hq.out Try.underlying52 rfl sz_mind ?_))
        refine L.out.mono ?_
        rintro e w2 ⟨r, X'', rfl, hB2, hL, hA2⟩
        have hS2 := Lib.hid (hS.out.apart hA2.out ho.out)
        have hq2 := Lib.hid (hA2.out.row hq.out hpq.out)
        have hA3 := Lib.hid (hA.out.trans hA2.out)
        clear L hA2 hB hS hq hA
        cases r
        · have hB3 := Lib.hid (hB2.out.congr (hL.out.1 rfl).1)
          have st := Lib.hid (hL.out.1 rfl).2
          clear hB2 hL
          go_wp2
          go_roundg (m - (j + 1))
          case measure => omega
          case rel =>
            refine ⟨j + 1, by omega, by go_num, fun e he => ?_, hB3, hS2, hq2, hA3⟩
            by_cases e1 : e = j
            · rw [e1]; exact st.out
            · exact hsat.out e (by omega)
        · obtain ⟨h1, h2⟩ := learn_sound hs.out hL.out
          replace h1 := Lib.hid h1
          replace h2 := Lib.hid h2
          clear hL
          go_wp2
          go_roundg (gap X'' m)
          case measure => exact Nat.lt_of_lt_of_le h2.out hg
          case rel => exact ⟨X'', Nat.le_refl _, h1, hB2, hS2, hq2, hA3⟩
      · have lj : ¬ (j : Int) < (m : Int) := by omega
        have hB3 := Lib.hid (hB.out.congr (sound_done hs.out fun e he => hsat.out e (by omega)))
        go_wp2
        refine bodyPost_ret (results_none rfl _ _ _) rfl ?_
        exact ⟨rfl, hB3, hA⟩

end Go.Proofs.Ytjhalbifljnfjaa
