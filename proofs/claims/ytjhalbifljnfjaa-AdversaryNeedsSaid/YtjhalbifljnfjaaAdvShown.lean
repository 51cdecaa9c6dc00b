/-
  Contract: shown: that a lock needs its key.
-/
import Derived.Test.YtjhalbifljnfjaaAdvTerms
import Derived.Test.YtjhalbifljnfjaaAdvMind
namespace Go.Proofs.Ytjhalbifljnfjaa
open Go.RowKit
set_option linter.unusedVariables false

/-- The three nodes that are shown. -/
def shownK : Nds := ndL [[1, 1, 0], [0, 2, 0], [3, 0, 1]]
theorem shown_may : mayB shownK 3 = true := by decide
theorem shown_wf : Wf shownK 3 := ((mayB_iff _ _).1 shown_may).2
theorem shown_0 : tm shownK 0 = .key 1 := by kernel_rfl
theorem shown_1 : tm shownK 1 = .atom 2 := by kernel_rfl
theorem shown_2 : tm shownK 2 = .lock (.key 1) (.atom 2) := by kernel_rfl
theorem lt3 {i : Nat} (h : i < 3) : i = 0 ∨ i = 1 ∨ i = 2 := by omega

theorem shown_no : canB shownK 3 (inZ (fun _ => 2) 1) 1 = false := by
  have hc : Clo shownK 3 (fun q => tm shownK q = .lock (.key 1) (.atom 2)) := by
    refine clo_terms shown_wf (fun t => t = .lock (.key 1) (.atom 2)) ?_ ?_ ?_
    · intro i hi h0
      rcases lt3 hi with rfl | rfl | rfl <;> exact absurd h0 (by decide)
    · intro i hi h0 y yk
      rcases lt3 hi with rfl | rfl | rfl
      · exact absurd h0 (by decide)
      · exact absurd h0 (by decide)
      · have : tm shownK 0 = .lock (.key 1) (.atom 2) := yk
        rw [shown_0] at this
        cases this
    · intro i hi h0 ya yb
      rcases lt3 hi with rfl | rfl | rfl
      · exact absurd h0 (by decide)
      · exact absurd h0 (by decide)
      · exact shown_2
  have hk : knB shownK 3 (inZ (fun _ => 2) 1) 1 = false := by
    refine knB_no hc (fun j hj hS => ?_) (by rw [shown_1]; intro e; cases e)
    obtain ⟨_, _, e⟩ := hS
    have e : (2 : Int) = (j : Int) := e
    have : j = 2 := by omega
    subst this
    exact shown_2
  unfold canB
  rw [show (1 : Int).toNat = 1 from rfl, hk, Bool.and_false, Bool.and_false]
theorem shown_yes : canB shownK 3 (inZ (fun j => ([2, 0] : List Int).getD j 0) 2) 1 = true := by
  have k2 : Kn shownK 3 (inZ (fun j => ([2, 0] : List Int).getD j 0) 2) 2 := Kn.base (by decide) ⟨0, by decide, rfl⟩
  have k0 : Kn shownK 3 (inZ (fun j => ([2, 0] : List Int).getD j 0) 2) 0 := Kn.base (by decide) ⟨1, by decide, rfl⟩
  have k1 : Kn shownK 3 (inZ (fun j => ([2, 0] : List Int).getD j 0) 2) 1 := (Kn.clo _ _ _).undo 2 (by decide) (by decide) k2 k0
  unfold canB
  rw [show (1 : Int).toNat = 1 from rfl, knB_yes (by decide) k1]
  decide

/-- Cells of a new block. -/
theorem sees_cells (w : World) (t : TypeId) (cs : Array Value) (n : Nat) (F : Nat → Value) (h : ∀ m, m < n → cs[m]? = some (F m)) : SeesV (w.alloc (.cells cs t)) (some ⟨w.heap.size, 0, none⟩) n F := by
  intro m hm
  refine ⟨_, rfl, by simp, ?_⟩
  rw [addr_add, Nat.zero_add]
  have := World.cell?_alloc_mark w cs t (0, 0) m
  rw [this]
  exact h m hm
theorem sees_shown (w : World) : SeesN (w.alloc (.cells #[.int .i64 1, .int .i64 1, .int .i64 0, .int .i64 0, .int .i64 2, .int .i64 0, .int .i64 3, .int .i64 0, .int .i64 1] 42)) (some ⟨w.heap.size, 0, none⟩) 3 shownK :=
  sees_cells w _ _ _ _ fun m hm => by
    match m, hm with
    | 0, _ => rfl
    | 1, _ => rfl
    | 2, _ => rfl
    | 3, _ => rfl
    | 4, _ => rfl
    | 5, _ => rfl
    | 6, _ => rfl
    | 7, _ => rfl
    | 8, _ => rfl
theorem sees_z1 (w : World) (z : Int) : SeesZ (w.alloc (.cells #[.int .i64 z] 3)) (some ⟨w.heap.size, 0, none⟩) 1 (fun _ => z) :=
  sees_cells w _ _ _ _ fun m hm => by
    match m, hm with
    | 0, _ => rfl
theorem sees_z2 (w : World) (y z : Int) : SeesZ (w.alloc (.cells #[.int .i64 y, .int .i64 z] 3)) (some ⟨w.heap.size, 0, none⟩) 2 (fun j => ([y, z] : List Int).getD j 0) :=
  sees_cells w _ _ _ _ fun m hm => by
    match m, hm with
    | 0, _ => rfl
    | 1, _ => rfl

set_option maxHeartbeats 1000000 in
set_option maxRecDepth 8000 in
theorem shown9_any (w : World) :
    Calls Try.prog 9 #[] w fun e w' => e = .returned (.bool true) ∧ Below w.heap.size w w' := by
  have b0 : Below w.heap.size w (w.alloc (.cells #[.int .i64 1, .int .i64 1, .int .i64 0, .int .i64 0, .int .i64 2, .int .i64 0, .int .i64 3, .int .i64 0, .int .i64 1] 42)) := (Below.refl _ _).alloc (Nat.le_refl _) _
  have s0 := Lib.hid (sees_shown w)
  have n1 := Lib.hid shown_no
  have n2 := Lib.hid shown_yes
  generalize shownK = K at s0 n1 n2
  have z1 : Hid ((w.alloc (.cells #[.int .i64 1, .int .i64 1, .int .i64 0, .int .i64 0, .int .i64 2, .int .i64 0, .int .i64 3, .int .i64 0, .int .i64 1] 42)).heap.size = w.heap.size + 1) := by unfold Hid; simp
  go_enter Try.func9, Try.ntmps9
  go_wp2_with fail
  generalize w.alloc (.cells #[.int .i64 1, .int .i64 1, .int .i64 0, .int .i64 0, .int .i64 2, .int .i64 0, .int .i64 3, .int .i64 0, .int .i64 1] 42) = w1 at *
  have a1 := (Below.refl w1.heap.size w1).alloc (Nat.le_refl _) (.cells #[.int .i64 2] 3)
  have C1 := advCan_any K 3 (some ⟨w.heap.size, 0, none⟩) (some ⟨w1.heap.size, 0, none⟩) 3 1 1 (by decide) (by decide) (fun _ => 2) 1 _ (Lib.hid (s0.out.after a1)) (sees_z1 w1 2)
  rw [n1.out, z1.out] at C1
  replace C1 := Lib.hid C1
  refine C1.out.mono ?_
  rintro e w2 ⟨rfl, hb2⟩
  have a2 := a1.trans (hb2.mono a1.size)
  have b2 := b0.trans (a2.mono b0.size)
  have s2 := Lib.hid (s0.out.after a2)
  clear C1 hb2 a1 a2 b0 s0
  have a3 := (Below.refl w2.heap.size w2).alloc (Nat.le_refl _) (.cells #[.int .i64 2, .int .i64 0] 3)
  have C2 := advCan_any K 3 (some ⟨w.heap.size, 0, none⟩) (some ⟨w2.heap.size, 0, none⟩) 3 2 2 (by decide) (by decide) (fun j => ([2, 0] : List Int).getD j 0) 1 _ (Lib.hid (s2.out.after a3)) (sees_z2 w2 2 0)
  rw [n2.out] at C2
  replace C2 := Lib.hid C2
  go_wp2_with fail
  refine C2.out.mono ?_
  rintro e w3 ⟨rfl, hb3⟩
  have b3 := b2.trans ((a3.trans (hb3.mono a3.size)).mono b2.size)
  clear C2 hb3 a3 b2 s2
  go_wp2
  go_ret
  exact ⟨rfl, b3⟩

end Go.Proofs.Ytjhalbifljnfjaa
