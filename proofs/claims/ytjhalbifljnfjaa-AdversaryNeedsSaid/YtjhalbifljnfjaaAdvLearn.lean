/-
  Contract: learns of a mind.
-/
import Derived.Test.YtjhalbifljnfjaaAdvLearnA
import Derived.Test.YtjhalbifljnfjaaAdvLearnB
import Derived.Test.YtjhalbifljnfjaaAdvLearnC
namespace Go.Proofs.Ytjhalbifljnfjaa
open Go.RowKit
set_option linter.unusedVariables false

set_option maxHeartbeats 2000000 in
set_option maxRecDepth 8000 in
theorem learns_leaf (T : Nds) (aT aA : Option Addr) (m cT n cA p cK d : Nat) (z0 z1 z2 : Int) (X : Nat → Bool) (hd : d < m) (e0 : Hid (T d 0 = z0)) (e1 : Hid (T d 1 = z1)) (e2 : Hid (T d 2 = z2)) (k2 : (z0 == 2) = false) (k3 : (z0 == 3) = false) (w : World) (hT : Hid (SeesN w aT m T)) (hr : Hid (BRow w p m X)) :
    Calls Try.prog 42 #[.agg #[.slice aT m cT, .slice aA n cA, .slice (some ⟨p, 0, none⟩) m cK], .int .i64 (d : Int)] w (LearnEnd T m X d p w) := by
  have b0 : Below w.heap.size w (w.alloc (.cells #[.slice aT m cT, .slice aA n cA, .slice (some ⟨p, 0, none⟩) m cK] 52)) := (Below.refl w.heap.size w).alloc (Nat.le_refl _) _
  have b1 : Below w.heap.size w ((w.alloc (.cells #[.slice aT m cT, .slice aA n cA, .slice (some ⟨p, 0, none⟩) m cK] 52)).alloc (.cells #[.int .i64 z0, .int .i64 z1, .int .i64 z2] 42)) := b0.alloc b0.size _
  have s0 := Lib.hid (hT.out.after b0)
  have hB := Lib.hid (hr.out.after b1)
  have q0 := Lib.hid ((RowAt.new w 52 #[.slice aT m cT, .slice aA n cA, .slice (some ⟨p, 0, none⟩) m cK]).alloc (.cells #[.int .i64 z0, .int .i64 z1, .int .i64 z2] 42))
  have q1 := Lib.hid (RowAt.new (w.alloc (.cells #[.slice aT m cT, .slice aA n cA, .slice (some ⟨p, 0, none⟩) m cK] 52)) 42 #[.int .i64 z0, .int .i64 z1, .int .i64 z2])
  rw [World.size_alloc] at q1
  have n0 : Hid (w.heap.size ≠ p) := fun e => by have := hr.out.lt; omega
  have n1 : Hid (w.heap.size + 1 ≠ p) := fun e => by have := hr.out.lt; omega
  have M := advMade_any z0 z1 z2 ((w.alloc (.cells #[.slice aT m cT, .slice aA n cA, .slice (some ⟨p, 0, none⟩) m cK] 52)).alloc (.cells #[.int .i64 z0, .int .i64 z1, .int .i64 z2] 42))
  rw [show madeB z0 = false by unfold madeB; rw [k2, k3]; rfl] at M
  replace M := Lib.hid M
  have L : Hid (LearnOk T m X d false X) := learn_leaf (by rw [e0.out]; exact k2) (by rw [e0.out]; exact k3)
  go_enter Try.func42, Try.ntmps42
  go_wp2_with (first | (refine wpList_known rfl (at_nodes s0.out hd rfl rfl rfl rfl _) ?_) | (refine wpList_known rfl (get_nodeE s0.out hd e0.out e1.out e2.out rfl rfl) ?_))
  refine M.out.mono ?_
  rintro e w2 ⟨rfl, hb2⟩
  have b2 := b1.trans (hb2.mono b1.size)
  have hB2 := Lib.hid (hB.out.after hb2)
  have hA := Lib.hid (Apart.of_below (p := p) b2)
  clear M hb2 q0 q1 hB s0
  go_wp2
  go_ret
  exact ⟨_, _, rfl, hB2, L, hA⟩

theorem learns_any (T : Nds) (aT aA : Option Addr) (m cT n cA p cK d : Nat) (X : Nat → Bool) (hd : d < m) (hP : PlT T m) (w : World) (hT : Hid (SeesN w aT m T)) (hr : Hid (BRow w p m X)) :
    Calls Try.prog 42 #[.agg #[.slice aT m cT, .slice aA n cA, .slice (some ⟨p, 0, none⟩) m cK], .int .i64 (d : Int)] w (LearnEnd T m X d p w) := by
  by_cases h2 : T d 0 = 2
  · obtain ⟨x, y, hx, hy, e1, e2⟩ := hP d hd (.inl h2)
    cases hXd : X d <;> cases hXx : X x <;> cases hXy : X y
    · exact learns_none2false T aT aA m cT n cA p cK d x y X hd hx hy h2 e1 e2 hXd hXx w hT hr
    · exact learns_none2false T aT aA m cT n cA p cK d x y X hd hx hy h2 e1 e2 hXd hXx w hT hr
    · exact learns_half2 T aT aA m cT n cA p cK d x y X hd hx hy h2 e1 e2 hXd hXx hXy w hT hr
    · exact learns_make2 T aT aA m cT n cA p cK d x y X hd hx hy h2 e1 e2 hXd hXx hXy w hT hr
    · exact learns_left T aT aA m cT n cA p cK d x y X hd hx hy h2 e1 e2 hXd hXx w hT hr
    · exact learns_left T aT aA m cT n cA p cK d x y X hd hx hy h2 e1 e2 hXd hXx w hT hr
    · exact learns_right T aT aA m cT n cA p cK d x y X hd hx hy h2 e1 e2 hXd hXx w hT hr
    · exact learns_right T aT aA m cT n cA p cK d x y X hd hx hy h2 e1 e2 hXd hXx w hT hr
  · by_cases h3 : T d 0 = 3
    · obtain ⟨x, y, hx, hy, e1, e2⟩ := hP d hd (.inr h3)
      cases hXd : X d <;> cases hXx : X x <;> cases hXy : X y
      · exact learns_none3false T aT aA m cT n cA p cK d x y X hd hx hy h3 e1 e2 hXd hXx w hT hr
      · exact learns_none3false T aT aA m cT n cA p cK d x y X hd hx hy h3 e1 e2 hXd hXx w hT hr
      · exact learns_half3 T aT aA m cT n cA p cK d x y X hd hx hy h3 e1 e2 hXd hXx hXy w hT hr
      · exact learns_make3 T aT aA m cT n cA p cK d x y X hd hx hy h3 e1 e2 hXd hXx hXy w hT hr
      · exact learns_none3true T aT aA m cT n cA p cK d x y X hd hx hy h3 e1 e2 hXd hXx w hT hr
      · exact learns_none3true T aT aA m cT n cA p cK d x y X hd hx hy h3 e1 e2 hXd hXx w hT hr
      · exact learns_undo T aT aA m cT n cA p cK d x y X hd hx hy h3 e1 e2 hXd hXx w hT hr
      · exact learns_undo T aT aA m cT n cA p cK d x y X hd hx hy h3 e1 e2 hXd hXx w hT hr
    · exact learns_leaf T aT aA m cT n cA p cK d (T d 0) (T d 1) (T d 2) X hd rfl rfl rfl (beq_ff h2) (beq_ff h3) w hT hr

end Go.Proofs.Ytjhalbifljnfjaa
