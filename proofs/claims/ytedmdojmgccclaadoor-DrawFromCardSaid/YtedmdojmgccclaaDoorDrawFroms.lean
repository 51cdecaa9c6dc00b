/-
  Walk: DrawFrom.
-/
import Derived.Test.YtedmdojmgccclaaDoorDrawOpen
import Derived.Test.YtedmdojmgccclaaDoorDrawShown
import Derived.Test.YtedmdojmgccclaaDoorDrawSet
namespace Go.Proofs.YtedmdojmgccclaaDoor
open Go.RowKit

theorem wf7_i64 {n : Int} (h : (Lit.int .i64 n).wf = true) : -9223372036854775808 ≤ n ∧ n < 9223372036854775808 := by
  simp [Lit.wf, IntKind.min, IntKind.max, IntKind.signed, IntKind.bits] at h
  omega
theorem wf7_u64 {n : Int} (h : (Lit.int .u64 n).wf = true) : 0 ≤ n ∧ n < 18446744073709551616 := by
  simp [Lit.wf, IntKind.min, IntKind.max, IntKind.signed, IntKind.bits] at h
  omega

set_option maxHeartbeats 2000000 in
set_option maxRecDepth 8000 in
theorem walk_DrawFrom (seed : Int) (ws : (Lit.int .u64 seed).wf = true) (n : Int) (wn : (Lit.int .i64 n).wf = true) (a : Option Addr) (l c : Nat) (K : Nat → Nat → Nat) (w : World) (hk : KRow w) (hc : CameKeys w a l c K) :
    Calls Tryd.prog 4 #[.int .u64 seed, .int .i64 n, .slice a l c] w fun e w' => e = .returned (.bool true) ∧ Below w.heap.size w w' := by
  obtain ⟨s, rfl⟩ : ∃ s : Nat, seed = (s : Int) := ⟨seed.toNat, by have := wf7_u64 ws; omega⟩
  have hn := wf7_i64 wn
  replace hk := Lib.hid hk
  have S0 := Lib.hid (shown7_any w hk)
  obtain ⟨hs, _, hK, _⟩ := hc
  replace hs := Lib.hid hs
  replace hK := Lib.hid hK
  have hnot : ∀ (x : Bool) (w : World), (Op.unary .not (.bool x)).run Tryd.prog w = .ok (.bool (!x)) w := fun _ _ => rfl
  clear ws wn
  by_cases hl : l ≤ 100
  · have d1 : ¬ (l : Int) > 100 := by omega
    by_cases hn2 : n ≤ 200
    · have d2 : ¬ n > 200 := by omega
      obtain ⟨m, hm⟩ : ∃ m : Nat, m = n.toNat := ⟨_, rfl⟩
      have lm : m ≤ 200 := by omega
      replace hm := Lib.hid hm
      go_enter Tryd.func4, Tryd.ntmps4
      go_wp2_with fail
      refine S0.out.mono ?_
      rintro e w1 ⟨rfl, b1⟩
      clear S0
      have F1 := Lib.hid (drawFrom_any s n (by omega) hn.1 m hm.out w1 (hk.out.below b1 hk.out.1 b1.size))
      go_wp2_with fail
      refine F1.out.mono ?_
      rintro e w2 ⟨g, rfl, q2, hb2⟩
      replace b1 := b1.trans (hb2.mono b1.size)
      clear hb2 F1
      have F2 := Lib.hid (refFrom_any s n (by omega) hn.1 m hm.out w2)
      go_wp2_with fail
      refine F2.out.mono ?_
      rintro e w3 ⟨v, rfl, o3, hb3⟩
      obtain ⟨a3, c3, rfl, s3, _⟩ := own_seesK o3.out
      replace q2 := Lib.hid ((seesK_row q2.out).after hb3)
      replace b1 := b1.trans (hb3.mono b1.size)
      replace s3 := Lib.hid s3
      clear hb3 F2 o3
      have M3 := Lib.hid (same_yes m (by omega) (fromK s) (some ⟨g, 0, none⟩) a3 m c3 w3 q2 s3)
      go_wp2_with fail
      refine M3.out.mono ?_
      rintro e w4 ⟨rfl, hb4⟩
      replace b1 := b1.trans (hb4.mono b1.size)
      clear hb4 M3 q2 s3
      have D4 := Lib.hid (distinct_any l (by omega) K hK a c w4 (hs.out.after b1))
      go_wp2_with fail
      refine D4.out.mono ?_
      rintro e w5 ⟨rfl, hb5⟩
      replace b1 := b1.trans (hb5.mono b1.size)
      clear hb5 D4
      have D5 := Lib.hid (refDistinct_any l (by omega) K a c w5 (hs.out.after b1))
      go_wp2_with fail
      refine D5.out.mono ?_
      rintro e w6 ⟨rfl, hb6⟩
      replace b1 := b1.trans (hb6.mono b1.size)
      clear hb6 D5
      go_wp2
      go_ret
      exact ⟨by simp, b1⟩
    · have d2 : n > 200 := by omega
      go_enter Tryd.func4, Tryd.ntmps4
      go_wp2_with fail
      refine S0.out.mono ?_
      rintro e w1 ⟨rfl, b1⟩
      clear S0
      go_wp2
      go_ret
      exact ⟨rfl, b1⟩
  · have d1 : (l : Int) > 100 := by omega
    go_enter Tryd.func4, Tryd.ntmps4
    go_wp2_with fail
    refine S0.out.mono ?_
    rintro e w1 ⟨rfl, b1⟩
    clear S0
    go_wp2
    go_ret
    exact ⟨rfl, b1⟩

end Go.Proofs.YtedmdojmgccclaaDoor
