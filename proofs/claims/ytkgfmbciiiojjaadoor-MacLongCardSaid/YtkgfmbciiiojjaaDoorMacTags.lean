/-
  The walk of the law MacTags.
-/
import Derived.Test.YtkgfmbciiiojjaaDoorMacShown
import Derived.Test.YtkgfmbciiiojjaaDoorShaOpen
namespace Go.Proofs.YtkgfmbciiiojjaaDoor
open Go.RowKit

theorem wf_u64 {n : Int} (h : (Lit.int .u64 n).wf = true) : 0 ≤ n ∧ n < 18446744073709551616 := by
  simp [Lit.wf, IntKind.min, IntKind.max, IntKind.signed, IntKind.bits] at h
  omega

/-- What stays: the key in its block; the rest above. -/
def TagC (w : World) (p : Nat) (k : Nat → Nat) (w' : World) : Prop := Below p w w' ∧ RowAt w' p 23 (rowOf 16 (w8 k))

theorem TagC.after {w w1 w2 : World} {p : Nat} {k : Nat → Nat} (hb : Below w1.heap.size w1 w2) (h : TagC w p k w1) : TagC w p k w2 := ⟨h.1.trans (hb.mono (Nat.le_of_lt h.2.lt)), h.2.below hb h.2.lt⟩

/-- Mac of one text, in a slice of its own. -/
theorem mac_row (key : ByteArray) (hm : key.size ≤ 100000) (s : ByteArray) (hs : s.size ≤ 100000) (p : Nat) (w : World) (hk : KRow w) (hr : RowAt w p 9 ([s].map Value.string).toArray) :
    Calls Tryd.prog 10 #[.string key, .slice (some ⟨p, 0, none⟩) 1 1] w fun e w' => e = .returned (.agg (rowOf 32 (w8 (macN key.data.toList s.data.toList)))) ∧ Below w.heap.size w w' := by
  have h := mac_any key hm (some ⟨p, 0, none⟩) 1 (fun h => by cases h) [s] (by simp) (by unfold Hid; show (joinTo [s] 1).length ≤ _; rw [joinTo_one]; simp; omega) w hk (sees_row hr)
  rw [show [s].length = 1 from rfl, joinTo_one] at h
  exact h

set_option maxHeartbeats 1000000 in
set_option maxRecDepth 8000 in
theorem walk_MacTags (key : ByteArray) (_h1 : key.size ≤ maxLen) (s : ByteArray) (_h2 : s.size ≤ maxLen) (label : ByteArray) (_h3 : label.size ≤ maxLen) (k : Nat → Nat) (hkb : Bytes k) (n : Int) (hn : (Lit.int .u64 n).wf = true) (w : World) (hk : KRow w) :
    Calls Tryd.prog 3 #[.string key, .string s, .string label, .agg (rowOf 16 (w8 k)), .int .u64 n] w fun e w' => e = .returned (.bool true) ∧ Below w.heap.size w w' := by
  have HK := Lib.hid hk
  have HB := Lib.hid hkb
  obtain ⟨hn0, hn1⟩ := wf_u64 hn
  obtain ⟨n, rfl⟩ := Int.eq_ofNat_of_zero_le hn0
  have HN : Hid (n < 18446744073709551616) := by unfold Hid; omega
  clear hk hkb hn hn0 hn1
  have b0 : Below w.heap.size w (w.alloc (.cells (rowOf 16 (w8 k)) 23)) := (Below.refl _ _).alloc (Nat.le_refl _) _
  have r0 : Hid (RowAt (w.alloc (.cells (rowOf 16 (w8 k)) 23)) w.heap.size 23 (rowOf 16 (w8 k))) := RowAt.new _ _ _
  have hk0 : Hid (KRow (w.alloc (.cells (rowOf 16 (w8 k)) 23))) := HK.out.below b0 HK.out.1 b0.size
  by_cases h1 : (300 : Int) < (key.size : Int)
  · go_enter Tryd.func3, Tryd.ntmps3
    go_wp2_with fail
    refine (shown3_any _ hk0).mono ?_
    rintro e w1 ⟨rfl, hb1⟩
    go_wp2
    go_ret
    exact ⟨rfl, b0.trans (hb1.mono b0.size)⟩
  have d1 : decide ((300 : Int) < (key.size : Int)) = false := decide_eq_false h1
  by_cases h2 : (600 : Int) < (s.size : Int)
  · go_enter Tryd.func3, Tryd.ntmps3
    go_wp2_with fail
    refine (shown3_any _ hk0).mono ?_
    rintro e w1 ⟨rfl, hb1⟩
    go_wp2
    go_ret
    exact ⟨rfl, b0.trans (hb1.mono b0.size)⟩
  have d2 : decide ((600 : Int) < (s.size : Int)) = false := decide_eq_false h2
  by_cases h3 : (300 : Int) < (label.size : Int)
  · go_enter Tryd.func3, Tryd.ntmps3
    go_wp2_with fail
    refine (shown3_any _ hk0).mono ?_
    rintro e w1 ⟨rfl, hb1⟩
    go_wp2
    go_ret
    exact ⟨rfl, b0.trans (hb1.mono b0.size)⟩
  have d3 : decide ((300 : Int) < (label.size : Int)) = false := decide_eq_false h3
  have z1 : key.size ≤ 300 := by omega
  have z2 : s.size ≤ 600 := by omega
  have z3 : label.size ≤ 300 := by omega
  go_enter Tryd.func3, Tryd.ntmps3
  go_wp2_with fail
  refine (shown3_any _ hk0).mono ?_
  rintro e w1 ⟨rfl, hb1⟩
  have HC : TagC w w.heap.size k w1.drew := ⟨(b0.trans (hb1.mono b0.size)).drew, (r0.out.below hb1 r0.out.lt).drew⟩
  clear hb1 b0 r0 hk0 h1 h2 h3
  have M1 : Hid (∀ w' p, Below w.heap.size w w' → RowAt w' p 9 ([s].map Value.string).toArray → Calls Tryd.prog 10 #[.string key, .slice (some ⟨p, 0, none⟩) 1 1] w' fun e w'' => e = .returned (.agg (rowOf 32 (w8 (macN key.data.toList s.data.toList)))) ∧ Below w'.heap.size w' w'') :=
    fun w' p hb hr => mac_row key (by omega) s (by omega) p w' (HK.out.below hb HK.out.1 hb.size) hr
  have M2 : Hid (∀ w', Calls Tryd.prog 11 #[.string key, .string s] w' fun e w'' => e = .returned (.agg (rowOf 32 (w8 (macN key.data.toList s.data.toList)))) ∧ Below w'.heap.size w' w'') := fun w' => refMac_any key (by omega) s (by omega) w'
  have D1 : Hid (∀ w', Below w.heap.size w w' → Calls Tryd.prog 12 #[.agg (rowOf 16 (w8 k)), .string label, .int .u64 (n : Int)] w' fun e w'' => e = .returned (.agg (rowOf 16 (w8 (deriveN k label n)))) ∧ Below w'.heap.size w' w'') :=
    fun w' hb => derive_any k HB label (by omega) n HN w' (HK.out.below hb HK.out.1 hb.size)
  have D2 : Hid (∀ w', Calls Tryd.prog 13 #[.agg (rowOf 16 (w8 k)), .string label, .int .u64 (n : Int)] w' fun e w'' => e = .returned (.agg (rowOf 16 (w8 (deriveN k label n)))) ∧ Below w'.heap.size w' w'') :=
    fun w' => refDerive_any k HB label (by omega) n HN w'
  generalize macN key.data.toList s.data.toList = y at *
  generalize deriveN k label n = z at *
  clear z1 z2 z3 HK HB HN
  go_wp2
  refine wp_region_steady (TagC w w.heap.size k) [eqv (.string key), eqv (.string s), seesv [s], eqv (.agg (rowOf 32 (w8 y))), eqv (.string key), eqv (.string s), eqv (.agg (rowOf 32 (w8 y))), eqv (.bool true), eqv (.bool true), eqv (.agg (rowOf 16 (w8 k))), eqv (.string label), eqv (.int .u64 (n : Int)), eqv (.agg (rowOf 16 (w8 z))), eqv (.agg (rowOf 16 (w8 k))), eqv (.string label), eqv (.int .u64 (n : Int)), eqv (.agg (rowOf 16 (w8 z))), eqv (.bool true), eqv (.bool true), eqv (.bool true)] (by kernel_rfl) (by kernel_rfl) HC
    (.cons (steady_eqv _) (.cons (steady_eqv _) (.cons (steady_seesv _) (.cons (steady_eqv _) (.cons (steady_eqv _) (.cons (steady_eqv _) (.cons (steady_eqv _) (.cons (steady_eqv _) (.cons (steady_eqv _) (.cons (steady_eqv _) (.cons (steady_eqv _) (.cons (steady_eqv _) (.cons (steady_eqv _) (.cons (steady_eqv _) (.cons (steady_eqv _) (.cons (steady_eqv _) (.cons (steady_eqv _) (.cons (steady_eqv _) (.cons (steady_eqv _) (.cons (steady_eqv _) .nil)))))))))))))))))))) ?_
  intro R hR
  refine wpRely_cons (fun w' hC hf => ?_) (fun v0 => ?_)
  · (repeat (first | (obtain ⟨rfl, hf⟩ := hf) | (obtain ⟨⟨q, rfl, hq⟩, hf⟩ := hf) | (obtain ⟨_, hf⟩ := hf)))
    exact grows_eqv (by rfl) hC (by go_simp)
  simp only [Act.put, List.setIfInBounds_toArray, List.set_cons_succ, List.set_cons_zero, List.nil_append, List.cons_append]
  refine wpRely_cons (fun w' hC hf => ?_) (fun v1 => ?_)
  · (repeat (first | (obtain ⟨rfl, hf⟩ := hf) | (obtain ⟨⟨q, rfl, hq⟩, hf⟩ := hf) | (obtain ⟨_, hf⟩ := hf)))
    exact grows_eqv (by rfl) hC (by go_simp)
  simp only [Act.put, List.setIfInBounds_toArray, List.set_cons_succ, List.set_cons_zero, List.nil_append, List.cons_append]
  refine wpRely_cons (fun w' hC hf => ?_) (fun v2 => ?_)
  · (repeat (first | (obtain ⟨rfl, hf⟩ := hf) | (obtain ⟨⟨q, rfl, hq⟩, hf⟩ := hf) | (obtain ⟨_, hf⟩ := hf)))
    exact grows_strs hR (fun _ _ hb h => h.after hb) hC (by rfl) (by go_simp)
  simp only [Act.put, List.setIfInBounds_toArray, List.set_cons_succ, List.set_cons_zero, List.nil_append, List.cons_append]
  refine wpRely_cons (fun w' hC hf => ?_) (fun v3 => ?_)
  · (repeat (first | (obtain ⟨rfl, hf⟩ := hf) | (obtain ⟨⟨q, rfl, hq⟩, hf⟩ := hf) | (obtain ⟨_, hf⟩ := hf)))
    exact grows_calls hR (fun _ _ hb h => h.after hb) hC (by rfl) (by go_simp) (M1.out w' q hC.1 hq)
  simp only [Act.put, List.setIfInBounds_toArray, List.set_cons_succ, List.set_cons_zero, List.nil_append, List.cons_append]
  refine wpRely_cons (fun w' hC hf => ?_) (fun v4 => ?_)
  · (repeat (first | (obtain ⟨rfl, hf⟩ := hf) | (obtain ⟨⟨q, rfl, hq⟩, hf⟩ := hf) | (obtain ⟨_, hf⟩ := hf)))
    exact grows_eqv (by rfl) hC (by go_simp)
  simp only [Act.put, List.setIfInBounds_toArray, List.set_cons_succ, List.set_cons_zero, List.nil_append, List.cons_append]
  refine wpRely_cons (fun w' hC hf => ?_) (fun v5 => ?_)
  · (repeat (first | (obtain ⟨rfl, hf⟩ := hf) | (obtain ⟨⟨q, rfl, hq⟩, hf⟩ := hf) | (obtain ⟨_, hf⟩ := hf)))
    exact grows_eqv (by rfl) hC (by go_simp)
  simp only [Act.put, List.setIfInBounds_toArray, List.set_cons_succ, List.set_cons_zero, List.nil_append, List.cons_append]
  refine wpRely_cons (fun w' hC hf => ?_) (fun v6 => ?_)
  · (repeat (first | (obtain ⟨rfl, hf⟩ := hf) | (obtain ⟨⟨q, rfl, hq⟩, hf⟩ := hf) | (obtain ⟨_, hf⟩ := hf)))
    exact grows_calls hR (fun _ _ hb h => h.after hb) hC (by rfl) (by go_simp) (M2.out w')
  simp only [Act.put, List.setIfInBounds_toArray, List.set_cons_succ, List.set_cons_zero, List.nil_append, List.cons_append]
  refine wpRely_cons (fun w' hC hf => ?_) (fun v7 => ?_)
  · (repeat (first | (obtain ⟨rfl, hf⟩ := hf) | (obtain ⟨⟨q, rfl, hq⟩, hf⟩ := hf) | (obtain ⟨_, hf⟩ := hf)))
    exact grows_eqv (by rfl) hC (run_eql_hash y rfl rfl rfl w')
  simp only [Act.put, List.setIfInBounds_toArray, List.set_cons_succ, List.set_cons_zero, List.nil_append, List.cons_append]
  refine wpRely_cons (fun w' hC hf => ?_) (fun v8 => ?_)
  · (repeat (first | (obtain ⟨rfl, hf⟩ := hf) | (obtain ⟨⟨q, rfl, hq⟩, hf⟩ := hf) | (obtain ⟨_, hf⟩ := hf)))
    exact grows_eqv (by rfl) hC (by go_simp)
  simp only [Act.put, List.setIfInBounds_toArray, List.set_cons_succ, List.set_cons_zero, List.nil_append, List.cons_append]
  refine wpRely_cons (fun w' hC hf => ?_) (fun v9 => ?_)
  · (repeat (first | (obtain ⟨rfl, hf⟩ := hf) | (obtain ⟨⟨q, rfl, hq⟩, hf⟩ := hf) | (obtain ⟨_, hf⟩ := hf)))
    exact grows_load (by rfl) hC rfl rfl (hC.2) Tryd.underlying23 rfl (info_key _)
  simp only [Act.put, List.setIfInBounds_toArray, List.set_cons_succ, List.set_cons_zero, List.nil_append, List.cons_append]
  refine wpRely_cons (fun w' hC hf => ?_) (fun v10 => ?_)
  · (repeat (first | (obtain ⟨rfl, hf⟩ := hf) | (obtain ⟨⟨q, rfl, hq⟩, hf⟩ := hf) | (obtain ⟨_, hf⟩ := hf)))
    exact grows_eqv (by rfl) hC (by go_simp)
  simp only [Act.put, List.setIfInBounds_toArray, List.set_cons_succ, List.set_cons_zero, List.nil_append, List.cons_append]
  refine wpRely_cons (fun w' hC hf => ?_) (fun v11 => ?_)
  · (repeat (first | (obtain ⟨rfl, hf⟩ := hf) | (obtain ⟨⟨q, rfl, hq⟩, hf⟩ := hf) | (obtain ⟨_, hf⟩ := hf)))
    exact grows_eqv (by rfl) hC (by go_simp)
  simp only [Act.put, List.setIfInBounds_toArray, List.set_cons_succ, List.set_cons_zero, List.nil_append, List.cons_append]
  refine wpRely_cons (fun w' hC hf => ?_) (fun v12 => ?_)
  · (repeat (first | (obtain ⟨rfl, hf⟩ := hf) | (obtain ⟨⟨q, rfl, hq⟩, hf⟩ := hf) | (obtain ⟨_, hf⟩ := hf)))
    exact grows_calls hR (fun _ _ hb h => h.after hb) hC (by rfl) (by go_simp) (D1.out w' hC.1)
  simp only [Act.put, List.setIfInBounds_toArray, List.set_cons_succ, List.set_cons_zero, List.nil_append, List.cons_append]
  refine wpRely_cons (fun w' hC hf => ?_) (fun v13 => ?_)
  · (repeat (first | (obtain ⟨rfl, hf⟩ := hf) | (obtain ⟨⟨q, rfl, hq⟩, hf⟩ := hf) | (obtain ⟨_, hf⟩ := hf)))
    exact grows_load (by rfl) hC rfl rfl (hC.2) Tryd.underlying23 rfl (info_key _)
  simp only [Act.put, List.setIfInBounds_toArray, List.set_cons_succ, List.set_cons_zero, List.nil_append, List.cons_append]
  refine wpRely_cons (fun w' hC hf => ?_) (fun v14 => ?_)
  · (repeat (first | (obtain ⟨rfl, hf⟩ := hf) | (obtain ⟨⟨q, rfl, hq⟩, hf⟩ := hf) | (obtain ⟨_, hf⟩ := hf)))
    exact grows_eqv (by rfl) hC (by go_simp)
  simp only [Act.put, List.setIfInBounds_toArray, List.set_cons_succ, List.set_cons_zero, List.nil_append, List.cons_append]
  refine wpRely_cons (fun w' hC hf => ?_) (fun v15 => ?_)
  · (repeat (first | (obtain ⟨rfl, hf⟩ := hf) | (obtain ⟨⟨q, rfl, hq⟩, hf⟩ := hf) | (obtain ⟨_, hf⟩ := hf)))
    exact grows_eqv (by rfl) hC (by go_simp)
  simp only [Act.put, List.setIfInBounds_toArray, List.set_cons_succ, List.set_cons_zero, List.nil_append, List.cons_append]
  refine wpRely_cons (fun w' hC hf => ?_) (fun v16 => ?_)
  · (repeat (first | (obtain ⟨rfl, hf⟩ := hf) | (obtain ⟨⟨q, rfl, hq⟩, hf⟩ := hf) | (obtain ⟨_, hf⟩ := hf)))
    exact grows_calls hR (fun _ _ hb h => h.after hb) hC (by rfl) (by go_simp) (D2.out w')
  simp only [Act.put, List.setIfInBounds_toArray, List.set_cons_succ, List.set_cons_zero, List.nil_append, List.cons_append]
  refine wpRely_cons (fun w' hC hf => ?_) (fun v17 => ?_)
  · (repeat (first | (obtain ⟨rfl, hf⟩ := hf) | (obtain ⟨⟨q, rfl, hq⟩, hf⟩ := hf) | (obtain ⟨_, hf⟩ := hf)))
    exact grows_eqv (by rfl) hC (run_eql_key z rfl rfl rfl w')
  simp only [Act.put, List.setIfInBounds_toArray, List.set_cons_succ, List.set_cons_zero, List.nil_append, List.cons_append]
  refine wpRely_cons (fun w' hC hf => ?_) (fun v18 => ?_)
  · (repeat (first | (obtain ⟨rfl, hf⟩ := hf) | (obtain ⟨⟨q, rfl, hq⟩, hf⟩ := hf) | (obtain ⟨_, hf⟩ := hf)))
    exact grows_eqv (by rfl) hC (by go_simp)
  simp only [Act.put, List.setIfInBounds_toArray, List.set_cons_succ, List.set_cons_zero, List.nil_append, List.cons_append]
  refine wpRely_cons (fun w' hC hf => ?_) (fun v19 => ?_)
  · (repeat (first | (obtain ⟨rfl, hf⟩ := hf) | (obtain ⟨⟨q, rfl, hq⟩, hf⟩ := hf) | (obtain ⟨_, hf⟩ := hf)))
    exact grows_eqv (by rfl) hC (by go_simp)
  simp only [Act.put, List.setIfInBounds_toArray, List.set_cons_succ, List.set_cons_zero, List.nil_append, List.cons_append]
  refine wpRely_nil fun w9 hC hf => ?_
  have b9 := hC.1
  obtain ⟨_, _, _, _, _, _, _, _, _, _, _, _, _, _, _, _, _, _, _, f19, _⟩ := hf
  subst f19
  clear M1 M2 D1 D2 hC HC
  go_wp2
  go_ret
  exact ⟨rfl, b9⟩

end Go.Proofs.YtkgfmbciiiojjaaDoor
