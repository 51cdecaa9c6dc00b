/-
  Contracts: the document's Classes, Same, SameInts.
-/
import Derived.Test.YtjhalbifljnfjaaTermRefMay
namespace Go.Proofs.Ytjhalbifljnfjaa
open Go.RowKit
set_option linter.unusedVariables false

set_option maxHeartbeats 4000000 in
set_option maxRecDepth 8000 in
theorem classes_any (K : Nds) (n : Nat) (hn : n ≤ 200) (hK : Hid (Wf K n)) (a : Option Addr) (c : Nat) (w : World) (hs : Hid (SeesN w a n K)) :
    Calls Try.prog 26 #[.slice a n c] w fun e w' => ∃ v, e = .returned v ∧ Hid (w'.ownsRow w.heap.size 3 1 v n (cellL n (numV (fst K)))) ∧ Below w.heap.size w w' := by
  go_enter Try.func26, Try.ntmps26
  go_wp2
  go_loopw [3, 4] (fun v c wr => ∃ i : Nat, i ≤ n ∧ c = .int .i64 i ∧ Hid (wr.ownsRow w.heap.size 3 1 v i (cellL i (numV (fst K)))) ∧ Below w.heap.size w wr) (fun _ c _ => n - (intOf c).toNat)
  case atStart => exact ⟨0, Nat.zero_le _, rfl, World.ownsRow_made _ _ _ (Nat.le_refl _) (by decide) rfl, (Below.refl _ _).alloc (Nat.le_refl _) _⟩
  case round =>
    obtain ⟨i, hi, rfl, hown, hb⟩ := hrel
    by_cases hin : i < n
    · have lk : (i : Int) < (n : Int) := by omega
      obtain ⟨a0, c0, rfl, q1, q2, q3, q4⟩ := own_ints hown.out
      clear q1 q2 q3 q4
      go_wp2
      go_loopw [5, 6] (fun b j wr' => ∃ t m : Nat, t ≤ i ∧ t ≤ m ∧ m ≤ i ∧ j = .int .i64 ((t : Int) - 1) ∧ b = .int .i64 (m : Int) ∧ Hid (tm K m = tm K i) ∧ Hid (∀ p, t ≤ p → p < m → tm K p ≠ tm K i) ∧ Hid (wr'.ownsRow w.heap.size 3 1 (.slice a0 i c0) i (cellL i (numV (fst K)))) ∧ Below w.heap.size w wr') (fun _ j _ => ((intOf j) + 1).toNat)
      case atStart => exact ⟨i, i, Nat.le_refl _, Nat.le_refl _, Nat.le_refl _, by first | rfl | (congr 1; omega), rfl, rfl, fun p h1 h2 => by omega, hown, hb⟩
      case round =>
        clear hown hb
        obtain ⟨t, m, hti, htm, hmi, rfl, rfl, em, hm, hown, hb⟩ := hrel
        by_cases ht : 0 < t
        · obtain ⟨j, rfl⟩ : ∃ j, t = j + 1 := ⟨t - 1, by omega⟩
          have ej : ((j + 1 : Nat) : Int) - 1 = (j : Int) := by omega
          rw [ej]
          have lj0 : (0 : Int) ≤ (j : Int) := by omega
          have hjn : j < n := by omega
          have s1 := Lib.hid (hs.out.after hb)
          have ts := Lib.hid (tm_same hK.out hin hjn)
          by_cases hop : K i 0 < 2
          · have hop2 : ¬ 2 ≤ K i 0 := by omega
            have hdc : decide (2 ≤ K i 0) = false := decide_eq_false hop2
            obtain ⟨r, hr⟩ : ∃ r, ((K i 1 : Int) == K j 1) = r := ⟨_, rfl⟩
            have al : Below wr.heap.size wr ((wr.alloc (.cells #[.int .i64 (K i 0), .int .i64 (K i 1), .int .i64 (K i 2)] 50)).alloc (.cells #[.int .i64 (K j 0), .int .i64 (K j 1), .int .i64 (K j 2)] 50)).drew := (((Below.refl _ _).alloc (Nat.le_refl _) _).alloc (by simp) _).drew
            have s2 := Lib.hid (hs.out.after (hb.alloc hb.size (.cells #[.int .i64 (K i 0), .int .i64 (K i 1), .int .i64 (K i 2)] 50)))
            have b3 := hb.trans (al.mono hb.size)
            have own3 := Lib.hid (own_onto hown.out al)
            obtain ⟨a1, c1, ev, si, _, _, _⟩ := own_ints own3.out
            cases ev
            replace si := Lib.hid si
            clear al hown
            cases hb1 : ((K i 0 : Int) == K j 0)
            · have hne : Hid (tm K j ≠ tm K i) := fun e => by
                have := (ts.out.1 e.symm).1
                rw [beq_eq_false_iff_ne] at hb1
                exact hb1 this
              go_wp2_with (first | (refine wpList_known rfl (at_refNodes s1.out hin rfl rfl rfl rfl _) ?_) | (refine wpList_known rfl (get_refNode s1.out hin rfl rfl) ?_) | (refine wpList_known rfl (at_refNodes s2.out hjn rfl rfl rfl rfl _) ?_) | (refine wpList_known rfl (get_refNode s2.out hjn rfl rfl) ?_))
              refine wp_region_one (by kernel_rfl) (by kernel_rfl) ?_
              repeat (first | go_big_quiet_skip | (go_big_quiet_want; go_big_quiet_op; go_big_quiet_on))
              refine wpQuiet_nil ?_
              generalize World.drew _ = w9 at *
              go_wp2
              go_roundw
              case rel =>
                refine ⟨j, m, by omega, by omega, hmi, by first | rfl | go_num, rfl, em, fun p h1 h2 => ?_, own3, b3⟩
                by_cases e : p = j
                · rw [e]; exact hne.out
                · exact hm.out p (by omega) h2
              case measure => simp [intOf]
            · cases r
              · have hne : Hid (tm K j ≠ tm K i) := fun e => by
                  rcases (ts.out.1 e.symm).2 with h | h
                  · rw [beq_eq_false_iff_ne] at hr
                    exact hr h.2
                  · omega
                go_wp2_with (first | (refine wpList_known rfl (at_refNodes s1.out hin rfl rfl rfl rfl _) ?_) | (refine wpList_known rfl (get_refNode s1.out hin rfl rfl) ?_) | (refine wpList_known rfl (at_refNodes s2.out hjn rfl rfl rfl rfl _) ?_) | (refine wpList_known rfl (get_refNode s2.out hjn rfl rfl) ?_))
                refine wp_region_one (by kernel_rfl) (by kernel_rfl) ?_
                repeat (first | go_big_quiet_skip | (go_big_quiet_want; go_big_quiet_op; go_big_quiet_on))
                refine wpQuiet_nil ?_
                generalize World.drew _ = w9 at *
                go_wp2
                go_roundw
                case rel =>
                  refine ⟨j, m, by omega, by omega, hmi, by first | rfl | go_num, rfl, em, fun p h1 h2 => ?_, own3, b3⟩
                  by_cases e : p = j
                  · rw [e]; exact hne.out
                  · exact hm.out p (by omega) h2
                case measure => simp [intOf]
              · have hsame : Hid (tm K j = tm K i) := (ts.out.2 ⟨by simpa using hb1, .inl ⟨hop, by simpa using hr⟩⟩).symm
                go_wp2_with (first | (refine wpList_known rfl (at_refNodes s1.out hin rfl rfl rfl rfl _) ?_) | (refine wpList_known rfl (get_refNode s1.out hin rfl rfl) ?_) | (refine wpList_known rfl (at_refNodes s2.out hjn rfl rfl rfl rfl _) ?_) | (refine wpList_known rfl (get_refNode s2.out hjn rfl rfl) ?_))
                refine wp_region_one (by kernel_rfl) (by kernel_rfl) ?_
                repeat (first | go_big_quiet_skip | (go_big_quiet_want; go_big_quiet_op; go_big_quiet_on))
                refine wpQuiet_nil ?_
                generalize World.drew _ = w9 at *
                go_wp2
                go_roundw
                case rel => exact ⟨j, j, by omega, Nat.le_refl _, by omega, by first | rfl | go_num, rfl, hsame, fun p h1 h2 => by omega, own3, b3⟩
                case measure => simp [intOf]
          · have hop2 : 2 ≤ K i 0 := by omega
            cases hb1 : ((K i 0 : Int) == K j 0)
            · have hne : Hid (tm K j ≠ tm K i) := fun e => by
                have := (ts.out.1 e.symm).1
                rw [beq_eq_false_iff_ne] at hb1
                exact hb1 this
              have al : Below wr.heap.size wr ((wr.alloc (.cells #[.int .i64 (K i 0), .int .i64 (K i 1), .int .i64 (K i 2)] 50)).alloc (.cells #[.int .i64 (K j 0), .int .i64 (K j 1), .int .i64 (K j 2)] 50)).drew := (((Below.refl _ _).alloc (Nat.le_refl _) _).alloc (by simp) _).drew
              have s2 := Lib.hid (hs.out.after (hb.alloc hb.size (.cells #[.int .i64 (K i 0), .int .i64 (K i 1), .int .i64 (K i 2)] 50)))
              have b3 := hb.trans (al.mono hb.size)
              have own3 := Lib.hid (own_onto hown.out al)
              obtain ⟨a1, c1, ev, si, _, _, _⟩ := own_ints own3.out
              cases ev
              replace si := Lib.hid si
              clear al hown
              go_wp2_with (first | (refine wpList_known rfl (at_refNodes s1.out hin rfl rfl rfl rfl _) ?_) | (refine wpList_known rfl (get_refNode s1.out hin rfl rfl) ?_) | (refine wpList_known rfl (at_refNodes s2.out hjn rfl rfl rfl rfl _) ?_) | (refine wpList_known rfl (get_refNode s2.out hjn rfl rfl) ?_))
              refine wp_region_one (by kernel_rfl) (by kernel_rfl) ?_
              repeat (first | go_big_quiet_skip | (go_big_quiet_want; go_big_quiet_op; go_big_quiet_on))
              refine wpQuiet_nil ?_
              generalize World.drew _ = w9 at *
              go_wp2
              go_roundw
              case rel =>
                refine ⟨j, m, by omega, by omega, hmi, by first | rfl | go_num, rfl, em, fun p h1 h2 => ?_, own3, b3⟩
                by_cases e : p = j
                · rw [e]; exact hne.out
                · exact hm.out p (by omega) h2
              case measure => simp [intOf]
            · have eij : K i 0 = K j 0 := by simpa using hb1
              obtain ⟨u, v, hu, hv, e1, e2⟩ : ∃ u v : Nat, u < i ∧ v < i ∧ K i 1 = u ∧ K i 2 = v := by
                rcases hK.out.kinds hin with ⟨h0, _⟩ | ⟨_, u, v, h⟩
                · omega
                · exact ⟨u, v, h⟩
              obtain ⟨u', v', hu', hv', e1', e2'⟩ : ∃ u v : Nat, u < i ∧ v < i ∧ K j 1 = u ∧ K j 2 = v := by
                rcases hK.out.kinds hjn with ⟨h0, _⟩ | ⟨_, u, v, h1, h2, h3⟩
                · omega
                · exact ⟨u, v, by omega, by omega, h3⟩
              have tf : Hid (tm K i = tm K j ↔ fst K u = fst K u' ∧ fst K v = fst K v') := by
                unfold Hid
                rw [ts.out, e1, e2, e1', e2', Int.toNat_natCast, Int.toNat_natCast, Int.toNat_natCast, Int.toNat_natCast, fst_same, fst_same]
                constructor
                · rintro ⟨_, h | h⟩
                  · omega
                  · exact h.2
                · intro h
                  exact ⟨eij, .inr ⟨hop2, h⟩⟩
              replace eij := Lib.hid eij
              clear ts
              have al : Below wr.heap.size wr ((wr.alloc (.cells #[.int .i64 (K i 0), .int .i64 (u : Int), .int .i64 (v : Int)] 50)).alloc (.cells #[.int .i64 (K j 0), .int .i64 (u' : Int), .int .i64 (v' : Int)] 50)).drew := (((Below.refl _ _).alloc (Nat.le_refl _) _).alloc (by simp) _).drew
              have s2 := Lib.hid (hs.out.after (hb.alloc hb.size (.cells #[.int .i64 (K i 0), .int .i64 (u : Int), .int .i64 (v : Int)] 50)))
              have b3 := hb.trans (al.mono hb.size)
              have own3 := Lib.hid (own_onto hown.out al)
              obtain ⟨a1, c1, ev, si, _, _, _⟩ := own_ints own3.out
              cases ev
              replace si := Lib.hid si
              clear al hown
              have gu := Lib.hid (si.out.cell hu)
              have gv := Lib.hid (si.out.cell hv)
              have gu' := Lib.hid (si.out.cell hu')
              have gv' := Lib.hid (si.out.cell hv')
              unfold numV at gu gv gu' gv'
              cases hd : (((fst K u : Nat) : Int) == ((fst K u' : Nat) : Int))
              · have hne : Hid (tm K j ≠ tm K i) := fun e => by
                  rw [beq_eq_false_iff_ne] at hd
                  exact hd (by rw [(tf.out.1 e.symm).1])
                go_wp2_with (first | (refine wpList_known rfl (at_refNodes s1.out hin rfl rfl rfl rfl _) ?_) | (refine wpList_known rfl (get_refNode s1.out hin rfl rfl) ?_) | (refine wpList_known rfl (at_refNodes s2.out hjn rfl rfl rfl rfl _) ?_) | (refine wpList_known rfl (get_refNode s2.out hjn rfl rfl) ?_))
                refine wp_region_one (by kernel_rfl) (by kernel_rfl) ?_
                repeat (first | go_big_quiet_skip | (go_big_quiet_want; go_big_quiet_op; go_big_quiet_on))
                refine wpQuiet_val (by rfl) _ (fun w' _ => at_ints si.out hu rfl rfl rfl rfl w') ?_
                simp only [Act.put, List.setIfInBounds_toArray, List.set_cons_succ, List.set_cons_zero]
                refine wpQuiet_val (by rfl) _ (fun w' e => by subst e; exact get_int gu.out rfl rfl) ?_
                simp only [Act.put, List.setIfInBounds_toArray, List.set_cons_succ, List.set_cons_zero]
                repeat (first | go_big_quiet_skip | (go_big_quiet_want; go_big_quiet_op; go_big_quiet_on))
                refine wpQuiet_val (by rfl) _ (fun w' _ => at_ints si.out hu' rfl rfl rfl rfl w') ?_
                simp only [Act.put, List.setIfInBounds_toArray, List.set_cons_succ, List.set_cons_zero]
                refine wpQuiet_val (by rfl) _ (fun w' e => by subst e; exact get_int gu'.out rfl rfl) ?_
                simp only [Act.put, List.setIfInBounds_toArray, List.set_cons_succ, List.set_cons_zero]
                repeat (first | go_big_quiet_skip | (go_big_quiet_want; go_big_quiet_op; go_big_quiet_on))
                refine wpQuiet_nil ?_
                generalize World.drew _ = w9 at *
                go_wp2
                go_roundw
                case rel =>
                  refine ⟨j, m, by omega, by omega, hmi, by first | rfl | go_num, rfl, em, fun p h1 h2 => ?_, own3, b3⟩
                  by_cases e : p = j
                  · rw [e]; exact hne.out
                  · exact hm.out p (by omega) h2
                case measure => simp [intOf]
              · have hd' : fst K u = fst K u' := by have := eq_of_beq hd; omega
                cases he : (((fst K v : Nat) : Int) == ((fst K v' : Nat) : Int))
                · have hne : Hid (tm K j ≠ tm K i) := fun e => by
                    rw [beq_eq_false_iff_ne] at he
                    exact he (by rw [(tf.out.1 e.symm).2])
                  replace hd' := Lib.hid hd'
                  go_wp2_with (first | (refine wpList_known rfl (at_refNodes s1.out hin rfl rfl rfl rfl _) ?_) | (refine wpList_known rfl (get_refNode s1.out hin rfl rfl) ?_) | (refine wpList_known rfl (at_refNodes s2.out hjn rfl rfl rfl rfl _) ?_) | (refine wpList_known rfl (get_refNode s2.out hjn rfl rfl) ?_))
                  refine wp_region_one (by kernel_rfl) (by kernel_rfl) ?_
                  repeat (first | go_big_quiet_skip | (go_big_quiet_want; go_big_quiet_op; go_big_quiet_on))
                  refine wpQuiet_val (by rfl) _ (fun w' _ => at_ints si.out hu rfl rfl rfl rfl w') ?_
                  simp only [Act.put, List.setIfInBounds_toArray, List.set_cons_succ, List.set_cons_zero]
                  refine wpQuiet_val (by rfl) _ (fun w' e => by subst e; exact get_int gu.out rfl rfl) ?_
                  simp only [Act.put, List.setIfInBounds_toArray, List.set_cons_succ, List.set_cons_zero]
                  repeat (first | go_big_quiet_skip | (go_big_quiet_want; go_big_quiet_op; go_big_quiet_on))
                  refine wpQuiet_val (by rfl) _ (fun w' _ => at_ints si.out hu' rfl rfl rfl rfl w') ?_
                  simp only [Act.put, List.setIfInBounds_toArray, List.set_cons_succ, List.set_cons_zero]
                  refine wpQuiet_val (by rfl) _ (fun w' e => by subst e; exact get_int gu'.out rfl rfl) ?_
                  simp only [Act.put, List.setIfInBounds_toArray, List.set_cons_succ, List.set_cons_zero]
                  repeat (first | go_big_quiet_skip | (go_big_quiet_want; go_big_quiet_op; go_big_quiet_on))
                  refine wpQuiet_val (by rfl) _ (fun w' _ => at_ints si.out hv rfl rfl rfl rfl w') ?_
                  simp only [Act.put, List.setIfInBounds_toArray, List.set_cons_succ, List.set_cons_zero]
                  refine wpQuiet_val (by rfl) _ (fun w' e => by subst e; exact get_int gv.out rfl rfl) ?_
                  simp only [Act.put, List.setIfInBounds_toArray, List.set_cons_succ, List.set_cons_zero]
                  repeat (first | go_big_quiet_skip | (go_big_quiet_want; go_big_quiet_op; go_big_quiet_on))
                  refine wpQuiet_val (by rfl) _ (fun w' _ => at_ints si.out hv' rfl rfl rfl rfl w') ?_
                  simp only [Act.put, List.setIfInBounds_toArray, List.set_cons_succ, List.set_cons_zero]
                  refine wpQuiet_val (by rfl) _ (fun w' e => by subst e; exact get_int gv'.out rfl rfl) ?_
                  simp only [Act.put, List.setIfInBounds_toArray, List.set_cons_succ, List.set_cons_zero]
                  repeat (first | go_big_quiet_skip | (go_big_quiet_want; go_big_quiet_op; go_big_quiet_on))
                  refine wpQuiet_nil ?_
                  generalize World.drew _ = w9 at *
                  go_wp2
                  go_roundw
                  case rel =>
                    refine ⟨j, m, by omega, by omega, hmi, by first | rfl | go_num, rfl, em, fun p h1 h2 => ?_, own3, b3⟩
                    by_cases e : p = j
                    · rw [e]; exact hne.out
                    · exact hm.out p (by omega) h2
                  case measure => simp [intOf]
                · have hsame : Hid (tm K j = tm K i) := (tf.out.2 ⟨hd', by have := eq_of_beq he; omega⟩).symm
                  replace hd' := Lib.hid hd'
                  go_wp2_with (first | (refine wpList_known rfl (at_refNodes s1.out hin rfl rfl rfl rfl _) ?_) | (refine wpList_known rfl (get_refNode s1.out hin rfl rfl) ?_) | (refine wpList_known rfl (at_refNodes s2.out hjn rfl rfl rfl rfl _) ?_) | (refine wpList_known rfl (get_refNode s2.out hjn rfl rfl) ?_))
                  refine wp_region_one (by kernel_rfl) (by kernel_rfl) ?_
                  repeat (first | go_big_quiet_skip | (go_big_quiet_want; go_big_quiet_op; go_big_quiet_on))
                  refine wpQuiet_val (by rfl) _ (fun w' _ => at_ints si.out hu rfl rfl rfl rfl w') ?_
                  simp only [Act.put, List.setIfInBounds_toArray, List.set_cons_succ, List.set_cons_zero]
                  refine wpQuiet_val (by rfl) _ (fun w' e => by subst e; exact get_int gu.out rfl rfl) ?_
                  simp only [Act.put, List.setIfInBounds_toArray, List.set_cons_succ, List.set_cons_zero]
                  repeat (first | go_big_quiet_skip | (go_big_quiet_want; go_big_quiet_op; go_big_quiet_on))
                  refine wpQuiet_val (by rfl) _ (fun w' _ => at_ints si.out hu' rfl rfl rfl rfl w') ?_
                  simp only [Act.put, List.setIfInBounds_toArray, List.set_cons_succ, List.set_cons_zero]
                  refine wpQuiet_val (by rfl) _ (fun w' e => by subst e; exact get_int gu'.out rfl rfl) ?_
                  simp only [Act.put, List.setIfInBounds_toArray, List.set_cons_succ, List.set_cons_zero]
                  repeat (first | go_big_quiet_skip | (go_big_quiet_want; go_big_quiet_op; go_big_quiet_on))
                  refine wpQuiet_val (by rfl) _ (fun w' _ => at_ints si.out hv rfl rfl rfl rfl w') ?_
                  simp only [Act.put, List.setIfInBounds_toArray, List.set_cons_succ, List.set_cons_zero]
                  refine wpQuiet_val (by rfl) _ (fun w' e => by subst e; exact get_int gv.out rfl rfl) ?_
                  simp only [Act.put, List.setIfInBounds_toArray, List.set_cons_succ, List.set_cons_zero]
                  repeat (first | go_big_quiet_skip | (go_big_quiet_want; go_big_quiet_op; go_big_quiet_on))
                  refine wpQuiet_val (by rfl) _ (fun w' _ => at_ints si.out hv' rfl rfl rfl rfl w') ?_
                  simp only [Act.put, List.setIfInBounds_toArray, List.set_cons_succ, List.set_cons_zero]
                  refine wpQuiet_val (by rfl) _ (fun w' e => by subst e; exact get_int gv'.out rfl rfl) ?_
                  simp only [Act.put, List.setIfInBounds_toArray, List.set_cons_succ, List.set_cons_zero]
                  repeat (first | go_big_quiet_skip | (go_big_quiet_want; go_big_quiet_op; go_big_quiet_on))
                  refine wpQuiet_nil ?_
                  generalize World.drew _ = w9 at *
                  go_wp2
                  go_roundw
                  case rel => exact ⟨j, j, by omega, Nat.le_refl _, by omega, by first | rfl | go_num, rfl, hsame, fun p h1 h2 => by omega, own3, b3⟩
                  case measure => simp [intOf]
        · have et : t = 0 := by omega
          subst et
          have ej : ((0 : Nat) : Int) - 1 = -1 := by omega
          rw [ej]
          have ef : (m : Int) = ((fst K i : Nat) : Int) := by rw [fst_unique em.out (fun p hp => hm.out p (Nat.zero_le _) hp)]
          replace ef := Lib.hid ef
          clear ej em hm
          go_wp2_with (at_builtin; refine wpList_append_num rfl _ _ rfl w.heap.size _ i (fst K) (m : Int) ef.out rfl wr hown.out rfl rfl rfl (by omega) hb.size ?_; intro v9 w9 own9 g9 b9)
          have b10 := hb.trans b9.out
          go_roundw
          case rel => exact ⟨i + 1, by omega, by go_num, own9, b10⟩
          case measure => simp [intOf]; omega
    · have lk : ¬ (i : Int) < (n : Int) := by omega
      have ei : i = n := by omega
      subst ei
      go_wp2
      go_ret
      exact ⟨_, rfl, hown, hb⟩

end Go.Proofs.Ytjhalbifljnfjaa
