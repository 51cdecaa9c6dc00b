/-
  Contracts: the document's Parts, SameInts.
-/
import Derived.Test.YtlfgiggeeoegjaaDoorTermRefMay
import Derived.Test.YtlfgiggeeoegjaaDoorTermParts
namespace Go.Proofs.YtlfgiggeeoegjaaDoor
open Go.RowKit
set_option linter.unusedVariables false

set_option maxHeartbeats 2000000 in
set_option maxRecDepth 8000 in
theorem sameInts_any (n : Nat) (hn : n ≤ 1000000) (f : Nat → Nat) (a1 a2 : Option Addr) (c1 c2 : Nat) (w : World) (h1 : Hid (SeesI w a1 n f)) (h2 : Hid (SeesI w a2 n f)) :
    Calls Tryd.prog 17 #[.slice a1 n c1, .slice a2 n c2] w fun e w' => e = .returned (.bool true) ∧ Below w.heap.size w w' := by
  have d0 : ((n : Int) != (n : Int)) = false := by simp
  go_enter Tryd.func17, Tryd.ntmps17
  go_wp2
  go_loopw [5] (fun c wr => ∃ k : Nat, k ≤ n ∧ c = .int .i64 k ∧ Below w.heap.size w wr) (fun c _ => n - (intOf c).toNat)
  case atStart => exact ⟨0, Nat.zero_le _, rfl, Below.refl _ _⟩
  case round =>
    obtain ⟨k, hk, rfl, hb⟩ := hrel
    by_cases hlt : k < n
    · have lk : (k : Int) < (n : Int) := by omega
      have dk : (((f k : Nat) : Int) != ((f k : Nat) : Int)) = false := by simp
      have s1 := Lib.hid (h1.out.after hb.drew)
      have s2 := Lib.hid (h2.out.after hb.drew)
      have g1 := Lib.hid (s1.out.cell hlt)
      have g2 := Lib.hid (s2.out.cell hlt)
      unfold numV at g1 g2
      go_wp2
      refine wp_region_one (by kernel_rfl) (by kernel_rfl) ?_
      replace hb := hb.drew
      generalize wr.drew = w9 at *
      go_big_quiet_want; go_big_quiet_op; go_big_quiet_on
      go_big_quiet_want; go_big_quiet_op; go_big_quiet_on
      refine wpQuiet_val (by rfl) _ (fun w' _ => at_ints s1.out hlt rfl rfl rfl rfl w') ?_
      simp only [Act.put, List.setIfInBounds_toArray, List.set_cons_succ, List.set_cons_zero]
      refine wpQuiet_val (by rfl) _ (fun w' e => by subst e; exact get_int g1.out rfl rfl) ?_
      simp only [Act.put, List.setIfInBounds_toArray, List.set_cons_succ, List.set_cons_zero]
      go_big_quiet_want; go_big_quiet_op; go_big_quiet_on
      go_big_quiet_want; go_big_quiet_op; go_big_quiet_on
      refine wpQuiet_val (by rfl) _ (fun w' _ => at_ints s2.out hlt rfl rfl rfl rfl w') ?_
      simp only [Act.put, List.setIfInBounds_toArray, List.set_cons_succ, List.set_cons_zero]
      refine wpQuiet_val (by rfl) _ (fun w' e => by subst e; exact get_int g2.out rfl rfl) ?_
      simp only [Act.put, List.setIfInBounds_toArray, List.set_cons_succ, List.set_cons_zero]
      refine wpQuiet_val (by rfl) (.bool false) (fun w' _ => by go_simp) ?_
      simp only [Act.put, List.setIfInBounds_toArray, List.set_cons_succ, List.set_cons_zero]
      refine wpQuiet_nil ?_
      go_wp2
      go_roundw
      case rel => exact ⟨k + 1, by omega, by go_num, hb⟩
      case measure => simp [intOf]; omega
    · have lk : ¬ (k : Int) < (n : Int) := by omega
      go_wp2
      go_ret
      exact ⟨rfl, hb⟩

theorem filter_succ (f : Nat → Bool) (k : Nat) : (List.range (k + 1)).filter f = (List.range k).filter f ++ (if f k = true then [k] else []) := by
  rw [List.range_succ, List.filter_append]
  congr 1
  rw [List.filter_cons]
  split <;> simp_all

/-- The places told up to k. -/
def upL (K : Nds) (i k : Nat) : List Nat := (List.range k).filter (partB K i)
theorem upL_succ (K : Nds) (i k : Nat) : upL K i (k + 1) = upL K i k ++ (if partB K i k = true then [k] else []) := filter_succ _ _
theorem upL_pre (K : Nds) (i : Nat) : ∀ d k, ∃ r, upL K i (k + d) = upL K i k ++ r
  | 0, k => ⟨[], by simp⟩
  | d + 1, k => by
    obtain ⟨r, hr⟩ := upL_pre K i d k
    refine ⟨r ++ (if partB K i (k + d) = true then [k + d] else []), ?_⟩
    rw [← Nat.add_assoc, upL_succ, hr, List.append_assoc]
theorem upL_at {K : Nds} {i k : Nat} (hk : k ≤ i) (hp : partB K i k = true) : (partL K i).getD (upL K i k).length 0 = k ∧ (upL K i (k + 1)).length = (upL K i k).length + 1 := by
  have h1 : upL K i (k + 1) = upL K i k ++ [k] := by rw [upL_succ, if_pos hp]
  obtain ⟨r, hr⟩ := upL_pre K i (i - k) (k + 1)
  rw [show k + 1 + (i - k) = i + 1 by omega] at hr
  refine ⟨?_, by rw [h1]; simp⟩
  show (upL K i (i + 1)).getD _ 0 = _
  rw [hr, h1]
  simp [List.getD_eq_getElem?_getD]
theorem upL_none {K : Nds} {i k : Nat} (hp : partB K i k = false) : upL K i (k + 1) = upL K i k := by rw [upL_succ, hp]; simp
theorem upL_length (K : Nds) (i k : Nat) : (upL K i k).length ≤ k := by
  have := List.length_filter_le (partB K i) (List.range k)
  simpa [upL] using this

set_option maxHeartbeats 4000000 in
set_option maxRecDepth 8000 in
theorem refParts_yes (K : Nds) (n : Nat) (i : Nat) (hpl : placeB K n (i : Int) = true) (a : Option Addr) (c : Nat) (w : World) (hs : Hid (SeesN w a n K)) :
    Calls Tryd.prog 19 #[.slice a n c, .int .i64 (i : Int)] w (PartsEnd (partL K i) w) := by
  have H := place_any K n a c (i : Int) w hs
  rw [hpl] at H
  replace H := Lib.hid H
  obtain ⟨i', hi, e, hn, hK⟩ := place_yes hpl
  obtain rfl : i = i' := by omega
  clear hpl e
  replace hK := Lib.hid hK
  have li : (i : Int) < (n : Int) := by omega
  go_enter Tryd.func19, Tryd.ntmps19
  go_wp2_with fail
  refine H.out.mono ?_
  rintro e w1 ⟨rfl, hb1⟩
  clear H
  have m0 := Lib.hid (RowAt.new w1 4 (rowOf n (boolV fun _ => false)))
  have b2 := hb1.alloc hb1.size (.cells (rowOf n (boolV fun _ => false)) 4)
  have hq : w.heap.size ≤ w1.heap.size := hb1.size
  go_wp2_with (refine wpList_make_bools rfl _ _ rfl n _ rfl rfl rfl (by omega) (Hid.out ?_))
  unfold Hid
  generalize w1.alloc (.cells (rowOf n (boolV fun _ => false)) 4) = w2 at *
  generalize w1.heap.size = q at *
  clear hb1
  have cm := m0.out.cell i hi
  unfold boolV at cm
  have fm := m0.out.free i
  have b3 := b2.setCell (p := ⟨q, i, none⟩) hq (.bool true)
  have m1 : Hid (RowAt (w2.setCell ⟨q, i, none⟩ (.bool true)) q 4 (rowOf n (boolV (marks K i 0)))) := row_mark m0.out
  go_wp2
  generalize w2.setCell ⟨q, i, none⟩ (.bool true) = w3 at *
  clear m0 cm fm b2
  go_loopw [6] (fun v wr => ∃ t : Nat, t ≤ i + 1 ∧ v = .int .i64 ((i : Int) - (t : Int)) ∧ Hid (RowAt wr q 4 (rowOf n (boolV (marks K i t)))) ∧ Below w.heap.size w wr) (fun v _ => ((intOf v) + 1).toNat)
  case atStart => exact ⟨0, Nat.zero_le _, by simp, m1, b3⟩
  case round =>
    clear m1 b3
    obtain ⟨t, ht, rfl, hm, hb⟩ := hrel
    by_cases hti : t ≤ i
    · obtain ⟨x, hx⟩ : ∃ x, x = i - t := ⟨_, rfl⟩
      have ex : (i : Int) - (t : Int) = (x : Int) := by omega
      rw [ex]
      have ex2 : (i : Int) - ((t + 1 : Nat) : Int) = (x : Int) - 1 := by omega
      have hxn : x < n := by omega
      have lx0 : (0 : Int) ≤ (x : Int) := by omega
      have lx1 : (x : Int) < (n : Int) := by omega
      have cm := hm.out.cell x hxn
      unfold boolV at cm
      have s1 := Lib.hid (hs.out.after hb)
      have g0 := s1.out.cell (show x * 3 < n * 3 by omega)
      rw [flatN_0] at g0
      have hstep : Hid (marks K i (t + 1) = stepM K (marks K i t) x) := by
        show stepM K (marks K i t) (i - t) = _
        rw [← hx]
      replace ex := Lib.hid ex
      replace ex2 := Lib.hid ex2
      replace hx := Lib.hid hx
      cases hr : marks K i t x
      · rw [hr] at cm
        have em : Hid (RowAt wr q 4 (rowOf n (boolV (marks K i (t + 1))))) := by
          unfold Hid
          rw [hstep.out]
          unfold stepM
          rw [if_neg (by rw [hr]; simp)]
          exact hm.out
        clear hr hstep hm
        go_wp2
        go_roundw
        case rel => exact ⟨t + 1, by omega, by rw [ex2.out], em, hb⟩
        case measure => simp [intOf]
      · rw [hr] at cm
        rcases hK.out.kinds hxn with ⟨h0, _⟩ | ⟨h0, y, z, hy, hz, e1, e2⟩
        · have em : Hid (RowAt wr q 4 (rowOf n (boolV (marks K i (t + 1))))) := by
            unfold Hid
            rw [hstep.out]
            unfold stepM
            rw [if_neg (by rw [made_leaf h0]; simp)]
            exact hm.out
          have l2 : ¬ 2 ≤ K x 0 := by omega
          clear hr hstep hm
          go_wp2_with (first | (refine wpList_wknown rfl (at_refNodes s1.out hxn rfl rfl rfl rfl _) ?_) | (refine wpList_wknown rfl (get_int g0 rfl rfl) ?_))
          go_roundw
          case rel => exact ⟨t + 1, by omega, by rw [ex2.out], em, hb⟩
          case measure => simp [intOf]
        · have es : Hid (marks K i (t + 1) = setT (setT (marks K i t) y) z) := by
            unfold Hid
            rw [hstep.out]
            unfold stepM
            rw [if_pos ⟨hr, made_yes h0⟩, e1, e2, Int.toNat_natCast, Int.toNat_natCast]
          have l2 : 2 ≤ K x 0 := by omega
          have ly1 : (y : Int) < (n : Int) := by omega
          have lz1 : (z : Int) < (n : Int) := by omega
          have my := hm.out.cell y (by omega)
          unfold boolV at my
          have fy := hm.out.free y
          have m2 := Lib.hid (row_mark (j := y) hm.out)
          have mz := m2.out.cell z (by omega)
          unfold boolV at mz
          have fz := m2.out.free z
          have m3 := row_mark (j := z) m2.out
          rw [← es.out] at m3
          replace m3 := Lib.hid m3
          have b2 := hb.setCell (p := ⟨q, y, none⟩) hq (.bool true)
          have b3 := b2.setCell (p := ⟨q, z, none⟩) hq (.bool true)
          have s2 := Lib.hid (hs.out.after b2)
          have g1 := s1.out.cell (show x * 3 + 1 < n * 3 by omega)
          rw [flatN_1, e1] at g1
          have g2 := s2.out.cell (show x * 3 + 2 < n * 3 by omega)
          rw [flatN_2, e2] at g2
          have a1 : (elV a (x * 3)).add 1 = elV a (x * 3 + 1) := Deep.add_add _ _ _
          have a2 : (elV a (x * 3)).add 2 = elV a (x * 3 + 2) := Deep.add_add _ _ _
          clear hr hstep hm m2 es
          go_wp2_with (first | (refine wpList_wknown rfl (at_refNodes s1.out hxn rfl rfl rfl rfl _) ?_) | (refine wpList_wknown rfl (get_int g0 rfl rfl) ?_))
          generalize (wr.setCell ⟨q, y, none⟩ (.bool true)).setCell ⟨q, z, none⟩ (.bool true) = w9 at *
          go_roundw
          case rel => exact ⟨t + 1, by omega, by rw [ex2.out], m3, b3⟩
          case measure => simp [intOf]
    · have ex : (i : Int) - (t : Int) = -1 := by omega
      have et : t = i + 1 := by omega
      subst et
      rw [ex]
      clear ex
      have hm' : Hid (RowAt (wr.alloc (.cells #[] 3)) q 4 (rowOf n (boolV (partB K i)))) := hm.out.alloc _
      have hb' := hb.alloc hb.size (.cells #[] 3)
      have own0 : Hid ((wr.alloc (.cells #[] 3)).ownsRow w.heap.size 3 1 (.slice (some ⟨wr.heap.size, 0, none⟩) 0 0) 0 []) := World.ownsRow_made wr #[] 0 hb.size (by decide) rfl
      clear hm hb ht
      go_wp2
      generalize wr.alloc (.cells #[] 3) = w5 at *
      generalize wr.heap.size = g5 at *
      go_loopw [7, 8] (fun v c wr' => ∃ k : Nat, k ≤ i + 1 ∧ c = .int .i64 k ∧ Hid (wr'.ownsRow w.heap.size 3 1 v (upL K i k).length (cellL (upL K i k).length (numV fun j => (partL K i).getD j 0))) ∧ Hid (RowAt wr' q 4 (rowOf n (boolV (partB K i)))) ∧ Below w.heap.size w wr') (fun _ c _ => i + 1 - (intOf c).toNat)
      case atStart => exact ⟨0, Nat.zero_le _, rfl, own0, hm', hb'⟩
      case round =>
        clear own0 hm' hb'
        obtain ⟨k, hk, rfl, hown, hm, hb⟩ := hrel
        by_cases hlt : k ≤ i
        · have lk : (k : Int) ≤ (i : Int) := by omega
          have hkn : k < n := by omega
          have lkn : (k : Int) < (n : Int) := by omega
          have cm := hm.out.cell k hkn
          unfold boolV at cm
          cases hr : partB K i k
          · rw [hr] at cm
            have ed := Lib.hid (upL_none hr)
            have own2 := hown
            rw [← ed.out] at own2
            clear hr
            go_wp2
            go_roundw
            case rel => exact ⟨k + 1, by omega, by go_num, own2, hm, hb⟩
            case measure => simp [intOf]; omega
          · rw [hr] at cm
            obtain ⟨a7, c7, rfl, si7, q1, q2, q3⟩ := own_ints hown.out
            clear si7 q1 q2 q3
            obtain ⟨dg, dn⟩ := upL_at hlt hr
            have hle := upL_length K i k
            have dg' : (k : Int) = (((partL K i).getD (upL K i k).length 0 : Nat) : Int) := by rw [dg]
            replace dg' := Lib.hid dg'
            replace dn := Lib.hid dn
            clear hr dg
            go_wp2_with (at_builtin; refine wpList_append_num rfl _ _ rfl w.heap.size (.slice a7 (upL K i k).length c7) _ (fun j => (partL K i).getD j 0) (k : Int) dg'.out rfl _ hown.out rfl rfl rfl (by omega) hb.size ?_; intro v9 w9 own9 g9 b9; rw [← dn.out] at own9)
            have b10 := hb.trans b9.out
            have m10 : Hid (RowAt w9 q 4 (rowOf n (boolV (partB K i)))) := by
              refine (g9.out.block q hm.out.lt fun e => ?_).trans hm.out
              rcases hown.out.2 with ⟨h, _⟩ | ⟨g', cap, cur, h, _, hrow, _⟩
              · rw [h] at e
                cases e
              · rw [h] at e
                have : q = g' := by simpa [Value.ownBlock] using e
                subst this
                have h3 := hm.out
                unfold RowAt at h3
                rw [h3] at hrow
                cases hrow
            go_roundw
            case rel => exact ⟨k + 1, by omega, by go_num, own9, m10, b10⟩
            case measure => simp [intOf]; omega
        · have lk : ¬ (k : Int) ≤ (i : Int) := by omega
          have ek : k = i + 1 := by omega
          subst ek
          obtain ⟨a5, c5, rfl, si, _, _, _⟩ := own_ints hown.out
          have si' : Hid (SeesI _ a5 (partL K i).length (fun j => (partL K i).getD j 0)) := si
          clear hown si
          go_wp2
          go_ret
          exact ⟨a5, c5, rfl, si', hb⟩

set_option maxRecDepth 8000 in
theorem refParts_any (K : Nds) (n : Nat) (i : Int) (a : Option Addr) (c : Nat) (w : World) (hs : Hid (SeesN w a n K)) :
    Calls Tryd.prog 19 #[.slice a n c, .int .i64 i] w (PartsEnd (partsV K n i) w) := by
  unfold partsV
  cases hpl : placeB K n i
  · have H := place_any K n a c i w hs
    rw [hpl] at H
    replace H := Lib.hid H
    clear hpl
    show Calls _ _ _ _ (PartsEnd [] w)
    go_enter Tryd.func19, Tryd.ntmps19
    go_wp2_with fail
    refine H.out.mono ?_
    rintro e w1 ⟨rfl, hb⟩
    go_wp2
    go_ret
    exact ⟨none, 0, rfl, SeesV.nil _ _ _, hb⟩
  · obtain ⟨j, hj, rfl, _, _⟩ := place_yes hpl
    rw [if_pos rfl, Int.toNat_natCast]
    exact refParts_yes K n j hpl a c w hs

end Go.Proofs.YtlfgiggeeoegjaaDoor
