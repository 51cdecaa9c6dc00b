/-
  The walk of AdversaryNeeds.
-/
import Derived.Test.YtjhalbifljnfjaaAdvNeedsRely
import Derived.Test.YtjhalbifljnfjaaOpen
namespace Go.Proofs.Ytjhalbifljnfjaa
open Go.RowKit Go.Maps
set_option linter.unusedVariables false

set_option maxHeartbeats 4000000 in
set_option maxRecDepth 8000 in
theorem needs_nothing (a : Option Addr) (n c : Nat) (K : Nds) (ak : Option Addr) (k ck : Nat) (t : Int) (w : World) (hs : Hid (SeesN w a n K)) (hc : n ≤ c) (h : 40 < n ∨ 40 < k ∨ mayB K n = false ∨ n = 0) :
    Calls Try.prog 8 #[.slice a n c, .slice ak k ck, .int .u8 t] w fun e w' => e = .returned (.bool true) ∧ Below w.heap.size w w' := by
  have S : Hid (∀ w', _) := fun w' => shown9_any w'
  by_cases h40 : 40 < n
  · have l0 : (40 : Int) < (n : Int) := by omega
    go_enter Try.func8, Try.ntmps8
    go_wp2_with fail
    refine (S.out w).mono ?_
    rintro e w1 ⟨rfl, hb1⟩
    go_wp2
    go_ret
    exact ⟨rfl, hb1⟩
  have l0 : ¬ (40 : Int) < (n : Int) := by omega
  by_cases k40 : 40 < k
  · have l1 : (40 : Int) < (k : Int) := by omega
    go_enter Try.func8, Try.ntmps8
    go_wp2_with fail
    refine (S.out w).mono ?_
    rintro e w1 ⟨rfl, hb1⟩
    go_wp2
    go_ret
    exact ⟨rfl, hb1⟩
  have l1 : ¬ (40 : Int) < (k : Int) := by omega
  have M := may_any K n a c hc w hs
  by_cases hm : mayB K n = false
  · rw [hm] at M
    replace M := Lib.hid M
    clear h hm h40 k40
    go_enter Try.func8, Try.ntmps8
    go_wp2_with fail
    refine M.out.mono ?_
    rintro e w1 ⟨rfl, hb1⟩
    go_wp2_with fail
    refine (S.out w1).mono ?_
    rintro e w2 ⟨rfl, hb2⟩
    have b2 := hb1.trans (hb2.mono hb1.size)
    go_wp2
    go_ret
    exact ⟨rfl, b2⟩
  · have hm' : mayB K n = true := by simpa using hm
    have h0 : n = 0 := by
      rcases h with h | h | h | h
      · omega
      · omega
      · exact absurd h hm
      · exact h
    subst h0
    rw [hm'] at M
    replace M := Lib.hid M
    clear h hm hm' h40 k40
    go_enter Try.func8, Try.ntmps8
    go_wp2_with fail
    refine M.out.mono ?_
    rintro e w1 ⟨rfl, hb1⟩
    go_wp2_with fail
    refine (S.out w1).mono ?_
    rintro e w2 ⟨rfl, hb2⟩
    have b2 := hb1.trans (hb2.mono hb1.size)
    go_wp2
    go_ret
    exact ⟨rfl, b2⟩

set_option maxHeartbeats 8000000 in
set_option maxRecDepth 8000 in
theorem needs_asked (a : Option Addr) (n c : Nat) (K : Nds) (ak : Option Addr) (k ck : Nat) (f : Nat → Int) (t : Nat) (w : World) (hs : Hid (SeesN w a n K)) (hf : Hid (SeesZ w ak k f)) (hnil : Hid (ak = none → ck = 0)) (hc : n ≤ c) (hn : n ≤ 40) (hk : k ≤ 40) (hm : mayB K n = true) (h0 : 0 < n) (ht : t < 256) :
    Calls Try.prog 8 #[.slice a n c, .slice ak k ck, .int .u8 (t : Int)] w fun e w' => e = .returned (.bool true) ∧ Below w.heap.size w w' := by
  have S : Hid (∀ w', _) := fun w' => shown9_any w'
  have l0 : ¬ (40 : Int) < (n : Int) := by omega
  have l1 : ¬ (40 : Int) < (k : Int) := by omega
  have l2 : ((n : Int) == 0) = false := by simp; omega
  have l3 : (n : Int) ≠ 0 := by omega
  have M := may_any K n a c hc w hs
  rw [hm] at M
  replace M := Lib.hid M
  obtain ⟨x, hx⟩ : ∃ x, x = t % n := ⟨_, rfl⟩
  have hxn : x < n := by rw [hx]; exact Nat.mod_lt _ h0
  have ex : (t : Int) % (n : Int) = (x : Int) := by rw [hx]; exact (Int.natCast_emod t n).symm
  have tx : (t : Int).tmod (n : Int) = (x : Int) := by rw [Int.tmod_eq_emod_of_nonneg (by omega)]; exact ex
  clear hx
  have hki : Hid (∀ i, i < n → K i 0 = 1 → knB K n (inZ f k) x = false → knB K n (fun j => inZ f k j ∨ j = i) x = decide (K i 1 ∈ needsL K n (inZ f k) (x : Int))) := fun i hi h1 h2 => needs_key hm hxn h2 hi h1
  have hkn : Hid (knB K n (inZ f k) x = true → needsL K n (inZ f k) (x : Int) = []) := needs_known
  have hlen : (needsL K n (inZ f k) (x : Int)).length ≤ 40 := by
    unfold needsL
    split
    · have h1 := riseL_length (needL K n (inZ f k) (x : Int).toNat n)
      have h2 : (needL K n (inZ f k) (x : Int).toNat n).length ≤ n := by unfold needL; exact selL_length _ _ _
      omega
    · simp
  have hrise := Lib.hid (needs_rise K n (inZ f k) (x : Int))
  have hsml := Lib.hid (needs_small (S := inZ f k) (x := (x : Int)) hm)
  have hK1 : Hid (∀ i, i < n → K i 0 = 1 → 0 ≤ K i 1 ∧ K i 1 ≤ 1000000) := by
    intro i hi h1
    rcases ((mayB_iff K n).1 hm).2.kinds hi with ⟨_, ⟨u, hu, eu⟩, _⟩ | ⟨h5, _⟩
    · omega
    · omega
  have hcan : Hid (∀ T, canB K n T (x : Int) = knB K n T x) := by
    intro T
    unfold canB inB
    rw [hm, Int.toNat_natCast]
    simp
    intro _
    omega
  go_enter Try.func8, Try.ntmps8
  go_wp2_with fail
  refine M.out.mono ?_
  rintro e w1 ⟨rfl, hb1⟩
  go_wp2_with fail
  refine (S.out w1).mono ?_
  rintro e w2 ⟨rfl, hb2⟩
  have b2 := hb1.trans (hb2.mono hb1.size)
  have N1 := Lib.hid (advNeeds_any K n a ak c k ck hc (by omega) f (x : Int) w2 (hs.out.after b2) (hf.out.after b2))
  clear S M hb1 hb2
  go_wp2_with fail
  refine N1.out.mono ?_
  rintro e w3 ⟨v3, rfl, own3, hb3⟩
  obtain ⟨a8, c8, rfl, si⟩ := own_zs_see own3.out
  replace si := Lib.hid si
  have b3 := b2.trans (hb3.mono b2.size)
  clear N1 own3 hb3 b2
  generalize needsL K n (inZ f k) (x : Int) = nd at *
  obtain ⟨N, hN⟩ : ∃ N, nd.length = N := ⟨_, rfl⟩
  rw [hN] at si ⊢
  have hmm := @run_makeMap Try.prog
  have om0 : Hid (OwnM9 (w3.alloc (.map #[] 0)) w3.heap.size 0 (.map [])) := World.ownsMap_made _ _ _ _
  have b4 := b3.alloc b3.size (.map #[] 0)
  have si4 := Lib.hid (si.out.after ((Below.refl _ w3).alloc (Nat.le_refl _) (.map #[] 0)))
  have hbm : w.heap.size ≤ w3.heap.size := b3.size
  have hND : N ≤ 40 := by omega
  clear hlen
  go_wp2
  clear hmm si b3
  generalize w3.alloc (.map #[] 0) = w4 at *
  generalize w3.heap.size = bm at *
  go_loopg [10] N (fun g v10 wr => ∃ i : Nat, i + g = N ∧ v10 = .int .i64 (i : Int) ∧ Hid (∃ D, OwnM9 wr bm i D ∧ CountsZ D (nd.take i)) ∧ Hid (SeesZ wr a8 N (fun j => nd.getD j 0)) ∧ Below w.heap.size w wr)
  case atStart => exact ⟨0, by omega, rfl, ⟨_, om0.out, by rw [List.take_zero]; exact countsZ_none⟩, si4, b4⟩
  case round =>
    clear om0 si4 b4
    obtain ⟨i, hi, rfl, hD, si, hb⟩ := hrel
    obtain ⟨D, om, hct⟩ := hD.out
    by_cases hlt : i < N
    · have lk : (i : Int) < (N : Int) := by omega
      have gk' : wr.cell? (elV a8 i) = some (.int .i64 (nd.getD i 0)) := SeesV.cell si.out hlt
      have hsm := hsml.out _ (getD_mem (show i < nd.length by omega))
      obtain ⟨fr1, fr2⟩ := take_freshZ hrise.out (k := i) (by omega)
      have hup : 0 < i → nd.getD (i - 1) 0 < nd.getD i 0 := fun h => by
        have := rise_at hrise.out (k := i - 1) (by omega)
        rwa [show i - 1 + 1 = i by omega] at this
      have gk0 : Hid (∀ w', SeesZ w' a8 N (fun j => nd.getD j 0) → w'.cell? (elV a8 i) = some (.int .i64 (nd.getD i 0)) ∧ w'.cell? (elV a8 (i - 1)) = some (.int .i64 (nd.getD (i - 1) 0))) := fun w' h => ⟨SeesV.cell h hlt, SeesV.cell h (by omega)⟩
      generalize nd.getD i 0 = q at gk' hsm fr1 fr2 hup gk0
      generalize nd.getD (i - 1) 0 = q0 at hup gk0
      have hq0 : 0 ≤ q := hsm.1
      have hq1 : q ≤ 1000000 := by omega
      have at0 := hct q hq0 hq1
      rw [if_neg fr1] at at0
      have hkey := key9 hq0 hq1
      have one : plainElem (H := Unit) Try.prog 3 (.int .i64 1) = some (.lit (.int .i64 1), []) := plainElem_int Try.underlying3 (by decide)
      replace gk' := Lib.hid gk'
      replace om := Lib.hid om
      replace at0 := Lib.hid at0
      replace hct := Lib.hid hct
      replace fr2 := Lib.hid fr2
      replace hup := Lib.hid hup
      clear hD fr1
      go_wp2_with (first | (refine wpList_known rfl (at_intsV si.out hlt rfl rfl rfl rfl _) ?_) | (refine wpList_known rfl (get_int gk'.out rfl rfl) ?_) | (refine wpList_known rfl (run_look9 om.out hq0 hq1 at0.out rfl rfl rfl) ?_) | (at_mapUpdate; refine wpList_mapUpdate_own _ rfl _ _ _ 48 rfl 3 3 keyed9 Try.underlying48 _ bm i D rfl om.out (by unfold maxLen; omega) _ _ _ rfl rfl hkey _ [] one ?_; intro w5 om5 g5; refine Hid.out ?_))
      unfold Hid
      have b5 : Below w.heap.size w w5 := hb.grown g5 hb.size (fun j hj => by cases hj; exact hbm)
      have si5 : Hid (SeesZ w5 a8 N (fun j => nd.getD j 0)) := SeesV.kept si.out fun ad e hl => ⟨Nat.lt_of_lt_of_le hl g5.size, g5.block ad.block hl fun e2 => by
        obtain ⟨es, clock, hmap, _⟩ := om.out
        have eb : ad.block = bm := by simpa using e2
        have hc0 := SeesV.cell si.out (show 0 < N by omega)
        rw [e] at hc0
        have h3 : wr.cell? (elV (some ad) 0) = none := by
          show wr.cell? (ad.add 0) = none
          rw [add_zero]
          unfold World.cell?
          rw [eb, hmap]
        rw [h3] at hc0
        cases hc0⟩
      have ct5 : Hid (∃ D, OwnM9 w5 bm (i + 1) D ∧ CountsZ D (nd.take (i + 1))) := ⟨_, om5, by rw [fr2.out]; exact countsZ_one hct.out om.out.isMap hq0 hq1⟩
      clear om5 g5 hb si gk' om at0 hct fr2 one hkey
      by_cases hi0 : 0 < i
      · have li0 : (0 : Int) < (i : Int) := by omega
        obtain ⟨j, hj⟩ : ∃ j, i - 1 = j := ⟨_, rfl⟩
        have ej : (i : Int) - 1 = (j : Int) := by omega
        have hjN : j < N := by omega
        rw [hj] at gk0
        have hle : ¬ q ≤ q0 := by have := hup.out hi0; omega
        go_wp2
        refine wp_region_one (by kernel_rfl) (by kernel_rfl) ?_
        have si6 := Lib.hid (si5.out.after ((Below.refl _ w5).drew))
        have ct6 : Hid (∃ D, OwnM9 w5.drew bm (i + 1) D ∧ CountsZ D (nd.take (i + 1))) := by
          obtain ⟨D, h1, h2⟩ := ct5.out
          exact ⟨D, h1.drew, h2⟩
        have b6 := b5.drew
        clear si5 ct5 b5
        generalize w5.drew = w6 at *
        obtain ⟨g1, g2⟩ := gk0.out w6 si6.out
        replace g1 := Lib.hid g1
        replace g2 := Lib.hid g2
        go_big_quiet_want; go_big_quiet_op; go_big_quiet_on
        go_big_quiet_want; go_big_quiet_op; go_big_quiet_on
        go_big_quiet_want; go_big_quiet_op; go_big_quiet_on
        go_big_quiet_want; go_big_quiet_op; go_big_quiet_on
        go_big_quiet_want; go_big_quiet_op; go_big_quiet_on
        refine wpQuiet_val (by rfl) _ (fun w' _ => at_intsV si6.out hlt rfl rfl rfl rfl w') ?_
        simp only [Act.put, List.setIfInBounds_toArray, List.set_cons_succ, List.set_cons_zero]
        refine wpQuiet_val (by rfl) _ (fun w' e => by subst e; exact get_int g1.out rfl rfl) ?_
        simp only [Act.put, List.setIfInBounds_toArray, List.set_cons_succ, List.set_cons_zero]
        go_big_quiet_want; go_big_quiet_op; go_big_quiet_on
        go_big_quiet_want; go_big_quiet_op; go_big_quiet_on
        refine wpQuiet_val (by rfl) (.int .i64 (j : Int)) (fun w' _ => by go_simp; rw [IntWalk.i64_in _ (by omega)]) ?_
        simp only [Act.put, List.setIfInBounds_toArray, List.set_cons_succ, List.set_cons_zero]
        refine wpQuiet_val (by rfl) _ (fun w' _ => at_intsV si6.out hjN rfl rfl rfl rfl w') ?_
        simp only [Act.put, List.setIfInBounds_toArray, List.set_cons_succ, List.set_cons_zero]
        refine wpQuiet_val (by rfl) _ (fun w' e => by subst e; exact get_int g2.out rfl rfl) ?_
        simp only [Act.put, List.setIfInBounds_toArray, List.set_cons_succ, List.set_cons_zero]
        refine wpQuiet_val (by rfl) (.bool false) (fun w' _ => by go_simp) ?_
        simp only [Act.put, List.setIfInBounds_toArray, List.set_cons_succ, List.set_cons_zero]
        go_big_quiet_want; go_big_quiet_op; go_big_quiet_on
        refine wpQuiet_nil ?_
        go_wp2
        go_roundg (N - (i + 1))
        case measure => omega
        case rel => exact ⟨i + 1, by omega, by go_num, ct6, si6, b6⟩
      · have li0 : decide ((0 : Int) < (i : Int)) = false := by simp; omega
        go_wp2
        refine wp_region_one (by kernel_rfl) (by kernel_rfl) ?_
        have si6 := Lib.hid (si5.out.after ((Below.refl _ w5).drew))
        have ct6 : Hid (∃ D, OwnM9 w5.drew bm (i + 1) D ∧ CountsZ D (nd.take (i + 1))) := by
          obtain ⟨D, h1, h2⟩ := ct5.out
          exact ⟨D, h1.drew, h2⟩
        have b6 := b5.drew
        clear si5 ct5 b5
        generalize w5.drew = w6 at *
        go_big_quiet_want; go_big_quiet_op; go_big_quiet_on
        refine wpQuiet_val (by rfl) (.bool false) (fun w' _ => by go_simp) ?_
        simp only [Act.put, List.setIfInBounds_toArray, List.set_cons_succ, List.set_cons_zero]
        go_big_quiet_want; go_big_quiet_op; go_big_quiet_on
        go_big_quiet_skip
        go_big_quiet_skip
        go_big_quiet_skip
        go_big_quiet_skip
        go_big_quiet_skip
        go_big_quiet_skip
        go_big_quiet_skip
        go_big_quiet_skip
        go_big_quiet_skip
        go_big_quiet_skip
        go_big_quiet_want; go_big_quiet_op; go_big_quiet_on
        refine wpQuiet_nil ?_
        go_wp2
        go_roundg (N - (i + 1))
        case measure => omega
        case rel => exact ⟨i + 1, by omega, by go_num, ct6, si6, b6⟩
    · have lk : ¬ (i : Int) < (N : Int) := by omega
      obtain rfl : i = N := by omega
      have hct' : CountsZ D nd := by rw [← hN, List.take_length] at hct; exact hct
      clear hct
      replace om := Lib.hid om
      have hct := Lib.hid hct'
      clear hct' hD
      have C1 := advCan_any K n a ak c k ck hc (by omega) f (x : Int) wr (hs.out.after hb) (hf.out.after hb)
      rw [hcan.out] at C1
      cases hkx : knB K n (inZ f k) x
      · rw [hkx] at C1
        have hki2 : Hid (∀ i, i < n → K i 0 = 1 → knB K n (fun j => inZ f k j ∨ j = i) x = decide (K i 1 ∈ nd)) := fun i h1 h2 => hki.out i h1 h2 hkx
        replace C1 := Lib.hid C1
        clear hki hkn hrise hsml hkx lk
        go_wp2_with fail
        refine C1.out.mono ?_
        rintro e w7 ⟨rfl, hb7⟩
        have om7 := Lib.hid (OwnM9.after om.out hb7)
        have b7 := hb.trans (hb7.mono hb.size)
        clear C1 om hb7 hb si
        go_wp2
        go_loopg [11] n (fun g v11 wr => ∃ i : Nat, i + g = n ∧ v11 = .int .i64 (i : Int) ∧ Below w7.heap.size w7 wr)
        case atStart => exact ⟨0, by omega, rfl, Below.refl _ _⟩
        case round =>
          obtain ⟨j, hj, rfl, hb8⟩ := hrel
          by_cases hlt : j < n
          · have lj : (j : Int) < (n : Int) := by omega
            have b8 := b7.trans (hb8.mono b7.size)
            have om8 := Lib.hid (OwnM9.after om7.out hb8)
            have s8 := Lib.hid (hs.out.after b8)
            have f8 := Lib.hid (hf.out.after b8)
            have c0 : Hid (∀ w', Below wr.heap.size wr w' → w'.cell? (elV a (j * 3)) = some (.int .i64 (K j 0))) := fun w' hb => by
              rw [SeesV.cell (s8.out.after hb) (show j * 3 < n * 3 by omega), flatN_0]
            have c1 : Hid (∀ w', Below wr.heap.size wr w' → w'.cell? ((elV a (j * 3)).add 1) = some (.int .i64 (K j 1))) := fun w' hb => by
              rw [show (elV a (j * 3)).add 1 = elV a (j * 3 + 1) from Deep.add_add _ _ _, SeesV.cell (s8.out.after hb) (show j * 3 + 1 < n * 3 by omega), flatN_1]
            have HC : Below wr.heap.size wr wr.drew := (Below.refl _ _).drew
            by_cases h1 : K j 0 = 1
            · have hkk := hki2.out j hlt h1
              obtain ⟨z0, z1⟩ := hK1.out j hlt h1
              rw [h1] at c0
              have at1 := hct.out _ z0 z1
              have CC : Hid (∀ w', Below wr.heap.size wr w' → ∀ aX cX, SeesZ w' aX (k + 1) (snocF f k (j : Int)) → Calls Try.prog 14 #[.slice a n c, .slice aX (k + 1) cX, .int .i64 (x : Int)] w' fun e w2 => e = .returned (.bool (decide (K j 1 ∈ nd))) ∧ Below w'.heap.size w' w2) := by
                intro w' hb aX cX sX
                have C := advCan_any K n a aX c (k + 1) cX hc (by omega) (snocF f k (j : Int)) (x : Int) w' (s8.out.after hb) sX
                rw [hcan.out, show inZ (snocF f k (j : Int)) (k + 1) = (fun q => inZ f k q ∨ q = j) from funext fun q => propext (inZ_snoc f k j q), hkk] at C
                exact C
              generalize K j 1 = z at *
              replace at1 := Lib.hid at1
              have SN := s8
              clear hkk h1 s8
              by_cases hin : z ∈ nd
              · rw [decide_eq_true hin] at CC
                rw [if_pos hin] at at1
                clear hin
                replace HC := Lib.hid HC
                go_wp2
                refine wp_region_keptZ (B := wr.heap.size) (k := k) (f := f) (z := (j : Int)) (fun w' => Below wr.heap.size wr w') [eqv (.slice a n c), eqv (.int .i64 (j : Int)), eqv (.pointer (some (elV a (j * 3)))), eqv (.pointer (some (elV a (j * 3)))), eqv (.int .i64 1), eqv (.bool true), eqv (.bool true), eqv (.slice a n c), emptyz wr.heap.size, eqv (.slice ak k ck), ownz wr.heap.size k f, eqv (.int .i64 (j : Int)), onez (j : Int), ownz wr.heap.size (k + 1) (snocF f k (j : Int)), eqv (.int .i64 (x : Int)), eqv (.bool true), eqv (.map (some bm)), eqv (.slice a n c), eqv (.int .i64 (j : Int)), eqv (.pointer (some (elV a (j * 3)))), eqv (.pointer (some ((elV a (j * 3)).add 1))), eqv (.int .i64 z), eqv (.int .i64 1), eqv (.bool true), eqv (.bool false), eqv (.bool false)] (by kernel_rfl) (by kernel_rfl) HC.out
                  (.cons (kept_eqv _) (.cons (kept_eqv _) (.cons (kept_eqv _) (.cons (kept_eqv _) (.cons (kept_eqv _) (.cons (kept_eqv _) (.cons (kept_eqv _) (.cons (kept_eqv _) (.cons (kept_emptyz) (.cons (kept_eqv _) (.cons (kept_ownz) (.cons (kept_eqv _) (.cons (kept_onez) (.cons (kept_ownz1) (.cons (kept_eqv _) (.cons (kept_eqv _) (.cons (kept_eqv _) (.cons (kept_eqv _) (.cons (kept_eqv _) (.cons (kept_eqv _) (.cons (kept_eqv _) (.cons (kept_eqv _) (.cons (kept_eqv _) (.cons (kept_eqv _) (.cons (kept_eqv _) (.cons (kept_eqv _) .nil)))))))))))))))))))))))))) ?_
                intro R hR
                refine wpRely_cons (fun w' hC hf => ?_) (fun v0 => ?_)
                · (repeat (first | (obtain ⟨rfl, hf⟩ := hf) | (obtain ⟨⟨q, rfl, hq⟩, hf⟩ := hf) | (obtain ⟨_, hf⟩ := hf)))
                  exact grows_eqv (by rfl) hC (by go_simp)
                simp only [Act.put, List.setIfInBounds_toArray, List.set_cons_succ, List.set_cons_zero, List.nil_append]
                refine wpRely_cons (fun w' hC hf => ?_) (fun v1 => ?_)
                · (repeat (first | (obtain ⟨rfl, hf⟩ := hf) | (obtain ⟨⟨q, rfl, hq⟩, hf⟩ := hf) | (obtain ⟨_, hf⟩ := hf)))
                  exact grows_eqv (by rfl) hC (by go_simp)
                simp only [Act.put, List.setIfInBounds_toArray, List.set_cons_succ, List.set_cons_zero, List.nil_append, List.cons_append]
                refine wpRely_cons (fun w' hC hf => ?_) (fun v2 => ?_)
                · (repeat (first | (obtain ⟨rfl, hf⟩ := hf) | (obtain ⟨⟨q, rfl, hq⟩, hf⟩ := hf) | (obtain ⟨_, hf⟩ := hf)))
                  exact grows_eqv (by rfl) hC (at_nodes SN.out hlt rfl rfl rfl rfl _)
                simp only [Act.put, List.setIfInBounds_toArray, List.set_cons_succ, List.set_cons_zero, List.nil_append, List.cons_append]
                refine wpRely_cons (fun w' hC hf => ?_) (fun v3 => ?_)
                · (repeat (first | (obtain ⟨rfl, hf⟩ := hf) | (obtain ⟨⟨q, rfl, hq⟩, hf⟩ := hf) | (obtain ⟨_, hf⟩ := hf)))
                  exact grows_eqv (by rfl) hC (by go_simp)
                simp only [Act.put, List.setIfInBounds_toArray, List.set_cons_succ, List.set_cons_zero, List.nil_append, List.cons_append]
                refine wpRely_cons (fun w' hC hf => ?_) (fun v4 => ?_)
                · (repeat (first | (obtain ⟨rfl, hf⟩ := hf) | (obtain ⟨⟨q, rfl, hq⟩, hf⟩ := hf) | (obtain ⟨_, hf⟩ := hf)))
                  exact grows_eqv (by rfl) hC (get_at9 (c0.out w' hC) rfl rfl)
                simp only [Act.put, List.setIfInBounds_toArray, List.set_cons_succ, List.set_cons_zero, List.nil_append, List.cons_append]
                refine wpRely_cons (fun w' hC hf => ?_) (fun v5 => ?_)
                · (repeat (first | (obtain ⟨rfl, hf⟩ := hf) | (obtain ⟨⟨q, rfl, hq⟩, hf⟩ := hf) | (obtain ⟨_, hf⟩ := hf)))
                  exact grows_eqv (by rfl) hC (by go_simp)
                simp only [Act.put, List.setIfInBounds_toArray, List.set_cons_succ, List.set_cons_zero, List.nil_append, List.cons_append]
                refine wpRely_cons (fun w' hC hf => ?_) (fun v6 => ?_)
                · (repeat (first | (obtain ⟨rfl, hf⟩ := hf) | (obtain ⟨⟨q, rfl, hq⟩, hf⟩ := hf) | (obtain ⟨_, hf⟩ := hf)))
                  exact grows_eqv (by rfl) hC (by go_simp)
                simp only [Act.put, List.setIfInBounds_toArray, List.set_cons_succ, List.set_cons_zero, List.nil_append, List.cons_append]
                refine wpRely_cons (fun w' hC hf => ?_) (fun v7 => ?_)
                · (repeat (first | (obtain ⟨rfl, hf⟩ := hf) | (obtain ⟨⟨q, rfl, hq⟩, hf⟩ := hf) | (obtain ⟨_, hf⟩ := hf)))
                  exact grows_eqv (by rfl) hC (by go_simp)
                simp only [Act.put, List.setIfInBounds_toArray, List.set_cons_succ, List.set_cons_zero, List.nil_append, List.cons_append]
                refine wpRely_cons (fun w' hC hf => ?_) (fun v8 => ?_)
                · skip
                  obtain ⟨rfl, _⟩ := hf
                  exact grows_emptyz hR hC rfl (by rfl) (by go_simp)
                simp only [Act.put, List.setIfInBounds_toArray, List.set_cons_succ, List.set_cons_zero, List.nil_append, List.cons_append]
                refine wpRely_cons (fun w' hC hf => ?_) (fun v9 => ?_)
                · (repeat (first | (obtain ⟨rfl, hf⟩ := hf) | (obtain ⟨⟨q, rfl, hq⟩, hf⟩ := hf) | (obtain ⟨_, hf⟩ := hf)))
                  exact grows_eqv (by rfl) hC (by go_simp)
                simp only [Act.put, List.setIfInBounds_toArray, List.set_cons_succ, List.set_cons_zero, List.nil_append, List.cons_append]
                refine wpRely_cons (fun w' hC hf => ?_) (fun v10 => ?_)
                · skip
                  obtain ⟨rfl, h8, rfl, _⟩ := hf
                  exact grows_app1 hR hC rfl (by rfl) rfl rfl h8 rfl f8.out hnil.out (by omega)
                simp only [Act.put, List.setIfInBounds_toArray, List.set_cons_succ, List.set_cons_zero, List.nil_append, List.cons_append]
                refine wpRely_cons (fun w' hC hf => ?_) (fun v11 => ?_)
                · (repeat (first | (obtain ⟨rfl, hf⟩ := hf) | (obtain ⟨⟨q, rfl, hq⟩, hf⟩ := hf) | (obtain ⟨_, hf⟩ := hf)))
                  exact grows_eqv (by rfl) hC (by go_simp)
                simp only [Act.put, List.setIfInBounds_toArray, List.set_cons_succ, List.set_cons_zero, List.nil_append, List.cons_append]
                refine wpRely_cons (fun w' hC hf => ?_) (fun v12 => ?_)
                · skip
                  obtain ⟨rfl, rfl, _⟩ := hf
                  exact grows_onez hR hC (by rfl) (by go_simp)
                simp only [Act.put, List.setIfInBounds_toArray, List.set_cons_succ, List.set_cons_zero, List.nil_append, List.cons_append]
                refine wpRely_cons (fun w' hC hf => ?_) (fun v13 => ?_)
                · skip
                  obtain ⟨rfl, h10, h12, _⟩ := hf
                  exact grows_app2 hR hC rfl (by rfl) rfl rfl h10 rfl h12 (by omega)
                simp only [Act.put, List.setIfInBounds_toArray, List.set_cons_succ, List.set_cons_zero, List.nil_append, List.cons_append]
                refine wpRely_cons (fun w' hC hf => ?_) (fun v14 => ?_)
                · (repeat (first | (obtain ⟨rfl, hf⟩ := hf) | (obtain ⟨⟨q, rfl, hq⟩, hf⟩ := hf) | (obtain ⟨_, hf⟩ := hf)))
                  exact grows_eqv (by rfl) hC (by go_simp)
                simp only [Act.put, List.setIfInBounds_toArray, List.set_cons_succ, List.set_cons_zero, List.nil_append, List.cons_append]
                refine wpRely_cons (fun w' hC hf => ?_) (fun v15 => ?_)
                · skip
                  obtain ⟨rfl, rfl, h13, rfl, _⟩ := hf
                  obtain ⟨aX, cX, rfl, sX, _⟩ := own_F_see h13
                  exact grows_calls hR.steady (fun _ _ hb h => h.trans (hb.mono h.size)) hC (by rfl) (by go_simp) (CC.out w' hC aX cX sX)
                simp only [Act.put, List.setIfInBounds_toArray, List.set_cons_succ, List.set_cons_zero, List.nil_append, List.cons_append]
                refine wpRely_cons (fun w' hC hf => ?_) (fun v16 => ?_)
                · (repeat (first | (obtain ⟨rfl, hf⟩ := hf) | (obtain ⟨⟨q, rfl, hq⟩, hf⟩ := hf) | (obtain ⟨_, hf⟩ := hf)))
                  exact grows_eqv (by rfl) hC (by go_simp)
                simp only [Act.put, List.setIfInBounds_toArray, List.set_cons_succ, List.set_cons_zero, List.nil_append, List.cons_append]
                refine wpRely_cons (fun w' hC hf => ?_) (fun v17 => ?_)
                · (repeat (first | (obtain ⟨rfl, hf⟩ := hf) | (obtain ⟨⟨q, rfl, hq⟩, hf⟩ := hf) | (obtain ⟨_, hf⟩ := hf)))
                  exact grows_eqv (by rfl) hC (by go_simp)
                simp only [Act.put, List.setIfInBounds_toArray, List.set_cons_succ, List.set_cons_zero, List.nil_append, List.cons_append]
                refine wpRely_cons (fun w' hC hf => ?_) (fun v18 => ?_)
                · (repeat (first | (obtain ⟨rfl, hf⟩ := hf) | (obtain ⟨⟨q, rfl, hq⟩, hf⟩ := hf) | (obtain ⟨_, hf⟩ := hf)))
                  exact grows_eqv (by rfl) hC (by go_simp)
                simp only [Act.put, List.setIfInBounds_toArray, List.set_cons_succ, List.set_cons_zero, List.nil_append, List.cons_append]
                refine wpRely_cons (fun w' hC hf => ?_) (fun v19 => ?_)
                · (repeat (first | (obtain ⟨rfl, hf⟩ := hf) | (obtain ⟨⟨q, rfl, hq⟩, hf⟩ := hf) | (obtain ⟨_, hf⟩ := hf)))
                  exact grows_eqv (by rfl) hC (at_nodes SN.out hlt rfl rfl rfl rfl _)
                simp only [Act.put, List.setIfInBounds_toArray, List.set_cons_succ, List.set_cons_zero, List.nil_append, List.cons_append]
                refine wpRely_cons (fun w' hC hf => ?_) (fun v20 => ?_)
                · (repeat (first | (obtain ⟨rfl, hf⟩ := hf) | (obtain ⟨⟨q, rfl, hq⟩, hf⟩ := hf) | (obtain ⟨_, hf⟩ := hf)))
                  exact grows_eqv (by rfl) hC (by go_simp)
                simp only [Act.put, List.setIfInBounds_toArray, List.set_cons_succ, List.set_cons_zero, List.nil_append, List.cons_append]
                refine wpRely_cons (fun w' hC hf => ?_) (fun v21 => ?_)
                · (repeat (first | (obtain ⟨rfl, hf⟩ := hf) | (obtain ⟨⟨q, rfl, hq⟩, hf⟩ := hf) | (obtain ⟨_, hf⟩ := hf)))
                  exact grows_eqv (by rfl) hC (get_at9 (c1.out w' hC) rfl rfl)
                simp only [Act.put, List.setIfInBounds_toArray, List.set_cons_succ, List.set_cons_zero, List.nil_append, List.cons_append]
                refine wpRely_cons (fun w' hC hf => ?_) (fun v22 => ?_)
                · (repeat (first | (obtain ⟨rfl, hf⟩ := hf) | (obtain ⟨⟨q, rfl, hq⟩, hf⟩ := hf) | (obtain ⟨_, hf⟩ := hf)))
                  exact grows_eqv (by rfl) hC (run_look9 (OwnM9.after om8.out hC) z0 z1 at1.out rfl rfl rfl)
                simp only [Act.put, List.setIfInBounds_toArray, List.set_cons_succ, List.set_cons_zero, List.nil_append, List.cons_append]
                refine wpRely_cons (fun w' hC hf => ?_) (fun v23 => ?_)
                · (repeat (first | (obtain ⟨rfl, hf⟩ := hf) | (obtain ⟨⟨q, rfl, hq⟩, hf⟩ := hf) | (obtain ⟨_, hf⟩ := hf)))
                  exact grows_eqv (by rfl) hC (by go_simp)
                simp only [Act.put, List.setIfInBounds_toArray, List.set_cons_succ, List.set_cons_zero, List.nil_append, List.cons_append]
                refine wpRely_cons (fun w' hC hf => ?_) (fun v24 => ?_)
                · (repeat (first | (obtain ⟨rfl, hf⟩ := hf) | (obtain ⟨⟨q, rfl, hq⟩, hf⟩ := hf) | (obtain ⟨_, hf⟩ := hf)))
                  exact grows_eqv (by rfl) hC (by go_simp)
                simp only [Act.put, List.setIfInBounds_toArray, List.set_cons_succ, List.set_cons_zero, List.nil_append, List.cons_append]
                refine wpRely_cons (fun w' hC hf => ?_) (fun v25 => ?_)
                · (repeat (first | (obtain ⟨rfl, hf⟩ := hf) | (obtain ⟨⟨q, rfl, hq⟩, hf⟩ := hf) | (obtain ⟨_, hf⟩ := hf)))
                  exact grows_eqv (by rfl) hC (by go_simp)
                simp only [Act.put, List.setIfInBounds_toArray, List.set_cons_succ, List.set_cons_zero, List.nil_append, List.cons_append]
                refine wpRely_nil fun w9 hC hf => ?_
                obtain ⟨rfl, hf⟩ := hf
                obtain ⟨rfl, hf⟩ := hf
                obtain ⟨rfl, hf⟩ := hf
                obtain ⟨rfl, hf⟩ := hf
                obtain ⟨rfl, hf⟩ := hf
                obtain ⟨rfl, hf⟩ := hf
                obtain ⟨rfl, hf⟩ := hf
                obtain ⟨rfl, hf⟩ := hf
                obtain ⟨_, hf⟩ := hf
                obtain ⟨rfl, hf⟩ := hf
                obtain ⟨_, hf⟩ := hf
                obtain ⟨rfl, hf⟩ := hf
                obtain ⟨_, hf⟩ := hf
                obtain ⟨_, hf⟩ := hf
                obtain ⟨rfl, hf⟩ := hf
                obtain ⟨rfl, hf⟩ := hf
                obtain ⟨rfl, hf⟩ := hf
                obtain ⟨rfl, hf⟩ := hf
                obtain ⟨rfl, hf⟩ := hf
                obtain ⟨rfl, hf⟩ := hf
                obtain ⟨rfl, hf⟩ := hf
                obtain ⟨rfl, hf⟩ := hf
                obtain ⟨rfl, hf⟩ := hf
                obtain ⟨rfl, hf⟩ := hf
                obtain ⟨rfl, hf⟩ := hf
                obtain ⟨rfl, hf⟩ := hf
                have b9 := hb8.trans (hC.mono hb8.size)
                go_wp2
                go_roundg (n - (j + 1))
                case measure => omega
                case rel => exact ⟨j + 1, by omega, by go_num, b9⟩
              · rw [decide_eq_false hin] at CC
                rw [if_neg hin] at at1
                clear hin
                replace HC := Lib.hid HC
                go_wp2
                refine wp_region_keptZ (B := wr.heap.size) (k := k) (f := f) (z := (j : Int)) (fun w' => Below wr.heap.size wr w') [eqv (.slice a n c), eqv (.int .i64 (j : Int)), eqv (.pointer (some (elV a (j * 3)))), eqv (.pointer (some (elV a (j * 3)))), eqv (.int .i64 1), eqv (.bool true), eqv (.bool true), eqv (.slice a n c), emptyz wr.heap.size, eqv (.slice ak k ck), ownz wr.heap.size k f, eqv (.int .i64 (j : Int)), onez (j : Int), ownz wr.heap.size (k + 1) (snocF f k (j : Int)), eqv (.int .i64 (x : Int)), eqv (.bool false), eqv (.map (some bm)), eqv (.slice a n c), eqv (.int .i64 (j : Int)), eqv (.pointer (some (elV a (j * 3)))), eqv (.pointer (some ((elV a (j * 3)).add 1))), eqv (.int .i64 z), eqv (.int .i64 0), eqv (.bool false), eqv (.bool false), eqv (.bool false)] (by kernel_rfl) (by kernel_rfl) HC.out
                  (.cons (kept_eqv _) (.cons (kept_eqv _) (.cons (kept_eqv _) (.cons (kept_eqv _) (.cons (kept_eqv _) (.cons (kept_eqv _) (.cons (kept_eqv _) (.cons (kept_eqv _) (.cons (kept_emptyz) (.cons (kept_eqv _) (.cons (kept_ownz) (.cons (kept_eqv _) (.cons (kept_onez) (.cons (kept_ownz1) (.cons (kept_eqv _) (.cons (kept_eqv _) (.cons (kept_eqv _) (.cons (kept_eqv _) (.cons (kept_eqv _) (.cons (kept_eqv _) (.cons (kept_eqv _) (.cons (kept_eqv _) (.cons (kept_eqv _) (.cons (kept_eqv _) (.cons (kept_eqv _) (.cons (kept_eqv _) .nil)))))))))))))))))))))))))) ?_
                intro R hR
                refine wpRely_cons (fun w' hC hf => ?_) (fun v0 => ?_)
                · (repeat (first | (obtain ⟨rfl, hf⟩ := hf) | (obtain ⟨⟨q, rfl, hq⟩, hf⟩ := hf) | (obtain ⟨_, hf⟩ := hf)))
                  exact grows_eqv (by rfl) hC (by go_simp)
                simp only [Act.put, List.setIfInBounds_toArray, List.set_cons_succ, List.set_cons_zero, List.nil_append]
                refine wpRely_cons (fun w' hC hf => ?_) (fun v1 => ?_)
                · (repeat (first | (obtain ⟨rfl, hf⟩ := hf) | (obtain ⟨⟨q, rfl, hq⟩, hf⟩ := hf) | (obtain ⟨_, hf⟩ := hf)))
                  exact grows_eqv (by rfl) hC (by go_simp)
                simp only [Act.put, List.setIfInBounds_toArray, List.set_cons_succ, List.set_cons_zero, List.nil_append, List.cons_append]
                refine wpRely_cons (fun w' hC hf => ?_) (fun v2 => ?_)
                · (repeat (first | (obtain ⟨rfl, hf⟩ := hf) | (obtain ⟨⟨q, rfl, hq⟩, hf⟩ := hf) | (obtain ⟨_, hf⟩ := hf)))
                  exact grows_eqv (by rfl) hC (at_nodes SN.out hlt rfl rfl rfl rfl _)
                simp only [Act.put, List.setIfInBounds_toArray, List.set_cons_succ, List.set_cons_zero, List.nil_append, List.cons_append]
                refine wpRely_cons (fun w' hC hf => ?_) (fun v3 => ?_)
                · (repeat (first | (obtain ⟨rfl, hf⟩ := hf) | (obtain ⟨⟨q, rfl, hq⟩, hf⟩ := hf) | (obtain ⟨_, hf⟩ := hf)))
                  exact grows_eqv (by rfl) hC (by go_simp)
                simp only [Act.put, List.setIfInBounds_toArray, List.set_cons_succ, List.set_cons_zero, List.nil_append, List.cons_append]
                refine wpRely_cons (fun w' hC hf => ?_) (fun v4 => ?_)
                · (repeat (first | (obtain ⟨rfl, hf⟩ := hf) | (obtain ⟨⟨q, rfl, hq⟩, hf⟩ := hf) | (obtain ⟨_, hf⟩ := hf)))
                  exact grows_eqv (by rfl) hC (get_at9 (c0.out w' hC) rfl rfl)
                simp only [Act.put, List.setIfInBounds_toArray, List.set_cons_succ, List.set_cons_zero, List.nil_append, List.cons_append]
                refine wpRely_cons (fun w' hC hf => ?_) (fun v5 => ?_)
                · (repeat (first | (obtain ⟨rfl, hf⟩ := hf) | (obtain ⟨⟨q, rfl, hq⟩, hf⟩ := hf) | (obtain ⟨_, hf⟩ := hf)))
                  exact grows_eqv (by rfl) hC (by go_simp)
                simp only [Act.put, List.setIfInBounds_toArray, List.set_cons_succ, List.set_cons_zero, List.nil_append, List.cons_append]
                refine wpRely_cons (fun w' hC hf => ?_) (fun v6 => ?_)
                · (repeat (first | (obtain ⟨rfl, hf⟩ := hf) | (obtain ⟨⟨q, rfl, hq⟩, hf⟩ := hf) | (obtain ⟨_, hf⟩ := hf)))
                  exact grows_eqv (by rfl) hC (by go_simp)
                simp only [Act.put, List.setIfInBounds_toArray, List.set_cons_succ, List.set_cons_zero, List.nil_append, List.cons_append]
                refine wpRely_cons (fun w' hC hf => ?_) (fun v7 => ?_)
                · (repeat (first | (obtain ⟨rfl, hf⟩ := hf) | (obtain ⟨⟨q, rfl, hq⟩, hf⟩ := hf) | (obtain ⟨_, hf⟩ := hf)))
                  exact grows_eqv (by rfl) hC (by go_simp)
                simp only [Act.put, List.setIfInBounds_toArray, List.set_cons_succ, List.set_cons_zero, List.nil_append, List.cons_append]
                refine wpRely_cons (fun w' hC hf => ?_) (fun v8 => ?_)
                · skip
                  obtain ⟨rfl, _⟩ := hf
                  exact grows_emptyz hR hC rfl (by rfl) (by go_simp)
                simp only [Act.put, List.setIfInBounds_toArray, List.set_cons_succ, List.set_cons_zero, List.nil_append, List.cons_append]
                refine wpRely_cons (fun w' hC hf => ?_) (fun v9 => ?_)
                · (repeat (first | (obtain ⟨rfl, hf⟩ := hf) | (obtain ⟨⟨q, rfl, hq⟩, hf⟩ := hf) | (obtain ⟨_, hf⟩ := hf)))
                  exact grows_eqv (by rfl) hC (by go_simp)
                simp only [Act.put, List.setIfInBounds_toArray, List.set_cons_succ, List.set_cons_zero, List.nil_append, List.cons_append]
                refine wpRely_cons (fun w' hC hf => ?_) (fun v10 => ?_)
                · skip
                  obtain ⟨rfl, h8, rfl, _⟩ := hf
                  exact grows_app1 hR hC rfl (by rfl) rfl rfl h8 rfl f8.out hnil.out (by omega)
                simp only [Act.put, List.setIfInBounds_toArray, List.set_cons_succ, List.set_cons_zero, List.nil_append, List.cons_append]
                refine wpRely_cons (fun w' hC hf => ?_) (fun v11 => ?_)
                · (repeat (first | (obtain ⟨rfl, hf⟩ := hf) | (obtain ⟨⟨q, rfl, hq⟩, hf⟩ := hf) | (obtain ⟨_, hf⟩ := hf)))
                  exact grows_eqv (by rfl) hC (by go_simp)
                simp only [Act.put, List.setIfInBounds_toArray, List.set_cons_succ, List.set_cons_zero, List.nil_append, List.cons_append]
                refine wpRely_cons (fun w' hC hf => ?_) (fun v12 => ?_)
                · skip
                  obtain ⟨rfl, rfl, _⟩ := hf
                  exact grows_onez hR hC (by rfl) (by go_simp)
                simp only [Act.put, List.setIfInBounds_toArray, List.set_cons_succ, List.set_cons_zero, List.nil_append, List.cons_append]
                refine wpRely_cons (fun w' hC hf => ?_) (fun v13 => ?_)
                · skip
                  obtain ⟨rfl, h10, h12, _⟩ := hf
                  exact grows_app2 hR hC rfl (by rfl) rfl rfl h10 rfl h12 (by omega)
                simp only [Act.put, List.setIfInBounds_toArray, List.set_cons_succ, List.set_cons_zero, List.nil_append, List.cons_append]
                refine wpRely_cons (fun w' hC hf => ?_) (fun v14 => ?_)
                · (repeat (first | (obtain ⟨rfl, hf⟩ := hf) | (obtain ⟨⟨q, rfl, hq⟩, hf⟩ := hf) | (obtain ⟨_, hf⟩ := hf)))
                  exact grows_eqv (by rfl) hC (by go_simp)
                simp only [Act.put, List.setIfInBounds_toArray, List.set_cons_succ, List.set_cons_zero, List.nil_append, List.cons_append]
                refine wpRely_cons (fun w' hC hf => ?_) (fun v15 => ?_)
                · skip
                  obtain ⟨rfl, rfl, h13, rfl, _⟩ := hf
                  obtain ⟨aX, cX, rfl, sX, _⟩ := own_F_see h13
                  exact grows_calls hR.steady (fun _ _ hb h => h.trans (hb.mono h.size)) hC (by rfl) (by go_simp) (CC.out w' hC aX cX sX)
                simp only [Act.put, List.setIfInBounds_toArray, List.set_cons_succ, List.set_cons_zero, List.nil_append, List.cons_append]
                refine wpRely_cons (fun w' hC hf => ?_) (fun v16 => ?_)
                · (repeat (first | (obtain ⟨rfl, hf⟩ := hf) | (obtain ⟨⟨q, rfl, hq⟩, hf⟩ := hf) | (obtain ⟨_, hf⟩ := hf)))
                  exact grows_eqv (by rfl) hC (by go_simp)
                simp only [Act.put, List.setIfInBounds_toArray, List.set_cons_succ, List.set_cons_zero, List.nil_append, List.cons_append]
                refine wpRely_cons (fun w' hC hf => ?_) (fun v17 => ?_)
                · (repeat (first | (obtain ⟨rfl, hf⟩ := hf) | (obtain ⟨⟨q, rfl, hq⟩, hf⟩ := hf) | (obtain ⟨_, hf⟩ := hf)))
                  exact grows_eqv (by rfl) hC (by go_simp)
                simp only [Act.put, List.setIfInBounds_toArray, List.set_cons_succ, List.set_cons_zero, List.nil_append, List.cons_append]
                refine wpRely_cons (fun w' hC hf => ?_) (fun v18 => ?_)
                · (repeat (first | (obtain ⟨rfl, hf⟩ := hf) | (obtain ⟨⟨q, rfl, hq⟩, hf⟩ := hf) | (obtain ⟨_, hf⟩ := hf)))
                  exact grows_eqv (by rfl) hC (by go_simp)
                simp only [Act.put, List.setIfInBounds_toArray, List.set_cons_succ, List.set_cons_zero, List.nil_append, List.cons_append]
                refine wpRely_cons (fun w' hC hf => ?_) (fun v19 => ?_)
                · (repeat (first | (obtain ⟨rfl, hf⟩ := hf) | (obtain ⟨⟨q, rfl, hq⟩, hf⟩ := hf) | (obtain ⟨_, hf⟩ := hf)))
                  exact grows_eqv (by rfl) hC (at_nodes SN.out hlt rfl rfl rfl rfl _)
                simp only [Act.put, List.setIfInBounds_toArray, List.set_cons_succ, List.set_cons_zero, List.nil_append, List.cons_append]
                refine wpRely_cons (fun w' hC hf => ?_) (fun v20 => ?_)
                · (repeat (first | (obtain ⟨rfl, hf⟩ := hf) | (obtain ⟨⟨q, rfl, hq⟩, hf⟩ := hf) | (obtain ⟨_, hf⟩ := hf)))
                  exact grows_eqv (by rfl) hC (by go_simp)
                simp only [Act.put, List.setIfInBounds_toArray, List.set_cons_succ, List.set_cons_zero, List.nil_append, List.cons_append]
                refine wpRely_cons (fun w' hC hf => ?_) (fun v21 => ?_)
                · (repeat (first | (obtain ⟨rfl, hf⟩ := hf) | (obtain ⟨⟨q, rfl, hq⟩, hf⟩ := hf) | (obtain ⟨_, hf⟩ := hf)))
                  exact grows_eqv (by rfl) hC (get_at9 (c1.out w' hC) rfl rfl)
                simp only [Act.put, List.setIfInBounds_toArray, List.set_cons_succ, List.set_cons_zero, List.nil_append, List.cons_append]
                refine wpRely_cons (fun w' hC hf => ?_) (fun v22 => ?_)
                · (repeat (first | (obtain ⟨rfl, hf⟩ := hf) | (obtain ⟨⟨q, rfl, hq⟩, hf⟩ := hf) | (obtain ⟨_, hf⟩ := hf)))
                  exact grows_eqv (by rfl) hC (run_look9 (OwnM9.after om8.out hC) z0 z1 at1.out rfl rfl rfl)
                simp only [Act.put, List.setIfInBounds_toArray, List.set_cons_succ, List.set_cons_zero, List.nil_append, List.cons_append]
                refine wpRely_cons (fun w' hC hf => ?_) (fun v23 => ?_)
                · (repeat (first | (obtain ⟨rfl, hf⟩ := hf) | (obtain ⟨⟨q, rfl, hq⟩, hf⟩ := hf) | (obtain ⟨_, hf⟩ := hf)))
                  exact grows_eqv (by rfl) hC (by go_simp)
                simp only [Act.put, List.setIfInBounds_toArray, List.set_cons_succ, List.set_cons_zero, List.nil_append, List.cons_append]
                refine wpRely_cons (fun w' hC hf => ?_) (fun v24 => ?_)
                · (repeat (first | (obtain ⟨rfl, hf⟩ := hf) | (obtain ⟨⟨q, rfl, hq⟩, hf⟩ := hf) | (obtain ⟨_, hf⟩ := hf)))
                  exact grows_eqv (by rfl) hC (by go_simp)
                simp only [Act.put, List.setIfInBounds_toArray, List.set_cons_succ, List.set_cons_zero, List.nil_append, List.cons_append]
                refine wpRely_cons (fun w' hC hf => ?_) (fun v25 => ?_)
                · (repeat (first | (obtain ⟨rfl, hf⟩ := hf) | (obtain ⟨⟨q, rfl, hq⟩, hf⟩ := hf) | (obtain ⟨_, hf⟩ := hf)))
                  exact grows_eqv (by rfl) hC (by go_simp)
                simp only [Act.put, List.setIfInBounds_toArray, List.set_cons_succ, List.set_cons_zero, List.nil_append, List.cons_append]
                refine wpRely_nil fun w9 hC hf => ?_
                obtain ⟨rfl, hf⟩ := hf
                obtain ⟨rfl, hf⟩ := hf
                obtain ⟨rfl, hf⟩ := hf
                obtain ⟨rfl, hf⟩ := hf
                obtain ⟨rfl, hf⟩ := hf
                obtain ⟨rfl, hf⟩ := hf
                obtain ⟨rfl, hf⟩ := hf
                obtain ⟨rfl, hf⟩ := hf
                obtain ⟨_, hf⟩ := hf
                obtain ⟨rfl, hf⟩ := hf
                obtain ⟨_, hf⟩ := hf
                obtain ⟨rfl, hf⟩ := hf
                obtain ⟨_, hf⟩ := hf
                obtain ⟨_, hf⟩ := hf
                obtain ⟨rfl, hf⟩ := hf
                obtain ⟨rfl, hf⟩ := hf
                obtain ⟨rfl, hf⟩ := hf
                obtain ⟨rfl, hf⟩ := hf
                obtain ⟨rfl, hf⟩ := hf
                obtain ⟨rfl, hf⟩ := hf
                obtain ⟨rfl, hf⟩ := hf
                obtain ⟨rfl, hf⟩ := hf
                obtain ⟨rfl, hf⟩ := hf
                obtain ⟨rfl, hf⟩ := hf
                obtain ⟨rfl, hf⟩ := hf
                obtain ⟨rfl, hf⟩ := hf
                have b9 := hb8.trans (hC.mono hb8.size)
                go_wp2
                go_roundg (n - (j + 1))
                case measure => omega
                case rel => exact ⟨j + 1, by omega, by go_num, b9⟩
            · have SN := s8
              have h1' : (K j 0 == 1) = false := by simpa using h1
              have h1'' : decide (K j 0 = 1) = false := by simpa using h1
              replace HC := Lib.hid HC
              go_wp2
              refine wp_region_keptZ (B := wr.heap.size) (k := k) (f := f) (z := (j : Int)) (fun w' => Below wr.heap.size wr w') [eqv (.slice a n c), eqv (.int .i64 (j : Int)), eqv (.pointer (some (elV a (j * 3)))), eqv (.pointer (some (elV a (j * 3)))), eqv (.int .i64 (K j 0)), eqv (.bool false), eqv (.bool false), eqv undef, eqv undef, eqv undef, eqv undef, eqv undef, eqv undef, eqv undef, eqv undef, eqv undef, eqv undef, eqv undef, eqv undef, eqv undef, eqv undef, eqv undef, eqv undef, eqv undef, eqv undef, eqv (.bool false)] (by kernel_rfl) (by kernel_rfl) HC.out
                (.cons (kept_eqv _) (.cons (kept_eqv _) (.cons (kept_eqv _) (.cons (kept_eqv _) (.cons (kept_eqv _) (.cons (kept_eqv _) (.cons (kept_eqv _) (.cons (kept_eqv _) (.cons (kept_eqv _) (.cons (kept_eqv _) (.cons (kept_eqv _) (.cons (kept_eqv _) (.cons (kept_eqv _) (.cons (kept_eqv _) (.cons (kept_eqv _) (.cons (kept_eqv _) (.cons (kept_eqv _) (.cons (kept_eqv _) (.cons (kept_eqv _) (.cons (kept_eqv _) (.cons (kept_eqv _) (.cons (kept_eqv _) (.cons (kept_eqv _) (.cons (kept_eqv _) (.cons (kept_eqv _) (.cons (kept_eqv _) .nil)))))))))))))))))))))))))) ?_
              intro R hR
              refine wpRely_cons (fun w' hC hf => ?_) (fun v0 => ?_)
              · (repeat (first | (obtain ⟨rfl, hf⟩ := hf) | (obtain ⟨⟨q, rfl, hq⟩, hf⟩ := hf) | (obtain ⟨_, hf⟩ := hf)))
                exact grows_eqv (by rfl) hC (by go_simp)
              simp only [Act.put, List.setIfInBounds_toArray, List.set_cons_succ, List.set_cons_zero, List.nil_append]
              refine wpRely_cons (fun w' hC hf => ?_) (fun v1 => ?_)
              · (repeat (first | (obtain ⟨rfl, hf⟩ := hf) | (obtain ⟨⟨q, rfl, hq⟩, hf⟩ := hf) | (obtain ⟨_, hf⟩ := hf)))
                exact grows_eqv (by rfl) hC (by go_simp)
              simp only [Act.put, List.setIfInBounds_toArray, List.set_cons_succ, List.set_cons_zero, List.nil_append, List.cons_append]
              refine wpRely_cons (fun w' hC hf => ?_) (fun v2 => ?_)
              · (repeat (first | (obtain ⟨rfl, hf⟩ := hf) | (obtain ⟨⟨q, rfl, hq⟩, hf⟩ := hf) | (obtain ⟨_, hf⟩ := hf)))
                exact grows_eqv (by rfl) hC (at_nodes SN.out hlt rfl rfl rfl rfl _)
              simp only [Act.put, List.setIfInBounds_toArray, List.set_cons_succ, List.set_cons_zero, List.nil_append, List.cons_append]
              refine wpRely_cons (fun w' hC hf => ?_) (fun v3 => ?_)
              · (repeat (first | (obtain ⟨rfl, hf⟩ := hf) | (obtain ⟨⟨q, rfl, hq⟩, hf⟩ := hf) | (obtain ⟨_, hf⟩ := hf)))
                exact grows_eqv (by rfl) hC (by go_simp)
              simp only [Act.put, List.setIfInBounds_toArray, List.set_cons_succ, List.set_cons_zero, List.nil_append, List.cons_append]
              refine wpRely_cons (fun w' hC hf => ?_) (fun v4 => ?_)
              · (repeat (first | (obtain ⟨rfl, hf⟩ := hf) | (obtain ⟨⟨q, rfl, hq⟩, hf⟩ := hf) | (obtain ⟨_, hf⟩ := hf)))
                exact grows_eqv (by rfl) hC (get_at9 (c0.out w' hC) rfl rfl)
              simp only [Act.put, List.setIfInBounds_toArray, List.set_cons_succ, List.set_cons_zero, List.nil_append, List.cons_append]
              refine wpRely_cons (fun w' hC hf => ?_) (fun v5 => ?_)
              · (repeat (first | (obtain ⟨rfl, hf⟩ := hf) | (obtain ⟨⟨q, rfl, hq⟩, hf⟩ := hf) | (obtain ⟨_, hf⟩ := hf)))
                exact grows_eqv (by rfl) hC (by go_simp)
              simp only [Act.put, List.setIfInBounds_toArray, List.set_cons_succ, List.set_cons_zero, List.nil_append, List.cons_append]
              refine wpRely_cons (fun w' hC hf => ?_) (fun v6 => ?_)
              · (repeat (first | (obtain ⟨rfl, hf⟩ := hf) | (obtain ⟨⟨q, rfl, hq⟩, hf⟩ := hf) | (obtain ⟨_, hf⟩ := hf)))
                exact grows_eqv (by rfl) hC (by go_simp)
              simp only [Act.put, List.setIfInBounds_toArray, List.set_cons_succ, List.set_cons_zero, List.nil_append, List.cons_append]
              refine wpRely_cons (fun w' hC hf => ?_) (fun v7 => ?_)
              · (repeat (first | (obtain ⟨rfl, hf⟩ := hf) | (obtain ⟨⟨q, rfl, hq⟩, hf⟩ := hf) | (obtain ⟨_, hf⟩ := hf)))
                exact grows_none (by rfl) hC rfl
              simp only [Act.put, List.setIfInBounds_toArray, List.set_cons_succ, List.set_cons_zero, List.nil_append, List.cons_append]
              refine wpRely_cons (fun w' hC hf => ?_) (fun v8 => ?_)
              · (repeat (first | (obtain ⟨rfl, hf⟩ := hf) | (obtain ⟨⟨q, rfl, hq⟩, hf⟩ := hf) | (obtain ⟨_, hf⟩ := hf)))
                exact grows_none (by rfl) hC rfl
              simp only [Act.put, List.setIfInBounds_toArray, List.set_cons_succ, List.set_cons_zero, List.nil_append, List.cons_append]
              refine wpRely_cons (fun w' hC hf => ?_) (fun v9 => ?_)
              · (repeat (first | (obtain ⟨rfl, hf⟩ := hf) | (obtain ⟨⟨q, rfl, hq⟩, hf⟩ := hf) | (obtain ⟨_, hf⟩ := hf)))
                exact grows_none (by rfl) hC rfl
              simp only [Act.put, List.setIfInBounds_toArray, List.set_cons_succ, List.set_cons_zero, List.nil_append, List.cons_append]
              refine wpRely_cons (fun w' hC hf => ?_) (fun v10 => ?_)
              · (repeat (first | (obtain ⟨rfl, hf⟩ := hf) | (obtain ⟨⟨q, rfl, hq⟩, hf⟩ := hf) | (obtain ⟨_, hf⟩ := hf)))
                exact grows_none (by rfl) hC rfl
              simp only [Act.put, List.setIfInBounds_toArray, List.set_cons_succ, List.set_cons_zero, List.nil_append, List.cons_append]
              refine wpRely_cons (fun w' hC hf => ?_) (fun v11 => ?_)
              · (repeat (first | (obtain ⟨rfl, hf⟩ := hf) | (obtain ⟨⟨q, rfl, hq⟩, hf⟩ := hf) | (obtain ⟨_, hf⟩ := hf)))
                exact grows_none (by rfl) hC rfl
              simp only [Act.put, List.setIfInBounds_toArray, List.set_cons_succ, List.set_cons_zero, List.nil_append, List.cons_append]
              refine wpRely_cons (fun w' hC hf => ?_) (fun v12 => ?_)
              · (repeat (first | (obtain ⟨rfl, hf⟩ := hf) | (obtain ⟨⟨q, rfl, hq⟩, hf⟩ := hf) | (obtain ⟨_, hf⟩ := hf)))
                exact grows_none (by rfl) hC rfl
              simp only [Act.put, List.setIfInBounds_toArray, List.set_cons_succ, List.set_cons_zero, List.nil_append, List.cons_append]
              refine wpRely_cons (fun w' hC hf => ?_) (fun v13 => ?_)
              · (repeat (first | (obtain ⟨rfl, hf⟩ := hf) | (obtain ⟨⟨q, rfl, hq⟩, hf⟩ := hf) | (obtain ⟨_, hf⟩ := hf)))
                exact grows_none (by rfl) hC rfl
              simp only [Act.put, List.setIfInBounds_toArray, List.set_cons_succ, List.set_cons_zero, List.nil_append, List.cons_append]
              refine wpRely_cons (fun w' hC hf => ?_) (fun v14 => ?_)
              · (repeat (first | (obtain ⟨rfl, hf⟩ := hf) | (obtain ⟨⟨q, rfl, hq⟩, hf⟩ := hf) | (obtain ⟨_, hf⟩ := hf)))
                exact grows_none (by rfl) hC rfl
              simp only [Act.put, List.setIfInBounds_toArray, List.set_cons_succ, List.set_cons_zero, List.nil_append, List.cons_append]
              refine wpRely_cons (fun w' hC hf => ?_) (fun v15 => ?_)
              · (repeat (first | (obtain ⟨rfl, hf⟩ := hf) | (obtain ⟨⟨q, rfl, hq⟩, hf⟩ := hf) | (obtain ⟨_, hf⟩ := hf)))
                exact grows_none (by rfl) hC rfl
              simp only [Act.put, List.setIfInBounds_toArray, List.set_cons_succ, List.set_cons_zero, List.nil_append, List.cons_append]
              refine wpRely_cons (fun w' hC hf => ?_) (fun v16 => ?_)
              · (repeat (first | (obtain ⟨rfl, hf⟩ := hf) | (obtain ⟨⟨q, rfl, hq⟩, hf⟩ := hf) | (obtain ⟨_, hf⟩ := hf)))
                exact grows_none (by rfl) hC rfl
              simp only [Act.put, List.setIfInBounds_toArray, List.set_cons_succ, List.set_cons_zero, List.nil_append, List.cons_append]
              refine wpRely_cons (fun w' hC hf => ?_) (fun v17 => ?_)
              · (repeat (first | (obtain ⟨rfl, hf⟩ := hf) | (obtain ⟨⟨q, rfl, hq⟩, hf⟩ := hf) | (obtain ⟨_, hf⟩ := hf)))
                exact grows_none (by rfl) hC rfl
              simp only [Act.put, List.setIfInBounds_toArray, List.set_cons_succ, List.set_cons_zero, List.nil_append, List.cons_append]
              refine wpRely_cons (fun w' hC hf => ?_) (fun v18 => ?_)
              · (repeat (first | (obtain ⟨rfl, hf⟩ := hf) | (obtain ⟨⟨q, rfl, hq⟩, hf⟩ := hf) | (obtain ⟨_, hf⟩ := hf)))
                exact grows_none (by rfl) hC rfl
              simp only [Act.put, List.setIfInBounds_toArray, List.set_cons_succ, List.set_cons_zero, List.nil_append, List.cons_append]
              refine wpRely_cons (fun w' hC hf => ?_) (fun v19 => ?_)
              · (repeat (first | (obtain ⟨rfl, hf⟩ := hf) | (obtain ⟨⟨q, rfl, hq⟩, hf⟩ := hf) | (obtain ⟨_, hf⟩ := hf)))
                exact grows_none (by rfl) hC rfl
              simp only [Act.put, List.setIfInBounds_toArray, List.set_cons_succ, List.set_cons_zero, List.nil_append, List.cons_append]
              refine wpRely_cons (fun w' hC hf => ?_) (fun v20 => ?_)
              · (repeat (first | (obtain ⟨rfl, hf⟩ := hf) | (obtain ⟨⟨q, rfl, hq⟩, hf⟩ := hf) | (obtain ⟨_, hf⟩ := hf)))
                exact grows_none (by rfl) hC rfl
              simp only [Act.put, List.setIfInBounds_toArray, List.set_cons_succ, List.set_cons_zero, List.nil_append, List.cons_append]
              refine wpRely_cons (fun w' hC hf => ?_) (fun v21 => ?_)
              · (repeat (first | (obtain ⟨rfl, hf⟩ := hf) | (obtain ⟨⟨q, rfl, hq⟩, hf⟩ := hf) | (obtain ⟨_, hf⟩ := hf)))
                exact grows_none (by rfl) hC rfl
              simp only [Act.put, List.setIfInBounds_toArray, List.set_cons_succ, List.set_cons_zero, List.nil_append, List.cons_append]
              refine wpRely_cons (fun w' hC hf => ?_) (fun v22 => ?_)
              · (repeat (first | (obtain ⟨rfl, hf⟩ := hf) | (obtain ⟨⟨q, rfl, hq⟩, hf⟩ := hf) | (obtain ⟨_, hf⟩ := hf)))
                exact grows_none (by rfl) hC rfl
              simp only [Act.put, List.setIfInBounds_toArray, List.set_cons_succ, List.set_cons_zero, List.nil_append, List.cons_append]
              refine wpRely_cons (fun w' hC hf => ?_) (fun v23 => ?_)
              · (repeat (first | (obtain ⟨rfl, hf⟩ := hf) | (obtain ⟨⟨q, rfl, hq⟩, hf⟩ := hf) | (obtain ⟨_, hf⟩ := hf)))
                exact grows_none (by rfl) hC rfl
              simp only [Act.put, List.setIfInBounds_toArray, List.set_cons_succ, List.set_cons_zero, List.nil_append, List.cons_append]
              refine wpRely_cons (fun w' hC hf => ?_) (fun v24 => ?_)
              · (repeat (first | (obtain ⟨rfl, hf⟩ := hf) | (obtain ⟨⟨q, rfl, hq⟩, hf⟩ := hf) | (obtain ⟨_, hf⟩ := hf)))
                exact grows_none (by rfl) hC rfl
              simp only [Act.put, List.setIfInBounds_toArray, List.set_cons_succ, List.set_cons_zero, List.nil_append, List.cons_append]
              refine wpRely_cons (fun w' hC hf => ?_) (fun v25 => ?_)
              · (repeat (first | (obtain ⟨rfl, hf⟩ := hf) | (obtain ⟨⟨q, rfl, hq⟩, hf⟩ := hf) | (obtain ⟨_, hf⟩ := hf)))
                exact grows_eqv (by rfl) hC (by go_simp)
              simp only [Act.put, List.setIfInBounds_toArray, List.set_cons_succ, List.set_cons_zero, List.nil_append, List.cons_append]
              refine wpRely_nil fun w9 hC hf => ?_
              obtain ⟨rfl, hf⟩ := hf
              obtain ⟨rfl, hf⟩ := hf
              obtain ⟨rfl, hf⟩ := hf
              obtain ⟨rfl, hf⟩ := hf
              obtain ⟨rfl, hf⟩ := hf
              obtain ⟨rfl, hf⟩ := hf
              obtain ⟨rfl, hf⟩ := hf
              obtain ⟨rfl, hf⟩ := hf
              obtain ⟨rfl, hf⟩ := hf
              obtain ⟨rfl, hf⟩ := hf
              obtain ⟨rfl, hf⟩ := hf
              obtain ⟨rfl, hf⟩ := hf
              obtain ⟨rfl, hf⟩ := hf
              obtain ⟨rfl, hf⟩ := hf
              obtain ⟨rfl, hf⟩ := hf
              obtain ⟨rfl, hf⟩ := hf
              obtain ⟨rfl, hf⟩ := hf
              obtain ⟨rfl, hf⟩ := hf
              obtain ⟨rfl, hf⟩ := hf
              obtain ⟨rfl, hf⟩ := hf
              obtain ⟨rfl, hf⟩ := hf
              obtain ⟨rfl, hf⟩ := hf
              obtain ⟨rfl, hf⟩ := hf
              obtain ⟨rfl, hf⟩ := hf
              obtain ⟨rfl, hf⟩ := hf
              obtain ⟨rfl, hf⟩ := hf
              have b9 := hb8.trans (hC.mono hb8.size)
              go_wp2
              go_roundg (n - (j + 1))
              case measure => omega
              case rel => exact ⟨j + 1, by omega, by go_num, b9⟩
          · have lj : ¬ (j : Int) < (n : Int) := by omega
            have b8 := b7.trans (hb8.mono b7.size)
            go_wp2
            go_ret
            exact ⟨rfl, b8⟩
      · rw [hkx] at C1
        have e0 := hkn.out hkx
        have eN : i = 0 := by rw [← hN, e0]; rfl
        subst eN
        replace C1 := Lib.hid C1
        clear hki hkn hrise hsml hkx lk hi hN hND
        go_wp2_with fail
        refine C1.out.mono ?_
        rintro e w7 ⟨rfl, hb7⟩
        have b7 := hb.trans (hb7.mono hb.size)
        go_wp2
        go_ret
        exact ⟨rfl, b7⟩

theorem walk_AdversaryNeeds (a : Option Addr) (n c : Nat) (K : Nds) (ak : Option Addr) (k ck : Nat) (f : Nat → Int) (t : Int) (ht : (Lit.int .u8 t).wf = true) (w : World) (hK : CameN w a n c K) (hZ : CameZ w ak k ck f) :
    Calls Try.prog 8 #[.slice a n c, .slice ak k ck, .int .u8 t] w fun e w' => e = .returned (.bool true) ∧ Below w.heap.size w w' := by
  obtain ⟨hs, hc⟩ := hK
  obtain ⟨hf, hnil⟩ := hZ
  obtain ⟨_, _⟩ := wf_u8 ht
  by_cases h : 40 < n ∨ 40 < k ∨ mayB K n = false ∨ n = 0
  · exact needs_nothing a n c K ak k ck t w hs hc h
  · have hm : mayB K n = true := by
      cases e : mayB K n
      · exact absurd (.inr (.inr (.inl e))) h
      · rfl
    obtain ⟨t', rfl⟩ := Int.eq_ofNat_of_zero_le (show 0 ≤ t by omega)
    exact needs_asked a n c K ak k ck f t' w hs hf hnil hc (by omega) (by omega) hm (by omega) (by omega)

end Go.Proofs.Ytjhalbifljnfjaa
