/-
  The walk of AdversaryMore.
-/
import Derived.Test.YtjhalbifljnfjaaAdvShown
import Derived.Test.YtjhalbifljnfjaaAdvOpen
import Derived.Test.YtjhalbifljnfjaaAdvRefNeeds
namespace Go.Proofs.Ytjhalbifljnfjaa
open Go.RowKit
set_option linter.unusedVariables false

/-- One list of numbers behind another. -/
def appF (f : Nat → Int) (k : Nat) (g : Nat → Int) : Nat → Int := fun j => if j < k then f j else g (j - k)
theorem cellL_app (f : Nat → Int) (k : Nat) (g : Nat → Int) : ∀ m, cellL k (intV f) ++ cellL m (intV g) = cellL (k + m) (intV (appF f k g))
  | 0 => by
    rw [Nat.add_zero, show cellL 0 (intV g) = [] from rfl, List.append_nil]
    exact cellL_congr fun j hj => by unfold intV appF; rw [if_pos hj]
  | m + 1 => by
    rw [← cellL_succ, ← List.append_assoc, cellL_app f k g m, show k + (m + 1) = k + m + 1 by omega, ← cellL_succ]
    congr 2
    unfold intV appF
    rw [if_neg (by omega), show k + m - k = m by omega]
theorem inZ_app {f : Nat → Int} {k : Nat} {g : Nat → Int} {m q : Nat} (h : inZ f k q) : inZ (appF f k g) (k + m) q := by
  obtain ⟨j, hj, e⟩ := h
  exact ⟨j, by omega, by unfold appF; rw [if_pos hj]; exact e⟩
/-- Numbers as a list. -/
def listZ (f : Nat → Int) (k : Nat) : List Int := (List.range k).map f
theorem listZ_cells (f : Nat → Int) (k : Nat) : cellL k (intV f) = zCells (listZ f k) := by
  unfold cellL zCells listZ
  rw [List.map_map]
  rfl
theorem listZ_length (f : Nat → Int) (k : Nat) : (listZ f k).length = k := by simp [listZ]
theorem inZ_list (l : List Int) (q : Nat) : inZ (fun j => l.getD j 0) l.length q ↔ (q : Int) ∈ l := by
  constructor
  · rintro ⟨j, hj, e⟩
    rw [← e]
    simp [hj]
  · intro h
    obtain ⟨j, hj, e⟩ := List.getElem_of_mem h
    exact ⟨j, hj, by simp [hj, e]⟩
theorem listZ_mem (f : Nat → Int) (k q : Nat) : (q : Int) ∈ listZ f k ↔ inZ f k q := by
  unfold listZ inZ
  rw [List.mem_map]
  constructor
  · rintro ⟨j, hj, e⟩
    exact ⟨j, List.mem_range.1 hj, e⟩
  · rintro ⟨j, hj, e⟩
    exact ⟨j, List.mem_range.2 hj, e⟩

/-- What is known, told again. -/
theorem more_same (K : Nds) (n : Nat) (f : Nat → Int) (k : Nat) (i : Nat) : knB K n (inZ (fun j => (listZ f k ++ selL (knB K n (inZ f k)) (fun i => (i : Int)) n).getD j 0) (listZ f k ++ selL (knB K n (inZ f k)) (fun i => (i : Int)) n).length) i = knB K n (inZ f k) i := by
  apply bool_eq_of
  rw [knB_iff, knB_iff]
  constructor
  · rintro ⟨hi, hk⟩
    refine ⟨hi, hk.again fun j hj hz => ?_⟩
    rw [inZ_list, List.mem_append] at hz
    rcases hz with hz | hz
    · exact Kn.base hj ((listZ_mem f k j).1 hz)
    · obtain ⟨q, hq, hp, e⟩ := (selL_mem _ _ _ _).1 hz
      have : q = j := by omega
      subst this
      exact ((knB_iff _ _ _ _).1 hp).2
  · rintro ⟨hi, hk⟩
    refine ⟨hi, hk.mono fun j hj hz => ?_⟩
    rw [inZ_list, List.mem_append]
    exact .inl ((listZ_mem f k j).2 hz)

set_option maxHeartbeats 8000000 in
set_option maxRecDepth 8000 in
theorem walk_AdversaryMore (a : Option Addr) (n c : Nat) (K : Nds) (ak : Option Addr) (k ck : Nat) (f : Nat → Int) (am : Option Addr) (m cm : Nat) (g : Nat → Int) (w : World) (hK : CameN w a n c K) (hZ : CameZ w ak k ck f) (hM : CameZ w am m cm g) :
    Calls Try.prog 4 #[.slice a n c, .slice ak k ck, .slice am m cm] w fun e w' => e = .returned (.bool true) ∧ Below w.heap.size w w' := by
  obtain ⟨hs, hc⟩ := hK
  obtain ⟨hf, hnil⟩ := hZ
  obtain ⟨hg, hnil2⟩ := hM
  replace hs := Lib.hid hs
  replace hf := Lib.hid hf
  replace hg := Lib.hid hg
  replace hnil := Lib.hid hnil
  replace hnil2 := Lib.hid hnil2
  have S := Lib.hid (shown9_any w)
  by_cases h80 : 80 < n
  · have l0 : (80 : Int) < (n : Int) := by omega
    go_enter Try.func4, Try.ntmps4
    go_wp2_with fail
    refine S.out.mono ?_
    rintro e w1 ⟨rfl, hb1⟩
    go_wp2
    go_ret
    exact ⟨rfl, hb1⟩
  have l0 : ¬ (80 : Int) < (n : Int) := by omega
  by_cases k60 : 60 < k
  · have l1 : (60 : Int) < (k : Int) := by omega
    go_enter Try.func4, Try.ntmps4
    go_wp2_with fail
    refine S.out.mono ?_
    rintro e w1 ⟨rfl, hb1⟩
    go_wp2
    go_ret
    exact ⟨rfl, hb1⟩
  have l1 : ¬ (60 : Int) < (k : Int) := by omega
  by_cases m60 : 60 < m
  · have l2 : (60 : Int) < (m : Int) := by omega
    go_enter Try.func4, Try.ntmps4
    go_wp2_with fail
    refine S.out.mono ?_
    rintro e w1 ⟨rfl, hb1⟩
    go_wp2
    go_ret
    exact ⟨rfl, hb1⟩
  have l2 : ¬ (60 : Int) < (m : Int) := by omega
  have hk6 : k ≤ 1000000 := by omega
  have hm6 : m ≤ 1000000 := by omega
  have hkm : k + m ≤ 1000000 := by omega
  have hNn : knN K n ≤ n := by unfold knN; split <;> omega
  have hn0 : n ≤ 80 := by omega
  have hk0 : k ≤ 60 := by omega
  go_enter Try.func4, Try.ntmps4
  go_wp2_with fail
  refine S.out.mono ?_
  rintro e w1 ⟨rfl, hb1⟩
  have M1 := Lib.hid (advKnows_any K n a ak c k ck hc hk6 f w1 (hs.out.after hb1) (hf.out.after hb1))
  clear S h80 k60 m60 l0 l1 l2
  go_wp2_with fail
  refine M1.out.mono ?_
  rintro e w2 ⟨v2, rfl, own2, hb2⟩
  have b2 := hb1.trans (hb2.mono hb1.size)
  obtain ⟨pa, qa, rfl, sa⟩ := own_bools_see own2.out
  replace sa := Lib.hid sa
  clear M1 hb1 hb2 own2
  have al : Below w2.heap.size w2 (w2.alloc (.cells #[] 3)) := (Below.refl _ _).alloc (Nat.le_refl _) _
  have oe : Hid ((w2.alloc (.cells #[] 3)).ownsRow w2.heap.size 3 1 (.slice (some ⟨w2.heap.size, 0, none⟩) 0 0) 0 []) := World.ownsRow_made w2 #[] 0 (Nat.le_refl _) (by decide) rfl
  have fe := Lib.hid (hf.out.after (b2.trans (al.mono b2.size)))
  go_wp2_with (first | (at_builtin; refine wpList_append_V Try.underlying23 Try.infoInt rfl (by decide) rfl _ _ rfl w2.heap.size _ 0 [] rfl oe.out al.size ak k ck rfl (intV f) fe.out (fun _ => rfl) (by omega) (by omega) hnil.out ?_; intro v3 w3 h3 h4 h5 h6; refine Hid.out ?_))
  unfold Hid
  have h7 := h3.out
  rw [List.nil_append, Nat.zero_add] at h7
  replace h7 := Lib.hid h7
  have b3 := al.trans h5.out
  clear h3 h4 h5 h6 oe fe al
  have ge := Lib.hid (hg.out.after (b2.trans (b3.mono b2.size)))
  go_wp2_with (first | (at_builtin; refine wpList_append_V Try.underlying23 Try.infoInt rfl (by decide) rfl _ _ rfl w2.heap.size _ k _ rfl h7.out b3.size am m cm rfl (intV g) ge.out (fun _ => rfl) (by omega) (by omega) hnil2.out ?_; intro v4 w4 h8 h9 h10 h11; refine Hid.out ?_))
  unfold Hid
  have h12 := h8.out
  rw [cellL_app] at h12
  obtain ⟨a4, c4, rfl, s4, _⟩ := own_F_see h12
  have b4 := b3.trans h10.out
  have b5 := b2.trans (b4.mono b2.size)
  have M2 := Lib.hid (advKnows_any K n a a4 c (k + m) c4 hc hkm (appF f k g) w4 (hs.out.after b5) s4)
  have sa4 := Lib.hid (sa.out.after b4)
  clear h7 h8 h9 h10 h11 h12 b3 b4 ge s4 b2 sa
  go_wp2_with fail
  refine M2.out.mono ?_
  rintro e w5 ⟨v5, rfl, own5, hb5⟩
  have b6 := b5.trans (hb5.mono b5.size)
  obtain ⟨pb, qb, rfl, sb⟩ := own_bools_see own5.out
  replace sb := Lib.hid sb
  have sa5' := Lib.hid (sa4.out.after hb5)
  have hmo : Hid (∀ i, knB K n (inZ f k) i = true → knB K n (inZ (appF f k g) (k + m)) i = true) := by
    intro i h
    rw [knB_iff] at *
    exact ⟨h.1, h.2.mono fun j _ hz => inZ_app hz⟩
  have hsm : Hid (∀ i, i < knN K n → knB K n (inZ (fun j => (listZ f k ++ selL (knB K n (inZ f k)) (fun i => (i : Int)) (knN K n)).getD j 0) (listZ f k ++ selL (knB K n (inZ f k)) (fun i => (i : Int)) (knN K n)).length) i = knB K n (inZ f k) i) := by
    intro i hi
    unfold knN at *
    cases hm : mayB K n
    · rw [hm, if_neg (by simp)] at hi
      exact absurd hi (Nat.not_lt_zero _)
    · rw [if_pos rfl]
      exact more_same K n f k i
  generalize knB K n (inZ (appF f k g) (k + m)) = X1 at *
  generalize hX0 : knB K n (inZ f k) = X0 at *
  have e0 := Lib.hid hX0
  clear M2 hb5 b5 own5 sa4 hX0
  have al : Below w5.heap.size w5 (w5.alloc (.cells #[] 3)) := (Below.refl _ _).alloc (Nat.le_refl _) _
  have oe : Hid ((w5.alloc (.cells #[] 3)).ownsRow w5.heap.size 3 1 (.slice (some ⟨w5.heap.size, 0, none⟩) 0 0) 0 []) := World.ownsRow_made w5 #[] 0 (Nat.le_refl _) (by decide) rfl
  have fe := Lib.hid (hf.out.after (b6.trans (al.mono b6.size)))
  go_wp2_with (first | (at_builtin; refine wpList_append_V Try.underlying23 Try.infoInt rfl (by decide) rfl _ _ rfl w5.heap.size _ 0 [] rfl oe.out al.size ak k ck rfl (intV f) fe.out (fun _ => rfl) (by omega) (by omega) hnil.out ?_; intro v3 w6 h3 h4 h5 h6; refine Hid.out ?_))
  unfold Hid
  have h7 := h3.out
  rw [List.nil_append, Nat.zero_add, listZ_cells] at h7
  have hl0 : (listZ f k).length = k := listZ_length f k
  have h7 : Hid (w6.ownsRow w5.heap.size 3 1 v3 (listZ f k).length (zCells (listZ f k))) := by unfold Hid; rw [hl0]; exact h7
  have b7 := al.trans h5.out
  clear h3 h4 h5 h6 oe fe al
  obtain ⟨N, hNN⟩ : ∃ N, knN K n = N := ⟨_, rfl⟩
  simp only [hNN] at hsm hNn sa5' sb ⊢
  replace hNN := Lib.hid hNN
  go_wp2
  go_loopg [9, 10] N (fun gn v9 v10 wr => ∃ i : Nat, i + gn = N ∧ v10 = .int .i64 (i : Int) ∧ Hid (wr.ownsRow w5.heap.size 3 1 v9 (listZ f k ++ selL X0 (fun i => (i : Int)) i).length (zCells (listZ f k ++ selL X0 (fun i => (i : Int)) i))) ∧ Below w5.heap.size w5 wr)
  case atStart => exact ⟨0, by omega, rfl, by simpa [selL] using h7, b7⟩
  case round =>
    clear h7 b7
    obtain ⟨i, hi, rfl, hown, hb⟩ := hrel
    by_cases hlt : i < N
    · have li : (i : Int) < (N : Int) := by omega
      have sa5 := Lib.hid (sa5'.out.after hb)
      have sb5 := Lib.hid (sb.out.after hb)
      have ga := Lib.hid (sa5.out.cell hlt)
      have gb := Lib.hid (sb5.out.cell hlt)
      unfold boolV at ga gb
      have hsl := selL_length X0 (fun i => (i : Int)) i
      have hll : (listZ f k ++ selL X0 (fun i => (i : Int)) i).length ≤ 1000000 := by rw [List.length_append, hl0]; omega
      have d0 : ((N : Int) != (N : Int)) = false := by simp
      cases hx : X0 i
      · rw [hx] at ga
        have el := Lib.hid (selL_no (A := fun i => (i : Int)) hx)
        repeat (first | (with_reducible refine wp_stop (id := 9) ?_) | go_values | go_skip | go_guarded | go_step | go_upon | go_back)
        unfold Hid
        refine wp_region_lit ?_
        refine wpList_val (.slice pb N qb) (by kernel_rfl) (by go_simp) ?_
        simp only [Act.put, List.setIfInBounds_toArray, List.set_cons_succ, List.set_cons_zero]
        refine wpList_val (.int .i64 (N : Int)) (by kernel_rfl) (by go_simp) ?_
        simp only [Act.put, List.setIfInBounds_toArray, List.set_cons_succ, List.set_cons_zero]
        refine wpList_val (.slice pa N qa) (by kernel_rfl) (by go_simp) ?_
        simp only [Act.put, List.setIfInBounds_toArray, List.set_cons_succ, List.set_cons_zero]
        refine wpList_val (.int .i64 (N : Int)) (by kernel_rfl) (by go_simp) ?_
        simp only [Act.put, List.setIfInBounds_toArray, List.set_cons_succ, List.set_cons_zero]
        refine wpList_val (.bool false) (by kernel_rfl) (by go_simp) ?_
        simp only [Act.put, List.setIfInBounds_toArray, List.set_cons_succ, List.set_cons_zero]
        refine wpList_val (.bool false) (by kernel_rfl) (by go_simp) ?_
        simp only [Act.put, List.setIfInBounds_toArray, List.set_cons_succ, List.set_cons_zero]
        refine wpList_val (.slice pa N qa) (by kernel_rfl) (by go_simp) ?_
        simp only [Act.put, List.setIfInBounds_toArray, List.set_cons_succ, List.set_cons_zero]
        refine wpList_val (.int .i64 (i : Int)) (by kernel_rfl) (by go_simp) ?_
        simp only [Act.put, List.setIfInBounds_toArray, List.set_cons_succ, List.set_cons_zero]
        refine wpList_val (.pointer (some (elV pa i))) (by kernel_rfl) (at_bools sa5.out hlt rfl rfl rfl rfl _) ?_
        simp only [Act.put, List.setIfInBounds_toArray, List.set_cons_succ, List.set_cons_zero]
        refine wpList_val (.bool false) (by kernel_rfl) (get_bool ga.out rfl rfl) ?_
        simp only [Act.put, List.setIfInBounds_toArray, List.set_cons_succ, List.set_cons_zero]
        refine wpList_val (.bool false) (by kernel_rfl) (by go_simp) ?_
        simp only [Act.put, List.setIfInBounds_toArray, List.set_cons_succ, List.set_cons_zero]
        with_reducible refine wpList_skip (by kernel_rfl) ?_
        simp only [Act.put, List.setIfInBounds_toArray, List.set_cons_succ, List.set_cons_zero]
        with_reducible refine wpList_skip (by kernel_rfl) ?_
        simp only [Act.put, List.setIfInBounds_toArray, List.set_cons_succ, List.set_cons_zero]
        with_reducible refine wpList_skip (by kernel_rfl) ?_
        simp only [Act.put, List.setIfInBounds_toArray, List.set_cons_succ, List.set_cons_zero]
        with_reducible refine wpList_skip (by kernel_rfl) ?_
        simp only [Act.put, List.setIfInBounds_toArray, List.set_cons_succ, List.set_cons_zero]
        with_reducible refine wpList_skip (by kernel_rfl) ?_
        simp only [Act.put, List.setIfInBounds_toArray, List.set_cons_succ, List.set_cons_zero]
        refine wpList_val (.bool false) (by kernel_rfl) (by go_simp) ?_
        simp only [Act.put, List.setIfInBounds_toArray, List.set_cons_succ, List.set_cons_zero]
        refine wpList_val (.bool false) (by kernel_rfl) (by go_simp) ?_
        simp only [Act.put, List.setIfInBounds_toArray, List.set_cons_succ, List.set_cons_zero]
        repeat (first | (with_reducible refine wp_stop (id := 11) ?_) | go_values | go_skip | go_guarded | go_step | go_upon | go_back)
        unfold Hid
        refine wp_region_lit ?_
        refine wpList_val (.slice pa N qa) (by kernel_rfl) (by go_simp) ?_
        simp only [Act.put, List.setIfInBounds_toArray, List.set_cons_succ, List.set_cons_zero]
        refine wpList_val (.int .i64 (i : Int)) (by kernel_rfl) (by go_simp) ?_
        simp only [Act.put, List.setIfInBounds_toArray, List.set_cons_succ, List.set_cons_zero]
        refine wpList_val (.pointer (some (elV pa i))) (by kernel_rfl) (at_bools sa5.out hlt rfl rfl rfl rfl _) ?_
        simp only [Act.put, List.setIfInBounds_toArray, List.set_cons_succ, List.set_cons_zero]
        refine wpList_val (.bool false) (by kernel_rfl) (get_bool ga.out rfl rfl) ?_
        simp only [Act.put, List.setIfInBounds_toArray, List.set_cons_succ, List.set_cons_zero]
        go_wp2
        go_roundg (N - (i + 1))
        case measure => omega
        case rel => exact ⟨i + 1, by omega, by go_num, by rw [el.out]; exact hown, hb⟩
      · rw [hx] at ga
        rw [hmo.out i hx] at gb
        have el := Lib.hid (selL_yes (A := fun i => (i : Int)) hx)
        repeat (first | (with_reducible refine wp_stop (id := 9) ?_) | go_values | go_skip | go_guarded | go_step | go_upon | go_back)
        unfold Hid
        refine wp_region_lit ?_
        refine wpList_val (.slice pb N qb) (by kernel_rfl) (by go_simp) ?_
        simp only [Act.put, List.setIfInBounds_toArray, List.set_cons_succ, List.set_cons_zero]
        refine wpList_val (.int .i64 (N : Int)) (by kernel_rfl) (by go_simp) ?_
        simp only [Act.put, List.setIfInBounds_toArray, List.set_cons_succ, List.set_cons_zero]
        refine wpList_val (.slice pa N qa) (by kernel_rfl) (by go_simp) ?_
        simp only [Act.put, List.setIfInBounds_toArray, List.set_cons_succ, List.set_cons_zero]
        refine wpList_val (.int .i64 (N : Int)) (by kernel_rfl) (by go_simp) ?_
        simp only [Act.put, List.setIfInBounds_toArray, List.set_cons_succ, List.set_cons_zero]
        refine wpList_val (.bool false) (by kernel_rfl) (by go_simp) ?_
        simp only [Act.put, List.setIfInBounds_toArray, List.set_cons_succ, List.set_cons_zero]
        refine wpList_val (.bool false) (by kernel_rfl) (by go_simp) ?_
        simp only [Act.put, List.setIfInBounds_toArray, List.set_cons_succ, List.set_cons_zero]
        refine wpList_val (.slice pa N qa) (by kernel_rfl) (by go_simp) ?_
        simp only [Act.put, List.setIfInBounds_toArray, List.set_cons_succ, List.set_cons_zero]
        refine wpList_val (.int .i64 (i : Int)) (by kernel_rfl) (by go_simp) ?_
        simp only [Act.put, List.setIfInBounds_toArray, List.set_cons_succ, List.set_cons_zero]
        refine wpList_val (.pointer (some (elV pa i))) (by kernel_rfl) (at_bools sa5.out hlt rfl rfl rfl rfl _) ?_
        simp only [Act.put, List.setIfInBounds_toArray, List.set_cons_succ, List.set_cons_zero]
        refine wpList_val (.bool true) (by kernel_rfl) (get_bool ga.out rfl rfl) ?_
        simp only [Act.put, List.setIfInBounds_toArray, List.set_cons_succ, List.set_cons_zero]
        refine wpList_val (.bool true) (by kernel_rfl) (by go_simp) ?_
        simp only [Act.put, List.setIfInBounds_toArray, List.set_cons_succ, List.set_cons_zero]
        refine wpList_val (.slice pb N qb) (by kernel_rfl) (by go_simp) ?_
        simp only [Act.put, List.setIfInBounds_toArray, List.set_cons_succ, List.set_cons_zero]
        refine wpList_val (.int .i64 (i : Int)) (by kernel_rfl) (by go_simp) ?_
        simp only [Act.put, List.setIfInBounds_toArray, List.set_cons_succ, List.set_cons_zero]
        refine wpList_val (.pointer (some (elV pb i))) (by kernel_rfl) (at_bools sb5.out hlt rfl rfl rfl rfl _) ?_
        simp only [Act.put, List.setIfInBounds_toArray, List.set_cons_succ, List.set_cons_zero]
        refine wpList_val (.bool true) (by kernel_rfl) (get_bool gb.out rfl rfl) ?_
        simp only [Act.put, List.setIfInBounds_toArray, List.set_cons_succ, List.set_cons_zero]
        refine wpList_val (.bool false) (by kernel_rfl) (by go_simp) ?_
        simp only [Act.put, List.setIfInBounds_toArray, List.set_cons_succ, List.set_cons_zero]
        refine wpList_val (.bool false) (by kernel_rfl) (by go_simp) ?_
        simp only [Act.put, List.setIfInBounds_toArray, List.set_cons_succ, List.set_cons_zero]
        refine wpList_val (.bool false) (by kernel_rfl) (by go_simp) ?_
        simp only [Act.put, List.setIfInBounds_toArray, List.set_cons_succ, List.set_cons_zero]
        repeat (first | (with_reducible refine wp_stop (id := 11) ?_) | go_values | go_skip | go_guarded | go_step | go_upon | go_back)
        unfold Hid
        refine wp_region_lit ?_
        refine wpList_val (.slice pa N qa) (by kernel_rfl) (by go_simp) ?_
        simp only [Act.put, List.setIfInBounds_toArray, List.set_cons_succ, List.set_cons_zero]
        refine wpList_val (.int .i64 (i : Int)) (by kernel_rfl) (by go_simp) ?_
        simp only [Act.put, List.setIfInBounds_toArray, List.set_cons_succ, List.set_cons_zero]
        refine wpList_val (.pointer (some (elV pa i))) (by kernel_rfl) (at_bools sa5.out hlt rfl rfl rfl rfl _) ?_
        simp only [Act.put, List.setIfInBounds_toArray, List.set_cons_succ, List.set_cons_zero]
        refine wpList_val (.bool true) (by kernel_rfl) (get_bool ga.out rfl rfl) ?_
        simp only [Act.put, List.setIfInBounds_toArray, List.set_cons_succ, List.set_cons_zero]
        go_wp2_with (at_builtin; refine wpList_append_z rfl _ _ rfl w5.heap.size _ (listZ f k ++ selL X0 (fun i => (i : Int)) i) _ rfl wr hown.out rfl rfl rfl hll hb.size ?_; intro v9 w9 own9 g9 b9)
        have b10 := hb.trans b9.out
        rw [List.append_assoc, ← el.out] at own9
        go_roundg (N - (i + 1))
        case measure => omega
        case rel => exact ⟨i + 1, by omega, by go_num, own9, b10⟩
    · have li : ¬ (i : Int) < (N : Int) := by omega
      have ein : i = N := by omega
      rw [ein] at hown
      obtain ⟨a7, c7, rfl, s7⟩ := own_zs_see hown.out
      have b8 := b6.trans (hb.mono b6.size)
      have hsl := selL_length X0 (fun i => (i : Int)) N
      have hll : (listZ f k ++ selL X0 (fun i => (i : Int)) N).length ≤ 1000000 := by rw [List.length_append, hl0]; omega
      have M3 := advKnows_any K n a a7 c (listZ f k ++ selL X0 (fun i => (i : Int)) N).length c7 hc hll (fun j => (listZ f k ++ selL X0 (fun i => (i : Int)) N).getD j 0) wr (hs.out.after b8) s7
      rw [hNN.out] at M3
      replace M3 := Lib.hid M3
      have sa8 := Lib.hid (sa5'.out.after hb)
      clear hown s7 hb
      generalize (listZ f k ++ selL X0 (fun i => (i : Int)) N).length = LL at *
      go_wp2_with fail
      refine M3.out.mono ?_
      rintro e w9 ⟨v9, rfl, own9, hb9⟩
      obtain ⟨p9, q9, rfl, s9⟩ := own_bools_see own9.out
      have s9' : SeesB w9 p9 N X0 := s9.congr fun i hi => by unfold boolV; rw [hsm.out i hi]
      have Q := Lib.hid (sameBools_any N (by omega) X0 p9 pa q9 qa w9 s9' (sa8.out.after hb9))
      have b9 := b8.trans (hb9.mono b8.size)
      clear M3 own9 s9 s9' sa8 hb9
      go_wp2_with fail
      refine Q.out.mono ?_
      rintro e w10 ⟨rfl, hb10⟩
      have b10 := b9.trans (hb10.mono b9.size)
      clear Q hb10
      go_wp2
      go_ret
      exact ⟨rfl, b10⟩

end Go.Proofs.Ytjhalbifljnfjaa
