/-
  The walk of TermParts: the parts counted in a map.
-/
import Derived.Test.YtlfgiggeeoegjaaDoorTermShown
import Derived.Test.YtlfgiggeeoegjaaDoorTermParts
import Derived.Maps.Own
import Derived.Maps.OwnSet
import Derived.Maps.OwnOps
import Derived.Maps.Views
import Derived.Maps.Keyed
namespace Go.Proofs.YtlfgiggeeoegjaaDoor
open Go.RowKit Go.Maps
set_option linter.unusedVariables false

theorem byte_in {i : Int} (h : (Lit.int .u8 i).wf = true) : ∃ k : Nat, k < 256 ∧ i = k := by
  simp [Lit.wf, IntKind.min, IntKind.max, IntKind.signed, IntKind.bits] at h
  exact ⟨i.toNat, by omega, by omega⟩

theorem keyedInt : Keyed Tryd.prog 3 := int_keyed Tryd.underlying3
theorem wf_small {z : Nat} (h : z ≤ 1000) : (Lit.int .i64 (z : Int)).wf = true := by
  simp [Lit.wf, IntKind.min, IntKind.max, IntKind.signed, IntKind.bits]
  omega
theorem keyInt {z : Nat} (h : z ≤ 1000) : keyOf Tryd.prog 3 (.int .i64 (z : Int)) = some (.int .i64 (z : Int)) := keyOf_int_mk Tryd.underlying3 (wf_small h)
theorem isKeyInt {z : Nat} (h : z ≤ 1000) : WideAt.IsKeyLit (.int .i64 (z : Int)) := keyedInt.key (keyInt h)
theorem zeroInt (w : World) : (zeroValue 3).run Tryd.prog w = .ok (.int .i64 0) w := Tryd.zeroValue3 w

/-- The map counts the numbers of l. -/
def Counts (D : DataW Unit) (l : List Nat) : Prop := ∀ z : Nat, z ≤ 1000 → D.atKey (.int .i64 (z : Int)) (.lit (.int .i64 0)) = .lit (.int .i64 (if z ∈ l then 1 else 0))
abbrev OwnM (w : World) (b n : Nat) (D : DataW Unit) : Prop := w.ownsMap Tryd.prog 3 (plainElem Tryd.prog 3) b n D

theorem counts_none : Counts (.map []) [] := fun z _ => by
  rw [WideAt.atKey_none _ (by simp)]
  simp
theorem counts_one {D : DataW Unit} {l : List Nat} {x : Nat} (h : Counts D l) (hD : IsMap D) (hx : x ≤ 1000) : Counts (D.put (.int .i64 (x : Int)) (.lit (.int .i64 1))) (l ++ [x]) := fun z hz => by
  by_cases e : z = x
  · subst e
    rw [atKey_put_same hD (isKeyInt hx)]
    simp
  · rw [atKey_put_other (fun e2 => e (by simp at e2; omega)), h z hz]
    simp [e]

theorem wp_at_region16 {P : Program} {ops : Array Oper} {d : Bool} {Q : Exit → Act → World → Prop} {a : Act} {w : World} (h : Hid ((Code.region 16 ops d).wp P Q a w)) : (Code.region 16 ops d).wp P Q a w := h

/-- m[k], at the operation. -/
theorem run_look {w : World} {b n : Nat} {D : DataW Unit} (hown : OwnM w b n D) {z : Nat} (hz : z ≤ 1000) {c : Int} (hat : D.atKey (.int .i64 (z : Int)) (.lit (.int .i64 0)) = .lit (.int .i64 c)) {o : Oper} {a : Act} {m x : Operand} (ho : o.op = .lookup 39 m x false) (hm : a.eval m = .map (some b)) (hx : a.eval x = .int .i64 (z : Int)) :
    (execOp a.eval o).run Tryd.prog w = .ok (.value (.int .i64 c)) w := by
  obtain ⟨c', hrun, hat', _⟩ := hown.lookup_int keyedInt Tryd.underlying39 Tryd.underlying3 (zeroInt w) (keyInt hz)
  have e : c' = c := by
    rw [hat] at hat'
    simpa using hat'.symm
  subst e
  simp [execOp, ho, hm, hx, hrun, Result.andThen]

theorem get_at {w : World} {ad : Addr} {z : Int} (hc : w.cell? ad = some (.int .i64 z)) {o : Oper} {a : Act} {x : Operand} (ho : o.op = .load 3 x) (hx : a.eval x = .pointer (some ad)) :
    (execOp a.eval o).run Tryd.prog w = .ok (.value (.int .i64 z)) w := by
  unfold execOp
  simp only [ho, hx, Instr.loadAt, Instr.sureAddr, Sem.run_bind, Sem.run_pure, Result.andThen_ok, run_loadVar_one w _ _ hc Tryd.underlying3 rfl]

theorem take_fresh {l : List Nat} (h : l.Nodup) {k : Nat} (hk : k < l.length) : l.getD k 0 ∉ l.take k ∧ l.take (k + 1) = l.take k ++ [l.getD k 0] := by
  have e : l.getD k 0 = l[k] := by rw [List.getD_eq_getElem?_getD, List.getElem?_eq_getElem hk]; rfl
  rw [e]
  refine ⟨fun hm => ?_, by rw [List.take_add_one, List.getElem?_eq_getElem hk]; rfl⟩
  obtain ⟨j, hj, ej⟩ := List.getElem_of_mem hm
  rw [List.length_take] at hj
  rw [List.getElem_take] at ej
  have h3 := List.pairwise_iff_getElem.1 h j k (by omega) hk (by omega)
  exact h3 ej
theorem getD_in {l : List Nat} {k : Nat} (hk : k < l.length) : l.getD k 0 ∈ l := by
  rw [List.getD_eq_getElem?_getD, List.getElem?_eq_getElem hk]
  exact List.getElem_mem hk

set_option maxHeartbeats 4000000 in
set_option maxRecDepth 8000 in
theorem parts_nothing (a : Option Addr) (n c : Nat) (K : Nds) (i : Int) (w : World) (hp : Hid (PTab w.heap.size w)) (hs : Hid (SeesN w a n K)) (hc : n ≤ c) (h : 100 < n ∨ mayB K n = false ∨ n = 0) :
    Calls Tryd.prog 5 #[.slice a n c, .int .u8 i] w fun e w' => e = .returned (.bool true) ∧ Below w.heap.size w w' := by
  have S : Hid (∀ w', PTab w'.heap.size w' → _) := fun w' h => shown8_any w' h
  by_cases h60 : 100 < n
  · have l0 : (100 : Int) < (n : Int) := by omega
    go_enter Tryd.func5, Tryd.ntmps5
    go_wp2_with fail
    refine (S.out w hp.out).mono ?_
    rintro e w1 ⟨rfl, hb1⟩
    go_wp2
    go_ret
    exact ⟨rfl, hb1⟩
  · have l0 : ¬ (100 : Int) < (n : Int) := by omega
    have M := may_any K n a c hc w hs
    by_cases hm : mayB K n = false
    · rw [hm] at M
      replace M := Lib.hid M
      clear h hm
      go_enter Tryd.func5, Tryd.ntmps5
      go_wp2_with fail
      refine M.out.mono ?_
      rintro e w1 ⟨rfl, hb1⟩
      go_wp2_with fail
      refine (S.out w1 (hp.out.after hb1)).mono ?_
      rintro e w2 ⟨rfl, hb2⟩
      have b2 := hb1.trans (hb2.mono hb1.size)
      go_wp2
      go_ret
      exact ⟨rfl, b2⟩
    · have hm' : mayB K n = true := by simpa using hm
      have h0 : n = 0 := by
        rcases h with h | h | h
        · omega
        · exact absurd h hm
        · exact h
      subst h0
      rw [hm'] at M
      replace M := Lib.hid M
      clear h hm hm'
      go_enter Tryd.func5, Tryd.ntmps5
      go_wp2_with fail
      refine M.out.mono ?_
      rintro e w1 ⟨rfl, hb1⟩
      go_wp2_with fail
      refine (S.out w1 (hp.out.after hb1)).mono ?_
      rintro e w2 ⟨rfl, hb2⟩
      have b2 := hb1.trans (hb2.mono hb1.size)
      go_wp2
      go_ret
      exact ⟨rfl, b2⟩

set_option maxHeartbeats 4000000 in
set_option maxRecDepth 8000 in
theorem parts_asked (a : Option Addr) (n c : Nat) (K : Nds) (i : Nat) (w : World) (hp : Hid (PTab w.heap.size w)) (hs : Hid (SeesN w a n K)) (hc : n ≤ c) (h60 : n ≤ 100) (hm : mayB K n = true) (h0 : 0 < n) (hi8 : i < 256) :
    Calls Tryd.prog 5 #[.slice a n c, .int .u8 (i : Int)] w fun e w' => e = .returned (.bool true) ∧ Below w.heap.size w w' := by
  have S : Hid (∀ w', PTab w'.heap.size w' → _) := fun w' h => shown8_any w' h
  have l0 : ¬ (100 : Int) < (n : Int) := by omega
  have l1 : ((n : Int) == 0) = false := beq_ff (by omega)
  have l2 : (n : Int) ≠ 0 := by omega
  have M := may_any K n a c hc w hs
  rw [hm] at M
  replace M := Lib.hid M
  obtain ⟨x, hx⟩ : ∃ x, x = i % n := ⟨_, rfl⟩
  have hxn : x < n := by rw [hx]; exact Nat.mod_lt _ h0
  have ex : (i : Int) % (n : Int) = (x : Int) := by rw [hx]; omega
  have tx : (i : Int).tmod (n : Int) = (x : Int) := by rw [Int.tmod_eq_emod_of_nonneg (by omega)]; exact ex
  clear hx
  have hpl : placeB K n (x : Int) = true := by unfold placeB; rw [hm]; simp; omega
  have hK := Lib.hid ((mayB_iff K n).1 hm).2
  have P := parts_any K n (x : Int) a c hc
  have epl : partsV K n (x : Int) = partL K x := by unfold partsV; rw [if_pos hpl, Int.toNat_natCast]
  rw [epl] at P
  replace P := Lib.hid P
  have hnd := Lib.hid (partL_nodup K x)
  have hlen := partL_length K x
  obtain ⟨l0', hl0⟩ := partL_last K x
  have hN0 : 0 < (partL K x).length := by rw [hl0]; simp
  have hlast : (partL K x).getD ((partL K x).length - 1) 0 = x := by rw [hl0]; simp [List.getD_eq_getElem?_getD]
  have hmem : Hid (∀ z, z ∈ partL K x ↔ z ≤ x ∧ partB K x z = true) := partL_mem K x
  have hclosed : Hid (∀ z, z ∈ partL K x → madeB (K z 0) = true → (K z 1).toNat ∈ partL K x ∧ (K z 2).toNat ∈ partL K x) := by
    intro z hz hmd
    obtain ⟨h1, h2⟩ := (hmem.out z).1 hz
    obtain ⟨h3, h4⟩ := part_made hK.out hxn h1 h2 hmd
    rcases hK.out.kinds (show z < n by omega) with ⟨h5, _⟩ | ⟨_, u, v, hu, hv, e1, e2⟩
    · rw [made_leaf h5] at hmd; cases hmd
    · rw [e1, Int.toNat_natCast] at h3 ⊢
      rw [e2, Int.toNat_natCast] at h4 ⊢
      exact ⟨(hmem.out u).2 ⟨by omega, h3⟩, (hmem.out v).2 ⟨by omega, h4⟩⟩
  have hsmall : Hid (∀ k, k < (partL K x).length → (partL K x).getD k 0 ≤ x) := fun k hk => ((hmem.out _).1 (getD_in hk)).1
  clear epl hl0 hm hpl l0'
  generalize partL K x = pl at *
  obtain ⟨N, hN⟩ : ∃ N, pl.length = N := ⟨_, rfl⟩
  have hlN : (((N - 1 : Nat) : Int)) = (N : Int) - 1 := by omega
  have f0 : ((N : Int) == 0) = false := beq_ff (by omega)
  have f1 : ((x : Int) != (x : Int)) = false := by simp
  have hN1 : N - 1 < N := by omega
  rw [hN] at hlast hlen
  replace hlast := Lib.hid hlast
  go_enter Tryd.func5, Tryd.ntmps5
  go_wp2_with fail
  refine M.out.mono ?_
  rintro e w1 ⟨rfl, hb1⟩
  go_wp2_with fail
  refine (S.out w1 (hp.out.after hb1)).mono ?_
  rintro e w2 ⟨rfl, hb2⟩
  have b2 := hb1.trans (hb2.mono hb1.size)
  clear S M hb1 hb2
  go_wp2_with fail
  refine (P.out w2 (hs.out.after b2)).mono ?_
  rintro e w3 ⟨a1, c1, rfl, si, hb3⟩
  rw [hN] at si ⊢
  have b3 := b2.trans (hb3.mono b2.size)
  have gl := si.out.cell hN1
  have gl' : w3.cell? (elV a1 (N - 1)) = some (.int .i64 (((pl.getD (N - 1) 0 : Nat)) : Int)) := gl
  rw [hlast.out] at gl'
  replace gl := Lib.hid gl'
  clear gl'
  have hmm := @run_makeMap Tryd.prog
  have om0 : Hid (OwnM (w3.alloc (.map #[] 0)) w3.heap.size 0 (.map [])) := World.ownsMap_made _ _ _ _
  have b4 := b3.alloc b3.size (.map #[] 0)
  have si4 := Lib.hid (si.out.after ((Below.refl _ w3).alloc (Nat.le_refl _) (.map #[] 0)))
  have hbm : w.heap.size ≤ w3.heap.size := b3.size
  clear hb3 b2 P
  go_wp2_with (first | (refine wpList_wknown rfl (at_ints si.out hN1 rfl rfl rfl hlN.symm _) ?_) | (refine wpList_wknown rfl (get_int gl.out rfl rfl) ?_))
  clear hmm gl si b3
  generalize w3.alloc (.map #[] 0) = w4 at *
  generalize w3.heap.size = bm at *
  go_loopw [8] (fun v wr => ∃ k : Nat, k ≤ N ∧ v = .int .i64 (k : Int) ∧ Hid (∃ D, OwnM wr bm k D ∧ Counts D (pl.take k)) ∧ Hid (SeesI wr a1 N (fun j => pl.getD j 0)) ∧ Below w.heap.size w wr) (fun v _ => N - (intOf v).toNat)
  case atStart => exact ⟨0, Nat.zero_le _, rfl, ⟨_, om0.out, by rw [List.take_zero]; exact counts_none⟩, si4, b4⟩
  case round =>
    clear om0 si4 b4
    obtain ⟨k, hk, rfl, hD, si, hb⟩ := hrel
    obtain ⟨D, om, hct⟩ := hD.out
    by_cases hlt : k < N
    · have lk : (k : Int) < (N : Int) := by omega
      have gk := si.out.cell hlt
      have gk' : wr.cell? (elV a1 k) = some (.int .i64 ((pl.getD k 0 : Nat) : Int)) := gk
      have hsm := hsmall.out k (by omega)
      obtain ⟨fr1, fr2⟩ := take_fresh hnd.out (k := k) (by omega)
      generalize pl.getD k 0 = q at gk' hsm fr1 fr2
      have hq : q ≤ 1000 := by omega
      have at0 := hct q hq
      rw [if_neg fr1] at at0
      have hkey := keyInt hq
      have one : plainElem (H := Unit) Tryd.prog 3 (.int .i64 1) = some (.lit (.int .i64 1), []) := plainElem_int Tryd.underlying3 (by decide)
      replace gk' := Lib.hid gk'
      replace om := Lib.hid om
      replace at0 := Lib.hid at0
      replace hct := Lib.hid hct
      replace fr2 := Lib.hid fr2
      clear gk hD fr1
      go_wp2_with (first | (refine wpList_known rfl (at_ints si.out hlt rfl rfl rfl rfl _) ?_) | (refine wpList_known rfl (get_int gk'.out rfl rfl) ?_) | (refine wpList_known rfl (run_look om.out hq at0.out rfl rfl rfl) ?_) | (at_mapUpdate; refine wpList_mapUpdate_own _ rfl _ _ _ 39 rfl 3 3 keyedInt Tryd.underlying39 _ bm k D rfl om.out (by unfold maxLen; omega) _ _ _ rfl rfl hkey _ [] one ?_; intro w5 om5 g5))
      have b5 : Below w.heap.size w w5 := hb.grown g5 hb.size (fun j hj => by cases hj; exact hbm)
      have si5 : Hid (SeesI w5 a1 N (fun j => pl.getD j 0)) := si.out.kept fun ad e hl => ⟨Nat.lt_of_lt_of_le hl g5.size, g5.block ad.block hl fun e2 => by
        obtain ⟨es, clock, hmap, _⟩ := om.out
        have eb : ad.block = bm := by simpa using e2
        have hc0 := si.out.cell (show 0 < N by omega)
        rw [e] at hc0
        have h3 : wr.cell? (elV (some ad) 0) = none := by
          show wr.cell? (ad.add 0) = none
          rw [add_zero]
          unfold World.cell?
          rw [eb, hmap]
        rw [h3] at hc0
        cases hc0⟩
      have ct5 : Hid (∃ D, OwnM w5 bm (k + 1) D ∧ Counts D (pl.take (k + 1))) := ⟨_, om5, by rw [fr2.out]; exact counts_one hct.out om.out.isMap hq⟩
      clear om5 g5
      go_roundw
      case rel => exact ⟨k + 1, by omega, by go_num, ct5, si5, b5⟩
      case measure => simp [intOf]; omega
    · have lk : ¬ (k : Int) < (N : Int) := by omega
      obtain rfl : N = k := by omega
      have hct' : Counts D pl := by rw [← hN, List.take_length] at hct; exact hct
      clear hct
      have hct := hct'
      clear hct'
      replace om := Lib.hid om
      replace hct := Lib.hid hct
      clear hD
      go_wp2
      go_loopw [9] (fun v wr' => ∃ j : Nat, j ≤ N ∧ v = .int .i64 (j : Int) ∧ Hid (OwnM wr' bm N D) ∧ Hid (SeesI wr' a1 N (fun j => pl.getD j 0)) ∧ Below w.heap.size w wr') (fun v _ => N - (intOf v).toNat)
      case atStart => exact ⟨0, Nat.zero_le _, rfl, om, si, hb⟩
      case round =>
        clear om si hb
        obtain ⟨j, hj, rfl, om, si, hb⟩ := hrel
        by_cases hlt : j < N
        · have lj : (j : Int) < (N : Int) := by omega
          have gj' : wr.cell? (elV a1 j) = some (.int .i64 ((pl.getD j 0 : Nat) : Int)) := si.out.cell hlt
          have gk5 : ∀ w', SeesI w' a1 N (fun j => pl.getD j 0) → w'.cell? (elV a1 j) = some (.int .i64 ((pl.getD j 0 : Nat) : Int)) := fun w' h => h.cell hlt
          have hsm := hsmall.out j (by omega)
          have hin : pl.getD j 0 ∈ pl := getD_in (by omega)
          generalize pl.getD j 0 = q at gj' gk5 hsm hin
          have hq : q ≤ 1000 := by omega
          have hqn : q < n := by omega
          have at1 := hct.out q hq
          rw [if_pos hin] at at1
          have s1 := Lib.hid (hs.out.after hb)
          replace gj' := Lib.hid gj'
          replace at1 := Lib.hid at1
          rcases hK.out.kinds hqn with ⟨h5, ⟨u, hu, e1⟩, e2⟩ | ⟨h5, u, v, hu, hv, e1, e2⟩
          · have l2 : ¬ 2 ≤ K q 0 := by omega
            clear h5 hu
            have al : Below wr.heap.size wr (wr.alloc (.cells #[.int .i64 (K q 0), .int .i64 (u : Int), .int .i64 0] 41)) := (Below.refl _ _).alloc (Nat.le_refl _) _
            have b5 := hb.alloc hb.size (.cells #[.int .i64 (K q 0), .int .i64 (u : Int), .int .i64 0] 41)
            have om5 := Lib.hid (om.out.alloc (.cells #[.int .i64 (K q 0), .int .i64 (u : Int), .int .i64 0] 41))
            have si5 := Lib.hid (si.out.after al)
            have gj5 : Hid ((wr.alloc (.cells #[.int .i64 (K q 0), .int .i64 (u : Int), .int .i64 0] 41)).cell? (elV a1 j) = some (.int .i64 (q : Int))) := gk5 _ si5.out
            have r5 := Lib.hid (RowAt.new wr 41 #[.int .i64 (K q 0), .int .i64 (u : Int), .int .i64 0])
            clear al gk5
            repeat (first | (with_reducible refine wp_at_region16 ?_) | (refine wpList_known rfl (at_ints si.out hlt rfl rfl rfl rfl _) ?_) | (refine wpList_known rfl (get_int gj'.out rfl rfl) ?_) | (refine wpList_known rfl (at_nodes s1.out hqn rfl rfl rfl rfl _) ?_) | (refine wpList_known rfl (get_node s1.out hqn rfl rfl) ?_) | go_values | go_skip | go_guarded | go_step | go_upon | go_back)
            unfold Hid
            generalize wr.heap.size = p at r5 ⊢
            generalize wr.alloc _ = w5 at *
            have c0 : w5.cell? ⟨p, 0, none⟩ = some (.int .i64 (K q 0)) := cell_of_row w5 p 0 _ _ (0, 0) r5.out
            clear r5 gj' s1 si om
            refine wp_region_lit ?_
            refine wpList_val (.map (some bm)) (by kernel_rfl) (by go_simp) ?_
            simp only [Act.put, List.setIfInBounds_toArray, List.set_cons_succ, List.set_cons_zero]
            refine wpList_val (.slice a1 N c1) (by kernel_rfl) (by go_simp) ?_
            simp only [Act.put, List.setIfInBounds_toArray, List.set_cons_succ, List.set_cons_zero]
            refine wpList_val (.int .i64 (j : Int)) (by kernel_rfl) (by go_simp) ?_
            simp only [Act.put, List.setIfInBounds_toArray, List.set_cons_succ, List.set_cons_zero]
            refine wpList_val (.pointer (some (elV a1 j))) (by kernel_rfl) (at_ints si5.out hlt rfl rfl rfl rfl _) ?_
            simp only [Act.put, List.setIfInBounds_toArray, List.set_cons_succ, List.set_cons_zero]
            refine wpList_val (.int .i64 (q : Int)) (by kernel_rfl) (get_int gj5.out rfl rfl) ?_
            simp only [Act.put, List.setIfInBounds_toArray, List.set_cons_succ, List.set_cons_zero]
            refine wpList_val (.int .i64 1) (by kernel_rfl) (run_look om5.out hq at1.out rfl rfl rfl) ?_
            simp only [Act.put, List.setIfInBounds_toArray, List.set_cons_succ, List.set_cons_zero]
            refine wpList_val (.bool false) (by kernel_rfl) (by go_simp) ?_
            simp only [Act.put, List.setIfInBounds_toArray, List.set_cons_succ, List.set_cons_zero]
            refine wpList_val (.bool false) (by kernel_rfl) (by go_simp) ?_
            simp only [Act.put, List.setIfInBounds_toArray, List.set_cons_succ, List.set_cons_zero]
            refine wpList_val (.pointer (some ⟨p, 0, none⟩)) (by kernel_rfl) (by go_simp) ?_
            simp only [Act.put, List.setIfInBounds_toArray, List.set_cons_succ, List.set_cons_zero]
            refine wpList_val (.int .i64 (K q 0)) (by kernel_rfl) (get_at c0 rfl rfl) ?_
            simp only [Act.put, List.setIfInBounds_toArray, List.set_cons_succ, List.set_cons_zero]
            refine wpList_val (.bool false) (by kernel_rfl) (by go_simp) ?_
            simp only [Act.put, List.setIfInBounds_toArray, List.set_cons_succ, List.set_cons_zero]
            refine wpList_val (.bool false) (by kernel_rfl) (by go_simp) ?_
            simp only [Act.put, List.setIfInBounds_toArray, List.set_cons_succ, List.set_cons_zero]
            with_reducible refine wpList_skip (by kernel_rfl) ?_
            simp only [Act.put, List.setIfInBounds_toArray, List.set_cons_succ, List.set_cons_zero]
            with_reducible refine wpList_skip (by kernel_rfl) ?_
            simp only [Act.put, List.setIfInBounds_toArray, List.set_cons_succ, List.set_cons_zero]
            with_reducible refine wpList_skip (by kernel_rfl) ?_
            simp only [Act.put, List.setIfInBounds_toArray, List.set_cons_succ, List.set_cons_zero]
            with_reducible refine wpList_skip (by kernel_rfl) ?_
            simp only [Act.put, List.setIfInBounds_toArray, List.set_cons_succ, List.set_cons_zero]
            with_reducible refine wpList_skip (by kernel_rfl) ?_
            simp only [Act.put, List.setIfInBounds_toArray, List.set_cons_succ, List.set_cons_zero]
            with_reducible refine wpList_skip (by kernel_rfl) ?_
            simp only [Act.put, List.setIfInBounds_toArray, List.set_cons_succ, List.set_cons_zero]
            with_reducible refine wpList_skip (by kernel_rfl) ?_
            simp only [Act.put, List.setIfInBounds_toArray, List.set_cons_succ, List.set_cons_zero]
            with_reducible refine wpList_skip (by kernel_rfl) ?_
            simp only [Act.put, List.setIfInBounds_toArray, List.set_cons_succ, List.set_cons_zero]
            with_reducible refine wpList_skip (by kernel_rfl) ?_
            simp only [Act.put, List.setIfInBounds_toArray, List.set_cons_succ, List.set_cons_zero]
            with_reducible refine wpList_skip (by kernel_rfl) ?_
            simp only [Act.put, List.setIfInBounds_toArray, List.set_cons_succ, List.set_cons_zero]
            with_reducible refine wpList_skip (by kernel_rfl) ?_
            simp only [Act.put, List.setIfInBounds_toArray, List.set_cons_succ, List.set_cons_zero]
            with_reducible refine wpList_skip (by kernel_rfl) ?_
            simp only [Act.put, List.setIfInBounds_toArray, List.set_cons_succ, List.set_cons_zero]
            refine wpList_val (.bool false) (by kernel_rfl) (by go_simp) ?_
            simp only [Act.put, List.setIfInBounds_toArray, List.set_cons_succ, List.set_cons_zero]
            refine wpList_val (.bool false) (by kernel_rfl) (by go_simp) ?_
            simp only [Act.put, List.setIfInBounds_toArray, List.set_cons_succ, List.set_cons_zero]
            go_wp2
            go_roundw
            case rel => exact ⟨j + 1, by omega, by go_num, om5, si5, b5⟩
            case measure => simp [intOf]; omega
          · have l2 : 2 ≤ K q 0 := by omega
            obtain ⟨hu2, hv2⟩ := hclosed.out q hin (made_yes h5)
            rw [e1, Int.toNat_natCast] at hu2
            rw [e2, Int.toNat_natCast] at hv2
            have hu3 : u ≤ 1000 := by omega
            have hv3 : v ≤ 1000 := by omega
            have atu := hct.out u hu3
            have atv := hct.out v hv3
            rw [if_pos hu2] at atu
            rw [if_pos hv2] at atv
            replace atu := Lib.hid atu
            replace atv := Lib.hid atv
            clear h5 hu2 hv2
            have al : Below wr.heap.size wr (wr.alloc (.cells #[.int .i64 (K q 0), .int .i64 (u : Int), .int .i64 (v : Int)] 41)) := (Below.refl _ _).alloc (Nat.le_refl _) _
            have b5 := hb.alloc hb.size (.cells #[.int .i64 (K q 0), .int .i64 (u : Int), .int .i64 (v : Int)] 41)
            have om5 := Lib.hid (om.out.alloc (.cells #[.int .i64 (K q 0), .int .i64 (u : Int), .int .i64 (v : Int)] 41))
            have si5 := Lib.hid (si.out.after al)
            have gj5 : Hid ((wr.alloc (.cells #[.int .i64 (K q 0), .int .i64 (u : Int), .int .i64 (v : Int)] 41)).cell? (elV a1 j) = some (.int .i64 (q : Int))) := gk5 _ si5.out
            have r5 := Lib.hid (RowAt.new wr 41 #[.int .i64 (K q 0), .int .i64 (u : Int), .int .i64 (v : Int)])
            clear al gk5
            repeat (first | (with_reducible refine wp_at_region16 ?_) | (refine wpList_known rfl (at_ints si.out hlt rfl rfl rfl rfl _) ?_) | (refine wpList_known rfl (get_int gj'.out rfl rfl) ?_) | (refine wpList_known rfl (at_nodes s1.out hqn rfl rfl rfl rfl _) ?_) | (refine wpList_known rfl (get_node s1.out hqn rfl rfl) ?_) | go_values | go_skip | go_guarded | go_step | go_upon | go_back)
            unfold Hid
            generalize wr.heap.size = p at r5 ⊢
            generalize wr.alloc _ = w5 at *
            have c0 : w5.cell? ⟨p, 0, none⟩ = some (.int .i64 (K q 0)) := cell_of_row w5 p 0 _ _ (0, 0) r5.out
            have c1r : w5.cell? ⟨p, 1, none⟩ = some (.int .i64 (u : Int)) := cell_of_row w5 p 1 _ _ (0, 0) r5.out
            have c2r : w5.cell? ⟨p, 2, none⟩ = some (.int .i64 (v : Int)) := cell_of_row w5 p 2 _ _ (0, 0) r5.out
            clear r5 gj' s1 si om
            refine wp_region_lit ?_
            refine wpList_val (.map (some bm)) (by kernel_rfl) (by go_simp) ?_
            simp only [Act.put, List.setIfInBounds_toArray, List.set_cons_succ, List.set_cons_zero]
            refine wpList_val (.slice a1 N c1) (by kernel_rfl) (by go_simp) ?_
            simp only [Act.put, List.setIfInBounds_toArray, List.set_cons_succ, List.set_cons_zero]
            refine wpList_val (.int .i64 (j : Int)) (by kernel_rfl) (by go_simp) ?_
            simp only [Act.put, List.setIfInBounds_toArray, List.set_cons_succ, List.set_cons_zero]
            refine wpList_val (.pointer (some (elV a1 j))) (by kernel_rfl) (at_ints si5.out hlt rfl rfl rfl rfl _) ?_
            simp only [Act.put, List.setIfInBounds_toArray, List.set_cons_succ, List.set_cons_zero]
            refine wpList_val (.int .i64 (q : Int)) (by kernel_rfl) (get_int gj5.out rfl rfl) ?_
            simp only [Act.put, List.setIfInBounds_toArray, List.set_cons_succ, List.set_cons_zero]
            refine wpList_val (.int .i64 1) (by kernel_rfl) (run_look om5.out hq at1.out rfl rfl rfl) ?_
            simp only [Act.put, List.setIfInBounds_toArray, List.set_cons_succ, List.set_cons_zero]
            refine wpList_val (.bool false) (by kernel_rfl) (by go_simp) ?_
            simp only [Act.put, List.setIfInBounds_toArray, List.set_cons_succ, List.set_cons_zero]
            refine wpList_val (.bool false) (by kernel_rfl) (by go_simp) ?_
            simp only [Act.put, List.setIfInBounds_toArray, List.set_cons_succ, List.set_cons_zero]
            refine wpList_val (.pointer (some ⟨p, 0, none⟩)) (by kernel_rfl) (by go_simp) ?_
            simp only [Act.put, List.setIfInBounds_toArray, List.set_cons_succ, List.set_cons_zero]
            refine wpList_val (.int .i64 (K q 0)) (by kernel_rfl) (get_at c0 rfl rfl) ?_
            simp only [Act.put, List.setIfInBounds_toArray, List.set_cons_succ, List.set_cons_zero]
            refine wpList_val (.bool true) (by kernel_rfl) (by go_simp) ?_
            simp only [Act.put, List.setIfInBounds_toArray, List.set_cons_succ, List.set_cons_zero]
            refine wpList_val (.bool true) (by kernel_rfl) (by go_simp) ?_
            simp only [Act.put, List.setIfInBounds_toArray, List.set_cons_succ, List.set_cons_zero]
            refine wpList_val (.map (some bm)) (by kernel_rfl) (by go_simp) ?_
            simp only [Act.put, List.setIfInBounds_toArray, List.set_cons_succ, List.set_cons_zero]
            refine wpList_val (.pointer (some ⟨p, 1, none⟩)) (by kernel_rfl) (by go_simp) ?_
            simp only [Act.put, List.setIfInBounds_toArray, List.set_cons_succ, List.set_cons_zero]
            refine wpList_val (.int .i64 (u : Int)) (by kernel_rfl) (get_at c1r rfl rfl) ?_
            simp only [Act.put, List.setIfInBounds_toArray, List.set_cons_succ, List.set_cons_zero]
            refine wpList_val (.int .i64 1) (by kernel_rfl) (run_look om5.out hu3 atu.out rfl rfl rfl) ?_
            simp only [Act.put, List.setIfInBounds_toArray, List.set_cons_succ, List.set_cons_zero]
            refine wpList_val (.bool false) (by kernel_rfl) (by go_simp) ?_
            simp only [Act.put, List.setIfInBounds_toArray, List.set_cons_succ, List.set_cons_zero]
            refine wpList_val (.bool false) (by kernel_rfl) (by go_simp) ?_
            simp only [Act.put, List.setIfInBounds_toArray, List.set_cons_succ, List.set_cons_zero]
            refine wpList_val (.map (some bm)) (by kernel_rfl) (by go_simp) ?_
            simp only [Act.put, List.setIfInBounds_toArray, List.set_cons_succ, List.set_cons_zero]
            refine wpList_val (.pointer (some ⟨p, 2, none⟩)) (by kernel_rfl) (by go_simp) ?_
            simp only [Act.put, List.setIfInBounds_toArray, List.set_cons_succ, List.set_cons_zero]
            refine wpList_val (.int .i64 (v : Int)) (by kernel_rfl) (get_at c2r rfl rfl) ?_
            simp only [Act.put, List.setIfInBounds_toArray, List.set_cons_succ, List.set_cons_zero]
            refine wpList_val (.int .i64 1) (by kernel_rfl) (run_look om5.out hv3 atv.out rfl rfl rfl) ?_
            simp only [Act.put, List.setIfInBounds_toArray, List.set_cons_succ, List.set_cons_zero]
            refine wpList_val (.bool false) (by kernel_rfl) (by go_simp) ?_
            simp only [Act.put, List.setIfInBounds_toArray, List.set_cons_succ, List.set_cons_zero]
            refine wpList_val (.bool false) (by kernel_rfl) (by go_simp) ?_
            simp only [Act.put, List.setIfInBounds_toArray, List.set_cons_succ, List.set_cons_zero]
            refine wpList_val (.bool false) (by kernel_rfl) (by go_simp) ?_
            simp only [Act.put, List.setIfInBounds_toArray, List.set_cons_succ, List.set_cons_zero]
            refine wpList_val (.bool false) (by kernel_rfl) (by go_simp) ?_
            simp only [Act.put, List.setIfInBounds_toArray, List.set_cons_succ, List.set_cons_zero]
            go_wp2
            go_roundw
            case rel => exact ⟨j + 1, by omega, by go_num, om5, si5, b5⟩
            case measure => simp [intOf]; omega
        · have lj : ¬ (j : Int) < (N : Int) := by omega
          go_wp2
          go_ret
          exact ⟨rfl, hb⟩

theorem walk_TermParts (a : Option Addr) (n c : Nat) (K : Nds) (i : Int) (wi : (Lit.int .u8 i).wf = true) (w : World) (hp : PTab w.heap.size w) (hK : SeesN w a n K ∧ n ≤ c) :
    Calls Tryd.prog 5 #[.slice a n c, .int .u8 i] w fun e w' => e = .returned (.bool true) ∧ Below w.heap.size w w' := by
  by_cases h : 100 < n ∨ mayB K n = false ∨ n = 0
  · exact parts_nothing a n c K i w hp hK.1 hK.2 h
  · obtain ⟨i, hi, rfl⟩ := byte_in wi
    refine parts_asked a n c K i w hp hK.1 hK.2 (by omega) ?_ (by omega) hi
    cases hm : mayB K n
    · exact absurd (.inr (.inl hm)) h
    · rfl

end Go.Proofs.YtlfgiggeeoegjaaDoor
