/-
  Contract: the document's Knows.
-/
import Derived.Test.YtjhalbifljnfjaaAdvRefMath
import Derived.Test.YtjhalbifljnfjaaAdvTold
import Derived.Test.YtjhalbifljnfjaaAdvMind
import Derived.Test.YtjhalbifljnfjaaAdvStep
import Derived.Test.YtjhalbifljnfjaaTermRefSame
import Derived.Deep.CutRange
namespace Go.Proofs.Ytjhalbifljnfjaa
open Go.RowKit
set_option linter.unusedVariables false

/-- The rows of the document's Knows: first places, what is marked; the rest as before. -/
def RJ (K : Nds) (n : Nat) (w : World) (ac : Option Addr) (p : Nat) (X : Nat → Bool) (wr : World) : Prop := SeesI wr ac n (fst K) ∧ BRow wr p n X ∧ Below w.heap.size w wr
theorem RJ.after {K : Nds} {n : Nat} {w : World} {ac : Option Addr} {p : Nat} {X : Nat → Bool} {wr w' : World} (h : RJ K n w ac p X wr) (hb : Below wr.heap.size wr w') : RJ K n w ac p X w' := ⟨h.1.after hb, h.2.1.after hb, h.2.2.trans (hb.mono h.2.2.size)⟩
theorem RJ.store {K : Nds} {n : Nat} {w : World} {ac : Option Addr} {p : Nat} {X Y : Nat → Bool} {wr w' : World} (h : RJ K n w ac p X wr) (hB : BRow w' p n Y) (hA : Apart p wr w') (ho : Off ac p) (hp : w.heap.size ≤ p) : RJ K n w ac p Y w' := ⟨h.1.apart hA ho, hB, h.2.2.trans (hA.under hp h.2.2.size)⟩
theorem get_refNodeE {w : World} {ad : Option Addr} {n i : Nat} {K : Nds} (h : SeesN w ad n K) (hi : i < n) {z0 z1 z2 : Int} (e0 : K i 0 = z0) (e1 : K i 1 = z1) (e2 : K i 2 = z2) {o : Oper} {a : Act} {x : Operand} (ho : o.op = .load 50 x) (hx : a.eval x = .pointer (some (elV ad (i * 3)))) :
    (execOp a.eval o).run Try.prog w = .ok (.value (.agg #[.int .i64 z0, .int .i64 z1, .int .i64 z2])) w := by
  subst e0 e1 e2
  exact get_refNode h hi ho hx

theorem ref_upto {K : Nds} {Y : Nat → Bool} {i : Nat} (h : ∀ e, e < i → SatR K Y e) (hi : SatR K Y i) : ∀ e, e < i + 1 → SatR K Y e := fun e he => by
  by_cases e3 : e = i
  · rw [e3]; exact hi
  · exact h e (by omega)
theorem ref_third {a b c : Bool} (h : (a && b && !c) = true) : a = true ∧ b = true ∧ c = false := by cases a <;> cases b <;> cases c <;> simp_all

def RefKEnd (K : Nds) (n : Nat) (S : Nat → Prop) (w : World) (e : Ending) (w' : World) : Prop := ∃ v, e = .returned v ∧ Hid (w'.ownsRow w.heap.size 4 1 v (knN K n) (cellL (knN K n) (boolV (knB K n S)))) ∧ Below w.heap.size w w'

set_option maxHeartbeats 1000000 in
set_option maxRecDepth 8000 in
theorem refKnows_no (K : Nds) (n : Nat) (a ak : Option Addr) (c k ck : Nat) (S : Nat → Prop) (hm : mayB K n = false) (w : World) (hs : Hid (SeesN w a n K)) :
    Calls Try.prog 13 #[.slice a n c, .slice ak k ck] w (RefKEnd K n S w) := by
  have M := refMay_any K n a c w hs
  rw [hm] at M
  replace M := Lib.hid M
  have ec : Hid (knN K n = 0) := by unfold Hid knN; rw [hm]; rfl
  clear hm
  go_enter Try.func13, Try.ntmps13
  go_wp2_with fail
  refine M.out.mono ?_
  rintro e w1 ⟨rfl, hb1⟩
  clear M
  go_wp2
  go_ret
  refine ⟨_, rfl, ?_, hb1⟩
  rw [ec.out]
  exact World.ownsRow_nil _ _ _ _


set_option maxHeartbeats 16000000 in
set_option maxRecDepth 8000 in
theorem refKnows_yes (K : Nds) (n : Nat) (a ak : Option Addr) (c k ck : Nat) (hk : k ≤ 1000000) (f : Nat → Int) (hm : mayB K n = true) (w : World) (hs : Hid (SeesN w a n K)) (hf : Hid (SeesZ w ak k f)) :
    Calls Try.prog 13 #[.slice a n c, .slice ak k ck] w (RefKEnd K n (inZ f k) w) := by
  obtain ⟨hn, hK⟩ := (mayB_iff K n).1 hm
  have M := refMay_any K n a c w hs
  rw [hm] at M
  replace M := Lib.hid M
  replace hK := Lib.hid hK
  have ec : Hid (knN K n = n) := by unfold Hid knN; rw [hm]; rfl
  clear hm
  go_enter Try.func13, Try.ntmps13
  go_wp2_with fail
  refine M.out.mono ?_
  rintro e w1 ⟨rfl, hb1⟩
  have E := Lib.hid (classes_any K n hn hK a c w1 (Lib.hid (hs.out.after hb1)))
  clear M
  go_wp2_with fail
  refine E.out.mono ?_
  rintro e w2 ⟨v, rfl, hC, hb2⟩
  have b2 := hb1.trans (hb2.mono hb1.size)
  obtain ⟨ac, cc, rfl, sc, _, _, oc⟩ := own_ints hC.out
  have off : Hid (Off ac w2.heap.size) := fun ad e => by have := (hC.out.lt ad.block (oc ad e).2.1).2; omega
  have hpl : Hid (w.heap.size ≤ w2.heap.size) := b2.size
  have b3 : Below w2.heap.size w2 (w2.alloc (.cells (rowOf n (boolV fun _ => false)) 4)) := (Below.refl _ _).alloc (Nat.le_refl _) _
  have J0 : Hid (RJ K n w ac w2.heap.size noneB (w2.alloc (.cells (rowOf n (boolV fun _ => false)) 4))) := ⟨sc.after b3, ⟨_, RowAt.new w2 4 (rowOf n (boolV fun _ => false)), fun j hj => rowOf_get n _ j hj⟩, b2.trans (b3.mono b2.size)⟩
  have hn6 : n ≤ 1000000 := by omega
  clear E hC hb1 hb2 b2 b3 sc oc
  go_wp2_with (first | (refine wpList_make_bools rfl _ _ rfl n _ rfl rfl rfl hn6 ?_))
  generalize w2.alloc _ = w3 at *
  generalize w2.heap.size = p at *
  go_loopw [7] (fun v wr => ∃ j : Nat, j ≤ k ∧ v = .int .i64 (j : Int) ∧ Hid (RJ K n w ac p (markZ (fst K) n f noneB j) wr)) (fun v _ => k - (intOf v).toNat)
  case atStart => exact ⟨0, Nat.zero_le _, rfl, J0⟩
  case round =>
    clear J0
    obtain ⟨j, hj, rfl, hJ⟩ := hrel
    by_cases hlt : j < k
    · have lj : (j : Int) < (k : Int) := by omega
      have sf := Lib.hid (hf.out.after hJ.out.2.2)
      have gf := Lib.hid (sf.out.cell hlt)
      unfold intV at gf
      cases hin : inB n (f j)
      · have em := Lib.hid (markZ_no (g := fst K) (X := noneB) hin)
        by_cases h0 : 0 ≤ f j
        · have h1 : ¬ f j < (n : Int) := by
            unfold inB at hin
            simp at hin
            omega
          have hJ2 : Hid (RJ K n w ac p (markZ (fst K) n f noneB (j + 1)) wr) := by unfold Hid; rw [em.out]; exact hJ.out
          clear hin em hJ
          repeat (first | (with_reducible refine wp_stop (id := 8) ?_) | go_values | go_skip | go_guarded | go_step | go_upon | go_back)
          unfold Hid
          refine wp_region_lit ?_
          refine wpList_val (.slice ak k ck) (by kernel_rfl) (by go_simp) ?_
          simp only [Act.put, List.setIfInBounds_toArray, List.set_cons_succ, List.set_cons_zero]
          refine wpList_val (.int .i64 (j : Int)) (by kernel_rfl) (by go_simp) ?_
          simp only [Act.put, List.setIfInBounds_toArray, List.set_cons_succ, List.set_cons_zero]
          refine wpList_val (.pointer (some (elV ak j))) (by kernel_rfl) (at_intsV sf.out hlt rfl rfl rfl rfl _) ?_
          simp only [Act.put, List.setIfInBounds_toArray, List.set_cons_succ, List.set_cons_zero]
          refine wpList_val (.int .i64 (f j)) (by kernel_rfl) (get_int gf.out rfl rfl) ?_
          simp only [Act.put, List.setIfInBounds_toArray, List.set_cons_succ, List.set_cons_zero]
          refine wpList_val (.bool true) (by kernel_rfl) (by go_simp) ?_
          simp only [Act.put, List.setIfInBounds_toArray, List.set_cons_succ, List.set_cons_zero]
          refine wpList_val (.bool true) (by kernel_rfl) (by go_simp) ?_
          simp only [Act.put, List.setIfInBounds_toArray, List.set_cons_succ, List.set_cons_zero]
          refine wpList_val (.slice ak k ck) (by kernel_rfl) (by go_simp) ?_
          simp only [Act.put, List.setIfInBounds_toArray, List.set_cons_succ, List.set_cons_zero]
          refine wpList_val (.int .i64 (j : Int)) (by kernel_rfl) (by go_simp) ?_
          simp only [Act.put, List.setIfInBounds_toArray, List.set_cons_succ, List.set_cons_zero]
          refine wpList_val (.pointer (some (elV ak j))) (by kernel_rfl) (at_intsV sf.out hlt rfl rfl rfl rfl _) ?_
          simp only [Act.put, List.setIfInBounds_toArray, List.set_cons_succ, List.set_cons_zero]
          refine wpList_val (.int .i64 (f j)) (by kernel_rfl) (get_int gf.out rfl rfl) ?_
          simp only [Act.put, List.setIfInBounds_toArray, List.set_cons_succ, List.set_cons_zero]
          refine wpList_val (.slice a n c) (by kernel_rfl) (by go_simp) ?_
          simp only [Act.put, List.setIfInBounds_toArray, List.set_cons_succ, List.set_cons_zero]
          refine wpList_val (.int .i64 (n : Int)) (by kernel_rfl) (by go_simp) ?_
          simp only [Act.put, List.setIfInBounds_toArray, List.set_cons_succ, List.set_cons_zero]
          refine wpList_val (.bool false) (by kernel_rfl) (by go_simp) ?_
          simp only [Act.put, List.setIfInBounds_toArray, List.set_cons_succ, List.set_cons_zero]
          refine wpList_val (.bool false) (by kernel_rfl) (by go_simp) ?_
          simp only [Act.put, List.setIfInBounds_toArray, List.set_cons_succ, List.set_cons_zero]
          go_wp2
          go_roundw
          case rel => exact ⟨j + 1, by omega, by go_num, hJ2⟩
          case measure => simp [intOf]; omega
        · have hJ2 : Hid (RJ K n w ac p (markZ (fst K) n f noneB (j + 1)) wr) := by unfold Hid; rw [em.out]; exact hJ.out
          clear hin em hJ
          repeat (first | (with_reducible refine wp_stop (id := 8) ?_) | go_values | go_skip | go_guarded | go_step | go_upon | go_back)
          unfold Hid
          refine wp_region_lit ?_
          refine wpList_val (.slice ak k ck) (by kernel_rfl) (by go_simp) ?_
          simp only [Act.put, List.setIfInBounds_toArray, List.set_cons_succ, List.set_cons_zero]
          refine wpList_val (.int .i64 (j : Int)) (by kernel_rfl) (by go_simp) ?_
          simp only [Act.put, List.setIfInBounds_toArray, List.set_cons_succ, List.set_cons_zero]
          refine wpList_val (.pointer (some (elV ak j))) (by kernel_rfl) (at_intsV sf.out hlt rfl rfl rfl rfl _) ?_
          simp only [Act.put, List.setIfInBounds_toArray, List.set_cons_succ, List.set_cons_zero]
          refine wpList_val (.int .i64 (f j)) (by kernel_rfl) (get_int gf.out rfl rfl) ?_
          simp only [Act.put, List.setIfInBounds_toArray, List.set_cons_succ, List.set_cons_zero]
          refine wpList_val (.bool false) (by kernel_rfl) (by go_simp) ?_
          simp only [Act.put, List.setIfInBounds_toArray, List.set_cons_succ, List.set_cons_zero]
          refine wpList_val (.bool false) (by kernel_rfl) (by go_simp) ?_
          simp only [Act.put, List.setIfInBounds_toArray, List.set_cons_succ, List.set_cons_zero]
          with_reducible refine wpList_skip (by kernel_rfl) ?_
          simp only [Act.put, List.setIfInBounds_toArray, List.set_cons_succ, List.set_cons_zero]
          with_reducible refine wpList_skip (by kernel_rfl) ?_
          simp only [Act.put, List.setIfInBounds_toArray, List.set_cons_succ, List.set_cons_zero]
          with_reducible refine wpList_skip (by kernel_rfl) ?_
          simp only [Act.put, List.setIfInBounds_toArray, List.set_cons_succ, List.set_cons_zero]
          with_reducible refine wpList_skip (by kernel_rfl) ?_
          simp only [Act.put, List.setIfInBounds_toArray, List.set_cons_succ, List.set_cons_zero]
          with_reducible refine wpList_skip (by kernel_rfl) ?_
          simp only [Act.put, List.setIfInBounds_toArray, List.set_cons_succ, List.set_cons_zero]
          with_reducible refine wpList_skip (by kernel_rfl) ?_
          simp only [Act.put, List.setIfInBounds_toArray, List.set_cons_succ, List.set_cons_zero]
          with_reducible refine wpList_skip (by kernel_rfl) ?_
          simp only [Act.put, List.setIfInBounds_toArray, List.set_cons_succ, List.set_cons_zero]
          refine wpList_val (.bool false) (by kernel_rfl) (by go_simp) ?_
          simp only [Act.put, List.setIfInBounds_toArray, List.set_cons_succ, List.set_cons_zero]
          go_wp2
          go_roundw
          case rel => exact ⟨j + 1, by omega, by go_num, hJ2⟩
          case measure => simp [intOf]; omega
      · have em := Lib.hid (markZ_yes (g := fst K) (X := noneB) hin)
        obtain ⟨i, hi, efi⟩ := inB_nat hin
        rw [efi, Int.toNat_natCast] at em
        rw [efi] at gf
        have hfi : fst K i < n := by have := fst_le K i; omega
        have gi := Lib.hid (hJ.out.1.cell hi)
        unfold numV at gi
        have sb := Lib.hid hJ.out.2.1.sees
        have si := Lib.hid hJ.out.1
        have li : (i : Int) < (n : Int) := by omega
        have hb := Lib.hid hJ.out.2.1
        clear hin efi
        repeat (first | (with_reducible refine wp_stop (id := 8) ?_) | go_values | go_skip | go_guarded | go_step | go_upon | go_back)
        unfold Hid
        refine wp_region_lit ?_
        refine wpList_val (.slice ak k ck) (by kernel_rfl) (by go_simp) ?_
        simp only [Act.put, List.setIfInBounds_toArray, List.set_cons_succ, List.set_cons_zero]
        refine wpList_val (.int .i64 (j : Int)) (by kernel_rfl) (by go_simp) ?_
        simp only [Act.put, List.setIfInBounds_toArray, List.set_cons_succ, List.set_cons_zero]
        refine wpList_val (.pointer (some (elV ak j))) (by kernel_rfl) (at_intsV sf.out hlt rfl rfl rfl rfl _) ?_
        simp only [Act.put, List.setIfInBounds_toArray, List.set_cons_succ, List.set_cons_zero]
        refine wpList_val (.int .i64 (i : Int)) (by kernel_rfl) (get_int gf.out rfl rfl) ?_
        simp only [Act.put, List.setIfInBounds_toArray, List.set_cons_succ, List.set_cons_zero]
        refine wpList_val (.bool true) (by kernel_rfl) (by go_simp) ?_
        simp only [Act.put, List.setIfInBounds_toArray, List.set_cons_succ, List.set_cons_zero]
        refine wpList_val (.bool true) (by kernel_rfl) (by go_simp) ?_
        simp only [Act.put, List.setIfInBounds_toArray, List.set_cons_succ, List.set_cons_zero]
        refine wpList_val (.slice ak k ck) (by kernel_rfl) (by go_simp) ?_
        simp only [Act.put, List.setIfInBounds_toArray, List.set_cons_succ, List.set_cons_zero]
        refine wpList_val (.int .i64 (j : Int)) (by kernel_rfl) (by go_simp) ?_
        simp only [Act.put, List.setIfInBounds_toArray, List.set_cons_succ, List.set_cons_zero]
        refine wpList_val (.pointer (some (elV ak j))) (by kernel_rfl) (at_intsV sf.out hlt rfl rfl rfl rfl _) ?_
        simp only [Act.put, List.setIfInBounds_toArray, List.set_cons_succ, List.set_cons_zero]
        refine wpList_val (.int .i64 (i : Int)) (by kernel_rfl) (get_int gf.out rfl rfl) ?_
        simp only [Act.put, List.setIfInBounds_toArray, List.set_cons_succ, List.set_cons_zero]
        refine wpList_val (.slice a n c) (by kernel_rfl) (by go_simp) ?_
        simp only [Act.put, List.setIfInBounds_toArray, List.set_cons_succ, List.set_cons_zero]
        refine wpList_val (.int .i64 (n : Int)) (by kernel_rfl) (by go_simp) ?_
        simp only [Act.put, List.setIfInBounds_toArray, List.set_cons_succ, List.set_cons_zero]
        refine wpList_val (.bool true) (by kernel_rfl) (by go_simp) ?_
        simp only [Act.put, List.setIfInBounds_toArray, List.set_cons_succ, List.set_cons_zero]
        refine wpList_val (.bool true) (by kernel_rfl) (by go_simp) ?_
        simp only [Act.put, List.setIfInBounds_toArray, List.set_cons_succ, List.set_cons_zero]
        repeat (first | (with_reducible refine wp_stop (id := 9) ?_) | go_values | go_skip | go_guarded | go_step | go_upon | go_back)
        unfold Hid
        refine wp_region_lit ?_
        refine wpList_val (.slice (some ⟨p, 0, none⟩) n n) (by kernel_rfl) (by go_simp) ?_
        simp only [Act.put, List.setIfInBounds_toArray, List.set_cons_succ, List.set_cons_zero]
        refine wpList_val (.slice ac n cc) (by kernel_rfl) (by go_simp) ?_
        simp only [Act.put, List.setIfInBounds_toArray, List.set_cons_succ, List.set_cons_zero]
        refine wpList_val (.slice ak k ck) (by kernel_rfl) (by go_simp) ?_
        simp only [Act.put, List.setIfInBounds_toArray, List.set_cons_succ, List.set_cons_zero]
        refine wpList_val (.int .i64 (j : Int)) (by kernel_rfl) (by go_simp) ?_
        simp only [Act.put, List.setIfInBounds_toArray, List.set_cons_succ, List.set_cons_zero]
        refine wpList_val (.pointer (some (elV ak j))) (by kernel_rfl) (at_intsV sf.out hlt rfl rfl rfl rfl _) ?_
        simp only [Act.put, List.setIfInBounds_toArray, List.set_cons_succ, List.set_cons_zero]
        refine wpList_val (.int .i64 (i : Int)) (by kernel_rfl) (get_int gf.out rfl rfl) ?_
        simp only [Act.put, List.setIfInBounds_toArray, List.set_cons_succ, List.set_cons_zero]
        refine wpList_val (.pointer (some (elV ac i))) (by kernel_rfl) (at_ints si.out hi rfl rfl rfl rfl _) ?_
        simp only [Act.put, List.setIfInBounds_toArray, List.set_cons_succ, List.set_cons_zero]
        refine wpList_val (.int .i64 ((fst K i : Nat) : Int)) (by kernel_rfl) (get_int gi.out rfl rfl) ?_
        simp only [Act.put, List.setIfInBounds_toArray, List.set_cons_succ, List.set_cons_zero]
        refine wpList_val (.pointer (some (elV (some ⟨p, 0, none⟩) (fst K i)))) (by kernel_rfl) (at_bools sb.out hfi rfl rfl rfl rfl _) ?_
        simp only [Act.put, List.setIfInBounds_toArray, List.set_cons_succ, List.set_cons_zero]
        refine wpList_store_bool rfl _ _ rfl hb.out hfi rfl rfl ?_
        intro w7 hB7 hA7
        have hJ2 : Hid (RJ K n w ac p (markZ (fst K) n f noneB (j + 1)) w7) := by unfold Hid; rw [em.out]; exact hJ.out.store hB7.out hA7.out off.out hpl.out
        clear hB7 hA7 hJ sf gf gi sb si hb em
        go_wp2
        go_roundw
        case rel => exact ⟨j + 1, by omega, by go_num, hJ2⟩
        case measure => simp [intOf]; omega
    · have lj : ¬ (j : Int) < (k : Int) := by omega
      obtain rfl : j = k := by omega
      obtain ⟨hba, hso⟩ := baseR_mark (K := K) (n := n) (f := f) (k := j) (X := markZ (fst K) n f noneB j) (fun d => by
        rw [markZ_iff]
        constructor
        · rintro (h | h)
          · cases h
          · exact h
        · exact fun h => .inr h)
      replace hba := Lib.hid hba
      replace hso := Lib.hid hso
      generalize markZ (fst K) n f noneB j = X0 at *
      generalize inZ f j = S0 at *
      clear hf
      have am : Hid (∀ e, madeB e = true ↔ e = 2 ∨ e = 3) := fun e => by unfold madeB; simp
      go_wp2
      go_loopg [8] (gap X0 n + 1) (fun g v8 wr => ∃ (X : Nat → Bool) (ch : Bool), v8 = .bool ch ∧ (ch = true → gap X n + 1 ≤ g) ∧ Hid (SoundR K n S0 X) ∧ Hid (BaseR K n S0 X) ∧ Hid (ch = false → ∀ e, e < n → SatR K X e) ∧ Hid (RJ K n w ac p X wr))
      case atStart => exact ⟨X0, true, rfl, fun _ => Nat.le_refl _, hso, hba, fun e => (by cases e), hJ⟩
      case round =>
        clear hJ hba hso
        obtain ⟨X, ch, rfl, hg, hso, hba, hsat, hJ⟩ := hrel
        cases ch
        · have hX : Hid (∀ i, i < n → X (fst K i) = knB K n S0 i) := fun i hi => refDone hso.out hba.out (hsat.out rfl) hi
          clear hg hso hba hsat
          obtain ⟨W, hW⟩ : ∃ W, W = wr := ⟨_, rfl⟩
          subst hW
          have hql : Hid (w.heap.size ≤ W.heap.size) := hJ.out.2.2.size
          have al : Below W.heap.size W (W.alloc (.cells #[] 4)) := (Below.refl _ _).alloc (Nat.le_refl _) _
          have o0 : Hid ((W.alloc (.cells #[] 4)).ownsRow W.heap.size 4 1 (.slice (some ⟨W.heap.size, 0, none⟩) 0 0) 0 (cellL 0 (boolV (knB K n S0)))) := World.ownsRow_made W #[] 0 (Nat.le_refl _) (by decide) rfl
          go_wp2
          go_loopg [14, 15] n (fun g2 v14 v15 wy => ∃ i : Nat, i + g2 = n ∧ v15 = .int .i64 (i : Int) ∧ Hid (wy.ownsRow W.heap.size 4 1 v14 i (cellL i (boolV (knB K n S0)))) ∧ Below W.heap.size W wy)
          case atStart => exact ⟨0, by omega, rfl, o0, al⟩
          case round =>
            clear o0 al
            obtain ⟨i, hi, rfl, hown, hb⟩ := hrel
            by_cases hlt : i < n
            · have li : (i : Int) < (n : Int) := by omega
              have hJ2 := Lib.hid (hJ.out.after hb)
              have hfi : fst K i < n := by have := fst_le K i; omega
              have si := Lib.hid hJ2.out.1
              have sb := Lib.hid hJ2.out.2.1.sees
              have gi := Lib.hid (si.out.cell hlt)
              have gb := Lib.hid (sb.out.cell hfi)
              unfold numV at gi
              unfold boolV at gb
              rw [hX.out i hlt] at gb
              repeat (first | (with_reducible refine wp_stop (id := 34) ?_) | go_values | go_skip | go_guarded | go_step | go_upon | go_back)
              unfold Hid
              refine wp_region_lit ?_
              obtain ⟨v14, hv14⟩ : ∃ v, v = u14 := ⟨_, rfl⟩
              subst hv14
              refine wpList_val (v14) (by kernel_rfl) (by go_simp) ?_
              simp only [Act.put, List.setIfInBounds_toArray, List.set_cons_succ, List.set_cons_zero]
              refine wpList_val (.slice (some ⟨p, 0, none⟩) n n) (by kernel_rfl) (by go_simp) ?_
              simp only [Act.put, List.setIfInBounds_toArray, List.set_cons_succ, List.set_cons_zero]
              refine wpList_val (.slice ac n cc) (by kernel_rfl) (by go_simp) ?_
              simp only [Act.put, List.setIfInBounds_toArray, List.set_cons_succ, List.set_cons_zero]
              refine wpList_val (.int .i64 (i : Int)) (by kernel_rfl) (by go_simp) ?_
              simp only [Act.put, List.setIfInBounds_toArray, List.set_cons_succ, List.set_cons_zero]
              refine wpList_val (.pointer (some (elV ac i))) (by kernel_rfl) (at_ints si.out hlt rfl rfl rfl rfl _) ?_
              simp only [Act.put, List.setIfInBounds_toArray, List.set_cons_succ, List.set_cons_zero]
              refine wpList_val (.int .i64 ((fst K i : Nat) : Int)) (by kernel_rfl) (get_int gi.out rfl rfl) ?_
              simp only [Act.put, List.setIfInBounds_toArray, List.set_cons_succ, List.set_cons_zero]
              refine wpList_val (.pointer (some (elV (some ⟨p, 0, none⟩) (fst K i)))) (by kernel_rfl) (at_bools sb.out hfi rfl rfl rfl rfl _) ?_
              simp only [Act.put, List.setIfInBounds_toArray, List.set_cons_succ, List.set_cons_zero]
              refine wpList_val (.bool (knB K n S0 i)) (by kernel_rfl) (get_bool gb.out rfl rfl) ?_
              simp only [Act.put, List.setIfInBounds_toArray, List.set_cons_succ, List.set_cons_zero]
              clear hJ2 si sb gi gb
              go_wp2_with (at_builtin; refine wpList_append_bool rfl _ _ rfl W.heap.size _ i (knB K n S0) _ rfl rfl wr hown.out rfl rfl rfl (by omega) hb.size ?_; intro v9 w9 own9 g9 b9)
              have b10 := hb.trans b9.out
              go_roundg (n - (i + 1))
              case measure => omega
              case rel => exact ⟨i + 1, by omega, by go_num, own9, b10⟩
            · have li : ¬ (i : Int) < (n : Int) := by omega
              have ein : i = n := by omega
              have own9 := Lib.hid (own_from hown.out hql.out)
              have b10 := hJ.out.2.2.trans (hb.mono hql.out)
              rw [ein] at own9
              clear hown hb
              go_wp2
              go_ret
              exact ⟨_, rfl, by rw [ec.out]; exact own9, b10⟩
        · have hg' := hg rfl
          clear hg hsat
          go_wp2
          go_loopg [8, 9] n (fun g2 v8 v9 wy => ∃ (X' : Nat → Bool) (ch : Bool) (i : Nat), i + g2 = n ∧ v9 = .int .i64 (i : Int) ∧ v8 = .bool ch ∧ Hid (RI K n S0 (gap X n) (fun Y => ∀ e, e < i → SatR K Y e) X' ch) ∧ Hid (RJ K n w ac p X' wy))
          case atStart => exact ⟨X, false, 0, by omega, rfl, rfl, ⟨hso.out, hba.out, Nat.le_refl _, fun e => (by cases e), fun _ e he => absurd he (Nat.not_lt_zero _)⟩, hJ⟩
          case round =>
            clear hJ hso hba
            obtain ⟨X', ch, i, hi, rfl, rfl, hR, hJ⟩ := hrel
            by_cases hlt : i < n
            · have li : (i : Int) < (n : Int) := by omega
              have s1 := Lib.hid (hs.out.after hJ.out.2.2)
              rcases hK.out.kinds hlt with ⟨h0, ⟨x, hx, e1⟩, e2⟩ | ⟨h0, x, y, hx, hy, e1, e2⟩
              · have l2 : K i 0 < 2 := by omega
                clear h0
                have hJ2 := Lib.hid (hJ.out.after ((Below.refl _ _).alloc (Nat.le_refl _) (.cells #[.int .i64 (K i 0), .int .i64 (x : Int), .int .i64 0] 50)))
                have hR2 : Hid (RI K n S0 (gap X n) (fun Y => ∀ e, e < i + 1 → SatR K Y e) X' ch) := hR.out.skip fun h e he => by
                    by_cases e3 : e = i
                    · rw [e3]; exact sat_leaf l2
                    · exact h e (by omega)
                clear hR hJ
                go_wp2_with (first | (refine wpList_known rfl (at_refNodes s1.out hlt rfl rfl rfl rfl _) ?_) | (refine wpList_known rfl (get_refNodeE s1.out hlt rfl e1 e2 rfl rfl) ?_))
                go_roundg (n - (i + 1))
                case measure => omega
                case rel => exact ⟨X', ch, i + 1, by omega, by go_num, rfl, hR2, hJ2⟩
              · obtain ⟨z, hz⟩ : ∃ z, K i 0 = z := ⟨_, rfl⟩
                have hz23 : z = 2 ∨ z = 3 := by omega
                have e0 := Lib.hid hz
                have l2 : ¬ z < 2 := by omega
                have hfx : fst K x < n := by have := fst_le K x; omega
                have hfy : fst K y < n := by have := fst_le K y; omega
                have hfi : fst K i < n := by have := fst_le K i; omega
                have hxn : x < n := by omega
                have hyn : y < n := by omega
                have al : Below wr.heap.size wr (wr.alloc (.cells #[.int .i64 z, .int .i64 (x : Int), .int .i64 (y : Int)] 50)) := (Below.refl _ _).alloc (Nat.le_refl _) _
                have hJ5 := Lib.hid (hJ.out.after al)
                have hx5 := Lib.hid (RowAt.new wr 50 #[.int .i64 z, .int .i64 (x : Int), .int .i64 (y : Int)])
                have hpx : Hid (wr.heap.size ≠ p) := fun e => by have := hJ.out.2.1.lt; omega
                have si := Lib.hid hJ5.out.1
                have gix := Lib.hid (si.out.cell hxn)
                have giy := Lib.hid (si.out.cell hyn)
                have gii := Lib.hid (si.out.cell hlt)
                unfold numV at gix giy gii
                clear al hJ h0
                repeat (first | (with_reducible refine wp_stop (id := 21) ?_) | (refine wpList_known rfl (at_refNodes s1.out hlt rfl rfl rfl rfl _) ?_) | (refine wpList_known rfl (get_refNodeE s1.out hlt hz e1 e2 rfl rfl) ?_) | (refine wpList_known rfl (at_ints si.out hxn rfl rfl rfl rfl _) ?_) | (refine wpList_known rfl (get_int gix.out rfl rfl) ?_) | (refine wpList_known rfl (at_ints si.out hyn rfl rfl rfl rfl _) ?_) | (refine wpList_known rfl (get_int giy.out rfl rfl) ?_) | (refine wpList_known rfl (at_ints si.out hlt rfl rfl rfl rfl _) ?_) | (refine wpList_known rfl (get_int gii.out rfl rfl) ?_) | go_values | go_skip | go_guarded | go_step | go_upon | go_back)
                unfold Hid
                generalize wr.alloc _ = w5 at *
                generalize wr.heap.size = px at *
                clear si gix giy gii s1
                replace e1 := Lib.hid e1
                replace e2 := Lib.hid e2
                replace hz23 := Lib.hid hz23
                clear hz
                obtain ⟨t1, ht1⟩ : ∃ t, (X' (fst K x) && X' (fst K y) && !X' (fst K i)) = t := ⟨_, rfl⟩
                replace ht1 := Lib.hid ht1
                go_cut [97] from 54 to 144 (fun v wc => v = .bool t1 ∧ wc = w5)
                case first =>
                  have ht := ht1.out
                  have sb := Lib.hid hJ5.out.2.1.sees
                  have ga := Lib.hid (sb.out.cell hfx)
                  have gb := Lib.hid (sb.out.cell hfy)
                  have gm := Lib.hid (sb.out.cell hfi)
                  unfold boolV at ga gb gm
                  cases qa : X' (fst K x)
                  · rw [qa] at ht ga
                    have ht : t1 = false := by rw [← ht]; rfl
                    subst ht
                    refine wp_region_lit ?_
                    refine wpList_val (.slice (some ⟨p, 0, none⟩) n n) (by kernel_rfl) (by go_simp) ?_
                    simp only [Act.put, List.setIfInBounds_toArray, List.set_cons_succ, List.set_cons_zero]
                    refine wpList_val (.int .i64 ((fst K x : Nat) : Int)) (by kernel_rfl) (by go_simp) ?_
                    simp only [Act.put, List.setIfInBounds_toArray, List.set_cons_succ, List.set_cons_zero]
                    refine wpList_val (.pointer (some (elV (some ⟨p, 0, none⟩) (fst K x)))) (by kernel_rfl) (at_bools sb.out hfx rfl rfl rfl rfl _) ?_
                    simp only [Act.put, List.setIfInBounds_toArray, List.set_cons_succ, List.set_cons_zero]
                    refine wpList_val (.bool false) (by kernel_rfl) (get_bool ga.out rfl rfl) ?_
                    simp only [Act.put, List.setIfInBounds_toArray, List.set_cons_succ, List.set_cons_zero]
                    refine wpList_val (.bool false) (by kernel_rfl) (by go_simp) ?_
                    simp only [Act.put, List.setIfInBounds_toArray, List.set_cons_succ, List.set_cons_zero]
                    with_reducible refine wpList_skip (by kernel_rfl) ?_
                    simp only [Act.put, List.setIfInBounds_toArray, List.set_cons_succ, List.set_cons_zero]
                    with_reducible refine wpList_skip (by kernel_rfl) ?_
                    simp only [Act.put, List.setIfInBounds_toArray, List.set_cons_succ, List.set_cons_zero]
                    with_reducible refine wpList_skip (by kernel_rfl) ?_
                    simp only [Act.put, List.setIfInBounds_toArray, List.set_cons_succ, List.set_cons_zero]
                    with_reducible refine wpList_skip (by kernel_rfl) ?_
                    simp only [Act.put, List.setIfInBounds_toArray, List.set_cons_succ, List.set_cons_zero]
                    refine wpList_val (.bool false) (by kernel_rfl) (by go_simp) ?_
                    simp only [Act.put, List.setIfInBounds_toArray, List.set_cons_succ, List.set_cons_zero]
                    refine wpList_val (.bool false) (by kernel_rfl) (by go_simp) ?_
                    simp only [Act.put, List.setIfInBounds_toArray, List.set_cons_succ, List.set_cons_zero]
                    with_reducible refine wpList_skip (by kernel_rfl) ?_
                    simp only [Act.put, List.setIfInBounds_toArray, List.set_cons_succ, List.set_cons_zero]
                    with_reducible refine wpList_skip (by kernel_rfl) ?_
                    simp only [Act.put, List.setIfInBounds_toArray, List.set_cons_succ, List.set_cons_zero]
                    with_reducible refine wpList_skip (by kernel_rfl) ?_
                    simp only [Act.put, List.setIfInBounds_toArray, List.set_cons_succ, List.set_cons_zero]
                    with_reducible refine wpList_skip (by kernel_rfl) ?_
                    simp only [Act.put, List.setIfInBounds_toArray, List.set_cons_succ, List.set_cons_zero]
                    with_reducible refine wpList_skip (by kernel_rfl) ?_
                    simp only [Act.put, List.setIfInBounds_toArray, List.set_cons_succ, List.set_cons_zero]
                    refine wpList_val (.bool false) (by kernel_rfl) (by go_simp) ?_
                    simp only [Act.put, List.setIfInBounds_toArray, List.set_cons_succ, List.set_cons_zero]
                    go_wp2_with fail
                    go_meet
                    exact ⟨rfl, rfl⟩
                  · cases qb : X' (fst K y)
                    · rw [qa, qb] at ht
                      rw [qa] at ga
                      rw [qb] at gb
                      have ht : t1 = false := by rw [← ht]; rfl
                      subst ht
                      refine wp_region_lit ?_
                      refine wpList_val (.slice (some ⟨p, 0, none⟩) n n) (by kernel_rfl) (by go_simp) ?_
                      simp only [Act.put, List.setIfInBounds_toArray, List.set_cons_succ, List.set_cons_zero]
                      refine wpList_val (.int .i64 ((fst K x : Nat) : Int)) (by kernel_rfl) (by go_simp) ?_
                      simp only [Act.put, List.setIfInBounds_toArray, List.set_cons_succ, List.set_cons_zero]
                      refine wpList_val (.pointer (some (elV (some ⟨p, 0, none⟩) (fst K x)))) (by kernel_rfl) (at_bools sb.out hfx rfl rfl rfl rfl _) ?_
                      simp only [Act.put, List.setIfInBounds_toArray, List.set_cons_succ, List.set_cons_zero]
                      refine wpList_val (.bool true) (by kernel_rfl) (get_bool ga.out rfl rfl) ?_
                      simp only [Act.put, List.setIfInBounds_toArray, List.set_cons_succ, List.set_cons_zero]
                      refine wpList_val (.bool true) (by kernel_rfl) (by go_simp) ?_
                      simp only [Act.put, List.setIfInBounds_toArray, List.set_cons_succ, List.set_cons_zero]
                      refine wpList_val (.slice (some ⟨p, 0, none⟩) n n) (by kernel_rfl) (by go_simp) ?_
                      simp only [Act.put, List.setIfInBounds_toArray, List.set_cons_succ, List.set_cons_zero]
                      refine wpList_val (.int .i64 ((fst K y : Nat) : Int)) (by kernel_rfl) (by go_simp) ?_
                      simp only [Act.put, List.setIfInBounds_toArray, List.set_cons_succ, List.set_cons_zero]
                      refine wpList_val (.pointer (some (elV (some ⟨p, 0, none⟩) (fst K y)))) (by kernel_rfl) (at_bools sb.out hfy rfl rfl rfl rfl _) ?_
                      simp only [Act.put, List.setIfInBounds_toArray, List.set_cons_succ, List.set_cons_zero]
                      refine wpList_val (.bool false) (by kernel_rfl) (get_bool gb.out rfl rfl) ?_
                      simp only [Act.put, List.setIfInBounds_toArray, List.set_cons_succ, List.set_cons_zero]
                      refine wpList_val (.bool false) (by kernel_rfl) (by go_simp) ?_
                      simp only [Act.put, List.setIfInBounds_toArray, List.set_cons_succ, List.set_cons_zero]
                      refine wpList_val (.bool false) (by kernel_rfl) (by go_simp) ?_
                      simp only [Act.put, List.setIfInBounds_toArray, List.set_cons_succ, List.set_cons_zero]
                      with_reducible refine wpList_skip (by kernel_rfl) ?_
                      simp only [Act.put, List.setIfInBounds_toArray, List.set_cons_succ, List.set_cons_zero]
                      with_reducible refine wpList_skip (by kernel_rfl) ?_
                      simp only [Act.put, List.setIfInBounds_toArray, List.set_cons_succ, List.set_cons_zero]
                      with_reducible refine wpList_skip (by kernel_rfl) ?_
                      simp only [Act.put, List.setIfInBounds_toArray, List.set_cons_succ, List.set_cons_zero]
                      with_reducible refine wpList_skip (by kernel_rfl) ?_
                      simp only [Act.put, List.setIfInBounds_toArray, List.set_cons_succ, List.set_cons_zero]
                      with_reducible refine wpList_skip (by kernel_rfl) ?_
                      simp only [Act.put, List.setIfInBounds_toArray, List.set_cons_succ, List.set_cons_zero]
                      refine wpList_val (.bool false) (by kernel_rfl) (by go_simp) ?_
                      simp only [Act.put, List.setIfInBounds_toArray, List.set_cons_succ, List.set_cons_zero]
                      go_wp2_with fail
                      go_meet
                      exact ⟨rfl, rfl⟩
                    · rw [qa, qb, Bool.true_and, Bool.true_and] at ht
                      rw [qa] at ga
                      rw [qb] at gb
                      have ht : X' (fst K i) = !t1 := by rw [← ht, Bool.not_not]
                      rw [ht] at gm
                      refine wp_region_lit ?_
                      refine wpList_val (.slice (some ⟨p, 0, none⟩) n n) (by kernel_rfl) (by go_simp) ?_
                      simp only [Act.put, List.setIfInBounds_toArray, List.set_cons_succ, List.set_cons_zero]
                      refine wpList_val (.int .i64 ((fst K x : Nat) : Int)) (by kernel_rfl) (by go_simp) ?_
                      simp only [Act.put, List.setIfInBounds_toArray, List.set_cons_succ, List.set_cons_zero]
                      refine wpList_val (.pointer (some (elV (some ⟨p, 0, none⟩) (fst K x)))) (by kernel_rfl) (at_bools sb.out hfx rfl rfl rfl rfl _) ?_
                      simp only [Act.put, List.setIfInBounds_toArray, List.set_cons_succ, List.set_cons_zero]
                      refine wpList_val (.bool true) (by kernel_rfl) (get_bool ga.out rfl rfl) ?_
                      simp only [Act.put, List.setIfInBounds_toArray, List.set_cons_succ, List.set_cons_zero]
                      refine wpList_val (.bool true) (by kernel_rfl) (by go_simp) ?_
                      simp only [Act.put, List.setIfInBounds_toArray, List.set_cons_succ, List.set_cons_zero]
                      refine wpList_val (.slice (some ⟨p, 0, none⟩) n n) (by kernel_rfl) (by go_simp) ?_
                      simp only [Act.put, List.setIfInBounds_toArray, List.set_cons_succ, List.set_cons_zero]
                      refine wpList_val (.int .i64 ((fst K y : Nat) : Int)) (by kernel_rfl) (by go_simp) ?_
                      simp only [Act.put, List.setIfInBounds_toArray, List.set_cons_succ, List.set_cons_zero]
                      refine wpList_val (.pointer (some (elV (some ⟨p, 0, none⟩) (fst K y)))) (by kernel_rfl) (at_bools sb.out hfy rfl rfl rfl rfl _) ?_
                      simp only [Act.put, List.setIfInBounds_toArray, List.set_cons_succ, List.set_cons_zero]
                      refine wpList_val (.bool true) (by kernel_rfl) (get_bool gb.out rfl rfl) ?_
                      simp only [Act.put, List.setIfInBounds_toArray, List.set_cons_succ, List.set_cons_zero]
                      refine wpList_val (.bool true) (by kernel_rfl) (by go_simp) ?_
                      simp only [Act.put, List.setIfInBounds_toArray, List.set_cons_succ, List.set_cons_zero]
                      refine wpList_val (.bool true) (by kernel_rfl) (by go_simp) ?_
                      simp only [Act.put, List.setIfInBounds_toArray, List.set_cons_succ, List.set_cons_zero]
                      refine wpList_val (.slice (some ⟨p, 0, none⟩) n n) (by kernel_rfl) (by go_simp) ?_
                      simp only [Act.put, List.setIfInBounds_toArray, List.set_cons_succ, List.set_cons_zero]
                      refine wpList_val (.int .i64 ((fst K i : Nat) : Int)) (by kernel_rfl) (by go_simp) ?_
                      simp only [Act.put, List.setIfInBounds_toArray, List.set_cons_succ, List.set_cons_zero]
                      refine wpList_val (.pointer (some (elV (some ⟨p, 0, none⟩) (fst K i)))) (by kernel_rfl) (at_bools sb.out hfi rfl rfl rfl rfl _) ?_
                      simp only [Act.put, List.setIfInBounds_toArray, List.set_cons_succ, List.set_cons_zero]
                      refine wpList_val (.bool (!t1)) (by kernel_rfl) (get_bool gm.out rfl rfl) ?_
                      simp only [Act.put, List.setIfInBounds_toArray, List.set_cons_succ, List.set_cons_zero]
                      refine wpList_val (.bool t1) (by kernel_rfl) (by go_simp) ?_
                      simp only [Act.put, List.setIfInBounds_toArray, List.set_cons_succ, List.set_cons_zero]
                      refine wpList_val (.bool t1) (by kernel_rfl) (by go_simp) ?_
                      simp only [Act.put, List.setIfInBounds_toArray, List.set_cons_succ, List.set_cons_zero]
                      go_wp2_with fail
                      go_meet
                      exact ⟨rfl, rfl⟩
                case rest =>
                  obtain ⟨rfl, rfl⟩ := hcut
                  go_upto_if 97 with fail
                  go_cut [8] from 54 to 144 (fun v8 wc => ∃ (Y : Nat → Bool) (ch : Bool), v8 = .bool ch ∧ Hid (RI K n S0 (gap X n) (fun Y => (∀ e, e < i → SatR K Y e) ∧ (Y (fst K x) && Y (fst K y) && !Y (fst K i)) = false) Y ch) ∧ Hid (RJ K n w ac p Y wc) ∧ Hid (RowAt wc px 50 #[.int .i64 z, .int .i64 (x : Int), .int .i64 (y : Int)]))
                  case first =>
                    cases t1
                    · have hR9 : Hid (RI K n S0 (gap X n) (fun Y => (∀ e, e < i → SatR K Y e) ∧ (Y (fst K x) && Y (fst K y) && !Y (fst K i)) = false) X' ch) := hR.out.skip fun h => ⟨h, ht1.out⟩
                      go_wp2
                      go_meet
                      exact ⟨X', ch, rfl, hR9, hJ5, hx5⟩
                    · have ht := ht1.out
                      simp only [Bool.and_eq_true, Bool.not_eq_true'] at ht
                      obtain ⟨⟨qa, qb⟩, qm⟩ := ht
                      replace qa := Lib.hid qa
                      replace qb := Lib.hid qb
                      replace qm := Lib.hid qm
                      have sb := Lib.hid hJ5.out.2.1.sees
                      have hb := Lib.hid hJ5.out.2.1
                      have hR9 : Hid (RI K n S0 (gap X n) (fun Y => (∀ e, e < i → SatR K Y e) ∧ (Y (fst K x) && Y (fst K y) && !Y (fst K i)) = false) (setT X' (fst K i)) true) := hR.out.set hfi qm.out (ref_make hR.out hlt hx hy (by rw [e0.out]; exact hz23.out) e1.out e2.out qa.out qb.out)
                      go_wp2_with (first | (refine wpList_known rfl (at_bools sb.out hfi rfl rfl rfl rfl _) ?_) | (refine wpList_store_bool rfl _ _ rfl hb.out hfi rfl rfl ?_; intro w9 hB9 hA9; refine Hid.out ?_))
                      unfold Hid
                      have hJ9 := Lib.hid (hJ5.out.store hB9.out hA9.out off.out hpl.out)
                      have hx9 := Lib.hid (hA9.out.row hx5.out hpx.out)
                      clear hB9 hA9 sb hb
                      go_wp2
                      go_meet
                      exact ⟨_, true, rfl, hR9, hJ9, hx9⟩
                  case rest =>
                    clear hR hJ5 hx5 ht1
                    obtain ⟨X1, ch1, rfl, hR1, hJ1, hx5⟩ := hcut
                    obtain ⟨t2, ht2⟩ : ∃ t, (X1 (fst K i) && (z == 2) && !X1 (fst K x)) = t := ⟨_, rfl⟩
                    replace ht2 := Lib.hid ht2
                    obtain ⟨W2, hW2⟩ : ∃ W, W = wc := ⟨_, rfl⟩
                    subst hW2
                    go_upto_region 24 with fail
                    go_cut [116] from 54 to 144 (fun v wc => v = .bool t2 ∧ wc = W2)
                    case first =>
                      have ht := ht2.out
                      have sb := Lib.hid hJ1.out.2.1.sees
                      have ga := Lib.hid (sb.out.cell hfx)
                      have gb := Lib.hid (sb.out.cell hfy)
                      have gm := Lib.hid (sb.out.cell hfi)
                      unfold boolV at ga gb gm
                      cases qm : X1 (fst K i)
                      · rw [qm] at ht gm
                        have ht : t2 = false := by rw [← ht]; rfl
                        subst ht
                        refine wp_region_lit ?_
                        refine wpList_val (.slice (some ⟨p, 0, none⟩) n n) (by kernel_rfl) (by go_simp) ?_
                        simp only [Act.put, List.setIfInBounds_toArray, List.set_cons_succ, List.set_cons_zero]
                        refine wpList_val (.int .i64 ((fst K i : Nat) : Int)) (by kernel_rfl) (by go_simp) ?_
                        simp only [Act.put, List.setIfInBounds_toArray, List.set_cons_succ, List.set_cons_zero]
                        refine wpList_val (.pointer (some (elV (some ⟨p, 0, none⟩) (fst K i)))) (by kernel_rfl) (at_bools sb.out hfi rfl rfl rfl rfl _) ?_
                        simp only [Act.put, List.setIfInBounds_toArray, List.set_cons_succ, List.set_cons_zero]
                        refine wpList_val (.bool false) (by kernel_rfl) (get_bool gm.out rfl rfl) ?_
                        simp only [Act.put, List.setIfInBounds_toArray, List.set_cons_succ, List.set_cons_zero]
                        refine wpList_val (.bool false) (by kernel_rfl) (by go_simp) ?_
                        simp only [Act.put, List.setIfInBounds_toArray, List.set_cons_succ, List.set_cons_zero]
                        with_reducible refine wpList_skip (by kernel_rfl) ?_
                        simp only [Act.put, List.setIfInBounds_toArray, List.set_cons_succ, List.set_cons_zero]
                        with_reducible refine wpList_skip (by kernel_rfl) ?_
                        simp only [Act.put, List.setIfInBounds_toArray, List.set_cons_succ, List.set_cons_zero]
                        with_reducible refine wpList_skip (by kernel_rfl) ?_
                        simp only [Act.put, List.setIfInBounds_toArray, List.set_cons_succ, List.set_cons_zero]
                        refine wpList_val (.bool false) (by kernel_rfl) (by go_simp) ?_
                        simp only [Act.put, List.setIfInBounds_toArray, List.set_cons_succ, List.set_cons_zero]
                        refine wpList_val (.bool false) (by kernel_rfl) (by go_simp) ?_
                        simp only [Act.put, List.setIfInBounds_toArray, List.set_cons_succ, List.set_cons_zero]
                        with_reducible refine wpList_skip (by kernel_rfl) ?_
                        simp only [Act.put, List.setIfInBounds_toArray, List.set_cons_succ, List.set_cons_zero]
                        with_reducible refine wpList_skip (by kernel_rfl) ?_
                        simp only [Act.put, List.setIfInBounds_toArray, List.set_cons_succ, List.set_cons_zero]
                        with_reducible refine wpList_skip (by kernel_rfl) ?_
                        simp only [Act.put, List.setIfInBounds_toArray, List.set_cons_succ, List.set_cons_zero]
                        with_reducible refine wpList_skip (by kernel_rfl) ?_
                        simp only [Act.put, List.setIfInBounds_toArray, List.set_cons_succ, List.set_cons_zero]
                        with_reducible refine wpList_skip (by kernel_rfl) ?_
                        simp only [Act.put, List.setIfInBounds_toArray, List.set_cons_succ, List.set_cons_zero]
                        refine wpList_val (.bool false) (by kernel_rfl) (by go_simp) ?_
                        simp only [Act.put, List.setIfInBounds_toArray, List.set_cons_succ, List.set_cons_zero]
                        go_wp2_with fail
                        go_meet
                        exact ⟨rfl, rfl⟩
                      · rcases hz23.out with rfl | rfl
                        · have ht : X1 (fst K x) = !t2 := by rw [← ht, qm]; simp
                          rw [qm] at gm
                          rw [ht] at ga
                          refine wp_region_lit ?_
                          refine wpList_val (.slice (some ⟨p, 0, none⟩) n n) (by kernel_rfl) (by go_simp) ?_
                          simp only [Act.put, List.setIfInBounds_toArray, List.set_cons_succ, List.set_cons_zero]
                          refine wpList_val (.int .i64 ((fst K i : Nat) : Int)) (by kernel_rfl) (by go_simp) ?_
                          simp only [Act.put, List.setIfInBounds_toArray, List.set_cons_succ, List.set_cons_zero]
                          refine wpList_val (.pointer (some (elV (some ⟨p, 0, none⟩) (fst K i)))) (by kernel_rfl) (at_bools sb.out hfi rfl rfl rfl rfl _) ?_
                          simp only [Act.put, List.setIfInBounds_toArray, List.set_cons_succ, List.set_cons_zero]
                          refine wpList_val (.bool true) (by kernel_rfl) (get_bool gm.out rfl rfl) ?_
                          simp only [Act.put, List.setIfInBounds_toArray, List.set_cons_succ, List.set_cons_zero]
                          refine wpList_val (.bool true) (by kernel_rfl) (by go_simp) ?_
                          simp only [Act.put, List.setIfInBounds_toArray, List.set_cons_succ, List.set_cons_zero]
                          refine wpList_val (.pointer (some ⟨px, 0, none⟩)) (by kernel_rfl) (by (go_simp; try omega)) ?_
                          simp only [Act.put, List.setIfInBounds_toArray, List.set_cons_succ, List.set_cons_zero]
                          refine wpList_val (.int .i64 2) (by kernel_rfl) (get_cell hx5.out rfl rfl Try.underlying3 rfl rfl) ?_
                          simp only [Act.put, List.setIfInBounds_toArray, List.set_cons_succ, List.set_cons_zero]
                          refine wpList_val (.bool true) (by kernel_rfl) (by go_simp) ?_
                          simp only [Act.put, List.setIfInBounds_toArray, List.set_cons_succ, List.set_cons_zero]
                          refine wpList_val (.bool true) (by kernel_rfl) (by go_simp) ?_
                          simp only [Act.put, List.setIfInBounds_toArray, List.set_cons_succ, List.set_cons_zero]
                          refine wpList_val (.bool true) (by kernel_rfl) (by go_simp) ?_
                          simp only [Act.put, List.setIfInBounds_toArray, List.set_cons_succ, List.set_cons_zero]
                          refine wpList_val (.slice (some ⟨p, 0, none⟩) n n) (by kernel_rfl) (by go_simp) ?_
                          simp only [Act.put, List.setIfInBounds_toArray, List.set_cons_succ, List.set_cons_zero]
                          refine wpList_val (.int .i64 ((fst K x : Nat) : Int)) (by kernel_rfl) (by go_simp) ?_
                          simp only [Act.put, List.setIfInBounds_toArray, List.set_cons_succ, List.set_cons_zero]
                          refine wpList_val (.pointer (some (elV (some ⟨p, 0, none⟩) (fst K x)))) (by kernel_rfl) (at_bools sb.out hfx rfl rfl rfl rfl _) ?_
                          simp only [Act.put, List.setIfInBounds_toArray, List.set_cons_succ, List.set_cons_zero]
                          refine wpList_val (.bool (!t2)) (by kernel_rfl) (get_bool ga.out rfl rfl) ?_
                          simp only [Act.put, List.setIfInBounds_toArray, List.set_cons_succ, List.set_cons_zero]
                          refine wpList_val (.bool t2) (by kernel_rfl) (by go_simp) ?_
                          simp only [Act.put, List.setIfInBounds_toArray, List.set_cons_succ, List.set_cons_zero]
                          refine wpList_val (.bool t2) (by kernel_rfl) (by go_simp) ?_
                          simp only [Act.put, List.setIfInBounds_toArray, List.set_cons_succ, List.set_cons_zero]
                          go_wp2_with fail
                          go_meet
                          exact ⟨rfl, rfl⟩
                        · have ht : t2 = false := by rw [← ht, qm]; rfl
                          subst ht
                          rw [qm] at gm
                          refine wp_region_lit ?_
                          refine wpList_val (.slice (some ⟨p, 0, none⟩) n n) (by kernel_rfl) (by go_simp) ?_
                          simp only [Act.put, List.setIfInBounds_toArray, List.set_cons_succ, List.set_cons_zero]
                          refine wpList_val (.int .i64 ((fst K i : Nat) : Int)) (by kernel_rfl) (by go_simp) ?_
                          simp only [Act.put, List.setIfInBounds_toArray, List.set_cons_succ, List.set_cons_zero]
                          refine wpList_val (.pointer (some (elV (some ⟨p, 0, none⟩) (fst K i)))) (by kernel_rfl) (at_bools sb.out hfi rfl rfl rfl rfl _) ?_
                          simp only [Act.put, List.setIfInBounds_toArray, List.set_cons_succ, List.set_cons_zero]
                          refine wpList_val (.bool true) (by kernel_rfl) (get_bool gm.out rfl rfl) ?_
                          simp only [Act.put, List.setIfInBounds_toArray, List.set_cons_succ, List.set_cons_zero]
                          refine wpList_val (.bool true) (by kernel_rfl) (by go_simp) ?_
                          simp only [Act.put, List.setIfInBounds_toArray, List.set_cons_succ, List.set_cons_zero]
                          refine wpList_val (.pointer (some ⟨px, 0, none⟩)) (by kernel_rfl) (by (go_simp; try omega)) ?_
                          simp only [Act.put, List.setIfInBounds_toArray, List.set_cons_succ, List.set_cons_zero]
                          refine wpList_val (.int .i64 3) (by kernel_rfl) (get_cell hx5.out rfl rfl Try.underlying3 rfl rfl) ?_
                          simp only [Act.put, List.setIfInBounds_toArray, List.set_cons_succ, List.set_cons_zero]
                          refine wpList_val (.bool false) (by kernel_rfl) (by go_simp) ?_
                          simp only [Act.put, List.setIfInBounds_toArray, List.set_cons_succ, List.set_cons_zero]
                          refine wpList_val (.bool false) (by kernel_rfl) (by go_simp) ?_
                          simp only [Act.put, List.setIfInBounds_toArray, List.set_cons_succ, List.set_cons_zero]
                          refine wpList_val (.bool false) (by kernel_rfl) (by go_simp) ?_
                          simp only [Act.put, List.setIfInBounds_toArray, List.set_cons_succ, List.set_cons_zero]
                          with_reducible refine wpList_skip (by kernel_rfl) ?_
                          simp only [Act.put, List.setIfInBounds_toArray, List.set_cons_succ, List.set_cons_zero]
                          with_reducible refine wpList_skip (by kernel_rfl) ?_
                          simp only [Act.put, List.setIfInBounds_toArray, List.set_cons_succ, List.set_cons_zero]
                          with_reducible refine wpList_skip (by kernel_rfl) ?_
                          simp only [Act.put, List.setIfInBounds_toArray, List.set_cons_succ, List.set_cons_zero]
                          with_reducible refine wpList_skip (by kernel_rfl) ?_
                          simp only [Act.put, List.setIfInBounds_toArray, List.set_cons_succ, List.set_cons_zero]
                          with_reducible refine wpList_skip (by kernel_rfl) ?_
                          simp only [Act.put, List.setIfInBounds_toArray, List.set_cons_succ, List.set_cons_zero]
                          refine wpList_val (.bool false) (by kernel_rfl) (by go_simp) ?_
                          simp only [Act.put, List.setIfInBounds_toArray, List.set_cons_succ, List.set_cons_zero]
                          go_wp2_with fail
                          go_meet
                          exact ⟨rfl, rfl⟩
                    case rest =>
                      obtain ⟨rfl, rfl⟩ := hcut
                      go_upto_if 116 with fail
                      go_cut [8] from 54 to 144 (fun v8 wc => ∃ (Y : Nat → Bool) (ch : Bool), v8 = .bool ch ∧ Hid (RI K n S0 (gap X n) (fun Y => (∀ e, e < i → SatR K Y e) ∧ (Y (fst K x) && Y (fst K y) && !Y (fst K i)) = false ∧ (Y (fst K i) && (z == 2) && !Y (fst K x)) = false) Y ch) ∧ Hid (RJ K n w ac p Y wc) ∧ Hid (RowAt wc px 50 #[.int .i64 z, .int .i64 (x : Int), .int .i64 (y : Int)]))
                      case first =>
                        cases t2
                        · have hR9 : Hid (RI K n S0 (gap X n) (fun Y => (∀ e, e < i → SatR K Y e) ∧ (Y (fst K x) && Y (fst K y) && !Y (fst K i)) = false ∧ (Y (fst K i) && (z == 2) && !Y (fst K x)) = false) X1 ch1) := hR1.out.skip fun h => ⟨h.1, h.2, ht2.out⟩
                          go_wp2
                          go_meet
                          exact ⟨X1, ch1, rfl, hR9, hJ1, hx5⟩
                        · have ht := ht2.out
                          simp only [Bool.and_eq_true, Bool.not_eq_true', beq_iff_eq] at ht
                          obtain ⟨⟨qm, qz⟩, qa⟩ := ht
                          replace qa := Lib.hid qa
                          replace qz : Hid (K i 0 = 2) := e0.out.trans qz
                          replace qm := Lib.hid qm
                          have sb := Lib.hid hJ1.out.2.1.sees
                          have hb := Lib.hid hJ1.out.2.1
                          have hR9 : Hid (RI K n S0 (gap X n) (fun Y => (∀ e, e < i → SatR K Y e) ∧ (Y (fst K x) && Y (fst K y) && !Y (fst K i)) = false ∧ (Y (fst K i) && (z == 2) && !Y (fst K x)) = false) (setT X1 (fst K x)) true) := hR1.out.set hfx qa.out (ref_left hR1.out hlt hx qz.out e1.out qm.out)
                          go_wp2_with (first | (refine wpList_known rfl (at_bools sb.out hfx rfl rfl rfl rfl _) ?_) | (refine wpList_store_bool rfl _ _ rfl hb.out hfx rfl rfl ?_; intro w9 hB9 hA9; refine Hid.out ?_))
                          unfold Hid
                          have hJ9 := Lib.hid (hJ1.out.store hB9.out hA9.out off.out hpl.out)
                          have hx9 := Lib.hid (hA9.out.row hx5.out hpx.out)
                          clear hB9 hA9 sb hb
                          go_wp2
                          go_meet
                          exact ⟨_, true, rfl, hR9, hJ9, hx9⟩
                      case rest =>
                        clear hR1 hJ1 hx5 ht2
                        obtain ⟨X2, ch2, rfl, hR2, hJ2, hx5⟩ := hcut
                        obtain ⟨t3, ht3⟩ : ∃ t, (X2 (fst K i) && ((z == 2) || X2 (fst K x)) && !X2 (fst K y)) = t := ⟨_, rfl⟩
                        replace ht3 := Lib.hid ht3
                        obtain ⟨W3, hW3⟩ : ∃ W, W = wc := ⟨_, rfl⟩
                        subst hW3
                        go_upto_region 27 with fail
                        go_cut [141] from 54 to 144 (fun v wc => v = .bool t3 ∧ wc = W3)
                        case first =>
                          have ht := ht3.out
                          have sb := Lib.hid hJ2.out.2.1.sees
                          have ga := Lib.hid (sb.out.cell hfx)
                          have gb := Lib.hid (sb.out.cell hfy)
                          have gm := Lib.hid (sb.out.cell hfi)
                          unfold boolV at ga gb gm
                          cases qm : X2 (fst K i)
                          · rw [qm] at ht gm
                            have ht : t3 = false := by rw [← ht]; rfl
                            subst ht
                            refine wp_region_lit ?_
                            refine wpList_val (.slice (some ⟨p, 0, none⟩) n n) (by kernel_rfl) (by go_simp) ?_
                            simp only [Act.put, List.setIfInBounds_toArray, List.set_cons_succ, List.set_cons_zero]
                            refine wpList_val (.int .i64 ((fst K i : Nat) : Int)) (by kernel_rfl) (by go_simp) ?_
                            simp only [Act.put, List.setIfInBounds_toArray, List.set_cons_succ, List.set_cons_zero]
                            refine wpList_val (.pointer (some (elV (some ⟨p, 0, none⟩) (fst K i)))) (by kernel_rfl) (at_bools sb.out hfi rfl rfl rfl rfl _) ?_
                            simp only [Act.put, List.setIfInBounds_toArray, List.set_cons_succ, List.set_cons_zero]
                            refine wpList_val (.bool false) (by kernel_rfl) (get_bool gm.out rfl rfl) ?_
                            simp only [Act.put, List.setIfInBounds_toArray, List.set_cons_succ, List.set_cons_zero]
                            refine wpList_val (.bool false) (by kernel_rfl) (by go_simp) ?_
                            simp only [Act.put, List.setIfInBounds_toArray, List.set_cons_succ, List.set_cons_zero]
                            with_reducible refine wpList_skip (by kernel_rfl) ?_
                            simp only [Act.put, List.setIfInBounds_toArray, List.set_cons_succ, List.set_cons_zero]
                            with_reducible refine wpList_skip (by kernel_rfl) ?_
                            simp only [Act.put, List.setIfInBounds_toArray, List.set_cons_succ, List.set_cons_zero]
                            with_reducible refine wpList_skip (by kernel_rfl) ?_
                            simp only [Act.put, List.setIfInBounds_toArray, List.set_cons_succ, List.set_cons_zero]
                            with_reducible refine wpList_skip (by kernel_rfl) ?_
                            simp only [Act.put, List.setIfInBounds_toArray, List.set_cons_succ, List.set_cons_zero]
                            with_reducible refine wpList_skip (by kernel_rfl) ?_
                            simp only [Act.put, List.setIfInBounds_toArray, List.set_cons_succ, List.set_cons_zero]
                            with_reducible refine wpList_skip (by kernel_rfl) ?_
                            simp only [Act.put, List.setIfInBounds_toArray, List.set_cons_succ, List.set_cons_zero]
                            with_reducible refine wpList_skip (by kernel_rfl) ?_
                            simp only [Act.put, List.setIfInBounds_toArray, List.set_cons_succ, List.set_cons_zero]
                            with_reducible refine wpList_skip (by kernel_rfl) ?_
                            simp only [Act.put, List.setIfInBounds_toArray, List.set_cons_succ, List.set_cons_zero]
                            with_reducible refine wpList_skip (by kernel_rfl) ?_
                            simp only [Act.put, List.setIfInBounds_toArray, List.set_cons_succ, List.set_cons_zero]
                            refine wpList_val (.bool false) (by kernel_rfl) (by go_simp) ?_
                            simp only [Act.put, List.setIfInBounds_toArray, List.set_cons_succ, List.set_cons_zero]
                            refine wpList_val (.bool false) (by kernel_rfl) (by go_simp) ?_
                            simp only [Act.put, List.setIfInBounds_toArray, List.set_cons_succ, List.set_cons_zero]
                            with_reducible refine wpList_skip (by kernel_rfl) ?_
                            simp only [Act.put, List.setIfInBounds_toArray, List.set_cons_succ, List.set_cons_zero]
                            with_reducible refine wpList_skip (by kernel_rfl) ?_
                            simp only [Act.put, List.setIfInBounds_toArray, List.set_cons_succ, List.set_cons_zero]
                            with_reducible refine wpList_skip (by kernel_rfl) ?_
                            simp only [Act.put, List.setIfInBounds_toArray, List.set_cons_succ, List.set_cons_zero]
                            with_reducible refine wpList_skip (by kernel_rfl) ?_
                            simp only [Act.put, List.setIfInBounds_toArray, List.set_cons_succ, List.set_cons_zero]
                            with_reducible refine wpList_skip (by kernel_rfl) ?_
                            simp only [Act.put, List.setIfInBounds_toArray, List.set_cons_succ, List.set_cons_zero]
                            refine wpList_val (.bool false) (by kernel_rfl) (by go_simp) ?_
                            simp only [Act.put, List.setIfInBounds_toArray, List.set_cons_succ, List.set_cons_zero]
                            go_wp2_with fail
                            go_meet
                            exact ⟨rfl, rfl⟩
                          · rcases hz23.out with rfl | rfl
                            · have ht : X2 (fst K y) = !t3 := by rw [← ht, qm]; simp
                              rw [qm] at gm
                              rw [ht] at gb
                              refine wp_region_lit ?_
                              refine wpList_val (.slice (some ⟨p, 0, none⟩) n n) (by kernel_rfl) (by go_simp) ?_
                              simp only [Act.put, List.setIfInBounds_toArray, List.set_cons_succ, List.set_cons_zero]
                              refine wpList_val (.int .i64 ((fst K i : Nat) : Int)) (by kernel_rfl) (by go_simp) ?_
                              simp only [Act.put, List.setIfInBounds_toArray, List.set_cons_succ, List.set_cons_zero]
                              refine wpList_val (.pointer (some (elV (some ⟨p, 0, none⟩) (fst K i)))) (by kernel_rfl) (at_bools sb.out hfi rfl rfl rfl rfl _) ?_
                              simp only [Act.put, List.setIfInBounds_toArray, List.set_cons_succ, List.set_cons_zero]
                              refine wpList_val (.bool true) (by kernel_rfl) (get_bool gm.out rfl rfl) ?_
                              simp only [Act.put, List.setIfInBounds_toArray, List.set_cons_succ, List.set_cons_zero]
                              refine wpList_val (.bool true) (by kernel_rfl) (by go_simp) ?_
                              simp only [Act.put, List.setIfInBounds_toArray, List.set_cons_succ, List.set_cons_zero]
                              refine wpList_val (.pointer (some ⟨px, 0, none⟩)) (by kernel_rfl) (by (go_simp; try omega)) ?_
                              simp only [Act.put, List.setIfInBounds_toArray, List.set_cons_succ, List.set_cons_zero]
                              refine wpList_val (.int .i64 2) (by kernel_rfl) (get_cell hx5.out rfl rfl Try.underlying3 rfl rfl) ?_
                              simp only [Act.put, List.setIfInBounds_toArray, List.set_cons_succ, List.set_cons_zero]
                              refine wpList_val (.bool true) (by kernel_rfl) (by go_simp) ?_
                              simp only [Act.put, List.setIfInBounds_toArray, List.set_cons_succ, List.set_cons_zero]
                              refine wpList_val (.bool true) (by kernel_rfl) (by go_simp) ?_
                              simp only [Act.put, List.setIfInBounds_toArray, List.set_cons_succ, List.set_cons_zero]
                              with_reducible refine wpList_skip (by kernel_rfl) ?_
                              simp only [Act.put, List.setIfInBounds_toArray, List.set_cons_succ, List.set_cons_zero]
                              with_reducible refine wpList_skip (by kernel_rfl) ?_
                              simp only [Act.put, List.setIfInBounds_toArray, List.set_cons_succ, List.set_cons_zero]
                              with_reducible refine wpList_skip (by kernel_rfl) ?_
                              simp only [Act.put, List.setIfInBounds_toArray, List.set_cons_succ, List.set_cons_zero]
                              with_reducible refine wpList_skip (by kernel_rfl) ?_
                              simp only [Act.put, List.setIfInBounds_toArray, List.set_cons_succ, List.set_cons_zero]
                              refine wpList_val (.bool true) (by kernel_rfl) (by go_simp) ?_
                              simp only [Act.put, List.setIfInBounds_toArray, List.set_cons_succ, List.set_cons_zero]
                              refine wpList_val (.bool true) (by kernel_rfl) (by go_simp) ?_
                              simp only [Act.put, List.setIfInBounds_toArray, List.set_cons_succ, List.set_cons_zero]
                              refine wpList_val (.bool true) (by kernel_rfl) (by go_simp) ?_
                              simp only [Act.put, List.setIfInBounds_toArray, List.set_cons_succ, List.set_cons_zero]
                              refine wpList_val (.slice (some ⟨p, 0, none⟩) n n) (by kernel_rfl) (by go_simp) ?_
                              simp only [Act.put, List.setIfInBounds_toArray, List.set_cons_succ, List.set_cons_zero]
                              refine wpList_val (.int .i64 ((fst K y : Nat) : Int)) (by kernel_rfl) (by go_simp) ?_
                              simp only [Act.put, List.setIfInBounds_toArray, List.set_cons_succ, List.set_cons_zero]
                              refine wpList_val (.pointer (some (elV (some ⟨p, 0, none⟩) (fst K y)))) (by kernel_rfl) (at_bools sb.out hfy rfl rfl rfl rfl _) ?_
                              simp only [Act.put, List.setIfInBounds_toArray, List.set_cons_succ, List.set_cons_zero]
                              refine wpList_val (.bool (!t3)) (by kernel_rfl) (get_bool gb.out rfl rfl) ?_
                              simp only [Act.put, List.setIfInBounds_toArray, List.set_cons_succ, List.set_cons_zero]
                              refine wpList_val (.bool t3) (by kernel_rfl) (by go_simp) ?_
                              simp only [Act.put, List.setIfInBounds_toArray, List.set_cons_succ, List.set_cons_zero]
                              refine wpList_val (.bool t3) (by kernel_rfl) (by go_simp) ?_
                              simp only [Act.put, List.setIfInBounds_toArray, List.set_cons_succ, List.set_cons_zero]
                              go_wp2_with fail
                              go_meet
                              exact ⟨rfl, rfl⟩
                            · cases qa : X2 (fst K x)
                              · have ht : t3 = false := by rw [← ht, qm, qa]; rfl
                                subst ht
                                rw [qm] at gm
                                rw [qa] at ga
                                refine wp_region_lit ?_
                                refine wpList_val (.slice (some ⟨p, 0, none⟩) n n) (by kernel_rfl) (by go_simp) ?_
                                simp only [Act.put, List.setIfInBounds_toArray, List.set_cons_succ, List.set_cons_zero]
                                refine wpList_val (.int .i64 ((fst K i : Nat) : Int)) (by kernel_rfl) (by go_simp) ?_
                                simp only [Act.put, List.setIfInBounds_toArray, List.set_cons_succ, List.set_cons_zero]
                                refine wpList_val (.pointer (some (elV (some ⟨p, 0, none⟩) (fst K i)))) (by kernel_rfl) (at_bools sb.out hfi rfl rfl rfl rfl _) ?_
                                simp only [Act.put, List.setIfInBounds_toArray, List.set_cons_succ, List.set_cons_zero]
                                refine wpList_val (.bool true) (by kernel_rfl) (get_bool gm.out rfl rfl) ?_
                                simp only [Act.put, List.setIfInBounds_toArray, List.set_cons_succ, List.set_cons_zero]
                                refine wpList_val (.bool true) (by kernel_rfl) (by go_simp) ?_
                                simp only [Act.put, List.setIfInBounds_toArray, List.set_cons_succ, List.set_cons_zero]
                                refine wpList_val (.pointer (some ⟨px, 0, none⟩)) (by kernel_rfl) (by (go_simp; try omega)) ?_
                                simp only [Act.put, List.setIfInBounds_toArray, List.set_cons_succ, List.set_cons_zero]
                                refine wpList_val (.int .i64 3) (by kernel_rfl) (get_cell hx5.out rfl rfl Try.underlying3 rfl rfl) ?_
                                simp only [Act.put, List.setIfInBounds_toArray, List.set_cons_succ, List.set_cons_zero]
                                refine wpList_val (.bool false) (by kernel_rfl) (by go_simp) ?_
                                simp only [Act.put, List.setIfInBounds_toArray, List.set_cons_succ, List.set_cons_zero]
                                refine wpList_val (.bool false) (by kernel_rfl) (by go_simp) ?_
                                simp only [Act.put, List.setIfInBounds_toArray, List.set_cons_succ, List.set_cons_zero]
                                refine wpList_val (.slice (some ⟨p, 0, none⟩) n n) (by kernel_rfl) (by go_simp) ?_
                                simp only [Act.put, List.setIfInBounds_toArray, List.set_cons_succ, List.set_cons_zero]
                                refine wpList_val (.int .i64 ((fst K x : Nat) : Int)) (by kernel_rfl) (by go_simp) ?_
                                simp only [Act.put, List.setIfInBounds_toArray, List.set_cons_succ, List.set_cons_zero]
                                refine wpList_val (.pointer (some (elV (some ⟨p, 0, none⟩) (fst K x)))) (by kernel_rfl) (at_bools sb.out hfx rfl rfl rfl rfl _) ?_
                                simp only [Act.put, List.setIfInBounds_toArray, List.set_cons_succ, List.set_cons_zero]
                                refine wpList_val (.bool false) (by kernel_rfl) (get_bool ga.out rfl rfl) ?_
                                simp only [Act.put, List.setIfInBounds_toArray, List.set_cons_succ, List.set_cons_zero]
                                refine wpList_val (.bool false) (by kernel_rfl) (by go_simp) ?_
                                simp only [Act.put, List.setIfInBounds_toArray, List.set_cons_succ, List.set_cons_zero]
                                refine wpList_val (.bool false) (by kernel_rfl) (by go_simp) ?_
                                simp only [Act.put, List.setIfInBounds_toArray, List.set_cons_succ, List.set_cons_zero]
                                refine wpList_val (.bool false) (by kernel_rfl) (by go_simp) ?_
                                simp only [Act.put, List.setIfInBounds_toArray, List.set_cons_succ, List.set_cons_zero]
                                with_reducible refine wpList_skip (by kernel_rfl) ?_
                                simp only [Act.put, List.setIfInBounds_toArray, List.set_cons_succ, List.set_cons_zero]
                                with_reducible refine wpList_skip (by kernel_rfl) ?_
                                simp only [Act.put, List.setIfInBounds_toArray, List.set_cons_succ, List.set_cons_zero]
                                with_reducible refine wpList_skip (by kernel_rfl) ?_
                                simp only [Act.put, List.setIfInBounds_toArray, List.set_cons_succ, List.set_cons_zero]
                                with_reducible refine wpList_skip (by kernel_rfl) ?_
                                simp only [Act.put, List.setIfInBounds_toArray, List.set_cons_succ, List.set_cons_zero]
                                with_reducible refine wpList_skip (by kernel_rfl) ?_
                                simp only [Act.put, List.setIfInBounds_toArray, List.set_cons_succ, List.set_cons_zero]
                                refine wpList_val (.bool false) (by kernel_rfl) (by go_simp) ?_
                                simp only [Act.put, List.setIfInBounds_toArray, List.set_cons_succ, List.set_cons_zero]
                                go_wp2_with fail
                                go_meet
                                exact ⟨rfl, rfl⟩
                              · have ht : X2 (fst K y) = !t3 := by rw [← ht, qm, qa]; simp
                                rw [qm] at gm
                                rw [qa] at ga
                                rw [ht] at gb
                                refine wp_region_lit ?_
                                refine wpList_val (.slice (some ⟨p, 0, none⟩) n n) (by kernel_rfl) (by go_simp) ?_
                                simp only [Act.put, List.setIfInBounds_toArray, List.set_cons_succ, List.set_cons_zero]
                                refine wpList_val (.int .i64 ((fst K i : Nat) : Int)) (by kernel_rfl) (by go_simp) ?_
                                simp only [Act.put, List.setIfInBounds_toArray, List.set_cons_succ, List.set_cons_zero]
                                refine wpList_val (.pointer (some (elV (some ⟨p, 0, none⟩) (fst K i)))) (by kernel_rfl) (at_bools sb.out hfi rfl rfl rfl rfl _) ?_
                                simp only [Act.put, List.setIfInBounds_toArray, List.set_cons_succ, List.set_cons_zero]
                                refine wpList_val (.bool true) (by kernel_rfl) (get_bool gm.out rfl rfl) ?_
                                simp only [Act.put, List.setIfInBounds_toArray, List.set_cons_succ, List.set_cons_zero]
                                refine wpList_val (.bool true) (by kernel_rfl) (by go_simp) ?_
                                simp only [Act.put, List.setIfInBounds_toArray, List.set_cons_succ, List.set_cons_zero]
                                refine wpList_val (.pointer (some ⟨px, 0, none⟩)) (by kernel_rfl) (by (go_simp; try omega)) ?_
                                simp only [Act.put, List.setIfInBounds_toArray, List.set_cons_succ, List.set_cons_zero]
                                refine wpList_val (.int .i64 3) (by kernel_rfl) (get_cell hx5.out rfl rfl Try.underlying3 rfl rfl) ?_
                                simp only [Act.put, List.setIfInBounds_toArray, List.set_cons_succ, List.set_cons_zero]
                                refine wpList_val (.bool false) (by kernel_rfl) (by go_simp) ?_
                                simp only [Act.put, List.setIfInBounds_toArray, List.set_cons_succ, List.set_cons_zero]
                                refine wpList_val (.bool false) (by kernel_rfl) (by go_simp) ?_
                                simp only [Act.put, List.setIfInBounds_toArray, List.set_cons_succ, List.set_cons_zero]
                                refine wpList_val (.slice (some ⟨p, 0, none⟩) n n) (by kernel_rfl) (by go_simp) ?_
                                simp only [Act.put, List.setIfInBounds_toArray, List.set_cons_succ, List.set_cons_zero]
                                refine wpList_val (.int .i64 ((fst K x : Nat) : Int)) (by kernel_rfl) (by go_simp) ?_
                                simp only [Act.put, List.setIfInBounds_toArray, List.set_cons_succ, List.set_cons_zero]
                                refine wpList_val (.pointer (some (elV (some ⟨p, 0, none⟩) (fst K x)))) (by kernel_rfl) (at_bools sb.out hfx rfl rfl rfl rfl _) ?_
                                simp only [Act.put, List.setIfInBounds_toArray, List.set_cons_succ, List.set_cons_zero]
                                refine wpList_val (.bool true) (by kernel_rfl) (get_bool ga.out rfl rfl) ?_
                                simp only [Act.put, List.setIfInBounds_toArray, List.set_cons_succ, List.set_cons_zero]
                                refine wpList_val (.bool true) (by kernel_rfl) (by go_simp) ?_
                                simp only [Act.put, List.setIfInBounds_toArray, List.set_cons_succ, List.set_cons_zero]
                                refine wpList_val (.bool true) (by kernel_rfl) (by go_simp) ?_
                                simp only [Act.put, List.setIfInBounds_toArray, List.set_cons_succ, List.set_cons_zero]
                                refine wpList_val (.bool true) (by kernel_rfl) (by go_simp) ?_
                                simp only [Act.put, List.setIfInBounds_toArray, List.set_cons_succ, List.set_cons_zero]
                                refine wpList_val (.slice (some ⟨p, 0, none⟩) n n) (by kernel_rfl) (by go_simp) ?_
                                simp only [Act.put, List.setIfInBounds_toArray, List.set_cons_succ, List.set_cons_zero]
                                refine wpList_val (.int .i64 ((fst K y : Nat) : Int)) (by kernel_rfl) (by go_simp) ?_
                                simp only [Act.put, List.setIfInBounds_toArray, List.set_cons_succ, List.set_cons_zero]
                                refine wpList_val (.pointer (some (elV (some ⟨p, 0, none⟩) (fst K y)))) (by kernel_rfl) (at_bools sb.out hfy rfl rfl rfl rfl _) ?_
                                simp only [Act.put, List.setIfInBounds_toArray, List.set_cons_succ, List.set_cons_zero]
                                refine wpList_val (.bool (!t3)) (by kernel_rfl) (get_bool gb.out rfl rfl) ?_
                                simp only [Act.put, List.setIfInBounds_toArray, List.set_cons_succ, List.set_cons_zero]
                                refine wpList_val (.bool t3) (by kernel_rfl) (by go_simp) ?_
                                simp only [Act.put, List.setIfInBounds_toArray, List.set_cons_succ, List.set_cons_zero]
                                refine wpList_val (.bool t3) (by kernel_rfl) (by go_simp) ?_
                                simp only [Act.put, List.setIfInBounds_toArray, List.set_cons_succ, List.set_cons_zero]
                                go_wp2_with fail
                                go_meet
                                exact ⟨rfl, rfl⟩
                        case rest =>
                          obtain ⟨rfl, rfl⟩ := hcut
                          cases t3
                          · have hR9 : Hid (RI K n S0 (gap X n) (fun Y => ∀ e, e < i + 1 → SatR K Y e) X2 ch2) := hR2.out.skip fun h e he => ref_upto h.1 (ref_sat e1.out e2.out h.2.1 (by rw [e0.out]; exact h.2.2) (by rw [e0.out]; exact ht3.out)) e he
                            go_wp2
                            go_roundg (n - (i + 1))
                            case measure => omega
                            case rel => exact ⟨X2, ch2, i + 1, by omega, by go_num, rfl, hR9, hJ2⟩
                          · obtain ⟨qm, qo, qb⟩ := ref_third ht3.out
                            rw [← e0.out] at qo
                            replace qm := Lib.hid qm
                            replace qb := Lib.hid qb
                            replace qo := Lib.hid qo
                            have sb := Lib.hid hJ2.out.2.1.sees
                            have hb := Lib.hid hJ2.out.2.1
                            have hR9 : Hid (RI K n S0 (gap X n) (fun Y => ∀ e, e < i + 1 → SatR K Y e) (setT X2 (fst K y)) true) := hR2.out.set hfy qb.out (ref_right hR2.out hlt hx hy (by rw [e0.out]; exact hz23.out) e1.out e2.out qm.out qo.out)
                            go_wp2_with (first | (refine wpList_known rfl (at_bools sb.out hfy rfl rfl rfl rfl _) ?_) | (refine wpList_store_bool rfl _ _ rfl hb.out hfy rfl rfl ?_; intro w9 hB9 hA9; refine Hid.out ?_))
                            unfold Hid
                            have hJ9 := Lib.hid (hJ2.out.store hB9.out hA9.out off.out hpl.out)
                            have hx9 := Lib.hid (hA9.out.row hx5.out hpx.out)
                            clear hB9 hA9 sb hb
                            go_wp2
                            go_roundg (n - (i + 1))
                            case measure => omega
                            case rel => exact ⟨_, true, i + 1, by omega, by go_num, rfl, hR9, hJ9⟩
            · have li : ¬ (i : Int) < (n : Int) := by omega
              obtain rfl : i = n := by omega
              cases ch
              · have h5 := Lib.hid (hR.out.2.2.2.2 rfl)
                go_wp2
                go_roundg 0
                case measure => omega
                case rel => exact ⟨X', false, rfl, fun e => (by cases e), hR.out.1, hR.out.2.1, fun _ => h5.out, hJ⟩
              · have h5 := hR.out.2.2.2.1 rfl
                go_wp2
                go_roundg (gap X' i + 1)
                case measure => omega
                case rel => exact ⟨X', true, rfl, fun _ => Nat.le_refl _, hR.out.1, hR.out.2.1, fun e => (by cases e), hJ⟩

theorem refKnows_any (K : Nds) (n : Nat) (a ak : Option Addr) (c k ck : Nat) (hk : k ≤ 1000000) (f : Nat → Int) (w : World) (hs : Hid (SeesN w a n K)) (hf : Hid (SeesZ w ak k f)) :
    Calls Try.prog 13 #[.slice a n c, .slice ak k ck] w (RefKEnd K n (inZ f k) w) := by
  cases hm : mayB K n
  · exact refKnows_no K n a ak c k ck _ hm w hs
  · exact refKnows_yes K n a ak c k ck hk f hm w hs hf

end Go.Proofs.Ytjhalbifljnfjaa
