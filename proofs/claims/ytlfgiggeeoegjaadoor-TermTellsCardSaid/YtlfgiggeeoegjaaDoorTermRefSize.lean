/-
  Contracts: the document's digits (it calls itself), Size.
-/
import Derived.Test.YtlfgiggeeoegjaaDoorTermRefMay
import Derived.Test.YtlfgiggeeoegjaaDoorTermSizes
namespace Go.Proofs.YtlfgiggeeoegjaaDoor
open Go.RowKit
set_option linter.unusedVariables false

theorem slice_digit (d : Nat) (hd : d < 10) (w : World) : (Instr.sliceAt 9 (.string ⟨#[48, 49, 50, 51, 52, 53, 54, 55, 56, 57]⟩) (some (.int .i64 (d : Int))) (some (.int .i64 ((d : Int) + 1))) none).run Tryd.prog w = .ok (.string (bs [UInt8.ofNat (48 + d)])) w := by
  match d, hd with
  | 0, _ => show _ = _; kernel_rfl
  | 1, _ => show _ = _; kernel_rfl
  | 2, _ => show _ = _; kernel_rfl
  | 3, _ => show _ = _; kernel_rfl
  | 4, _ => show _ = _; kernel_rfl
  | 5, _ => show _ = _; kernel_rfl
  | 6, _ => show _ = _; kernel_rfl
  | 7, _ => show _ = _; kernel_rfl
  | 8, _ => show _ = _; kernel_rfl
  | 9, _ => show _ = _; kernel_rfl

/-- A digit taken out of the ten, at the operation. -/
theorem run_digit {d : Nat} (hd : d < 10) {sd : ByteArray} (hsd : bs [UInt8.ofNat (48 + d)] = sd) {o : Oper} {a : Act} {x y : Operand} (ho : o.op = .slice 9 (.const (.string ⟨#[48, 49, 50, 51, 52, 53, 54, 55, 56, 57]⟩)) (some x) (some y) none) {z z' : Int} (hx : a.eval x = .int .i64 z) (hy : a.eval y = .int .i64 z') (hz : z = (d : Int)) (hz' : z' = (d : Int) + 1) (w : World) :
    (execOp a.eval o).run Tryd.prog w = .ok (.value (.string sd)) w := by
  subst hz hz' hsd
  have e : a.eval (.const (.string ⟨#[48, 49, 50, 51, 52, 53, 54, 55, 56, 57]⟩)) = .string ⟨#[48, 49, 50, 51, 52, 53, 54, 55, 56, 57]⟩ := rfl
  unfold execOp
  simp only [ho, hx, hy, e, Option.map_some, Option.map_none, Sem.run_bind, slice_digit d hd w, Result.andThen_ok, Sem.run_pure]

theorem bs_size' (l : List UInt8) : (bs l).size = l.length := by simp [bs, ByteArray.size]
theorem bs_two (l m : List UInt8) : bs l ++ bs m = bs (l ++ m) := by
  apply ByteArray.ext
  rw [ByteArray.data_append]
  simp [bs]

set_option maxHeartbeats 2000000 in
set_option maxRecDepth 8000 in
theorem digits_any : ∀ (x : Nat), x ≤ 999999 → ∀ (w : World),
    Calls Tryd.prog 27 #[.int .i64 (x : Int)] w fun e w' => e = .returned (.string (bs (Lib.decDigits x))) ∧ Below w.heap.size w w' := by
  intro x
  induction x using Nat.strongRecOn with
  | _ x ih =>
    intro hx w
    by_cases h10 : x < 10
    · have l1 : (x : Int) < 10 := by omega
      rw [Lib.decDigits_one h10]
      obtain ⟨sd, hsd⟩ : ∃ sd, bs [UInt8.ofNat (48 + x)] = sd := ⟨_, rfl⟩
      rw [hsd]
      replace hsd := Lib.hid hsd
      go_enter Tryd.func27, Tryd.ntmps27
      go_wp2_with (refine wpList_known rfl (run_digit h10 hsd.out rfl rfl rfl rfl rfl _) ?_)
      go_ret
      exact ⟨rfl, Below.refl _ _⟩
    · have l1 : ¬ (x : Int) < 10 := by omega
      rw [digits_big h10, ← bs_two]
      obtain ⟨q, hq⟩ : ∃ q, x / 10 = q := ⟨_, rfl⟩
      obtain ⟨d, hd⟩ : ∃ d, x % 10 = d := ⟨_, rfl⟩
      have hd10 : d < 10 := by omega
      have K1 : Hid (∀ w', Below w.heap.size w w' → Calls Tryd.prog 27 #[.int .i64 (q : Int)] w' fun e w'' => e = .returned (.string (bs (Lib.decDigits q))) ∧ Below w.heap.size w w'') := fun w' hb =>
        (ih q (by omega) (by omega) w').mono fun e w'' ⟨h1, h2⟩ => ⟨h1, hb.trans (h2.mono hb.size)⟩
      have eq : (x : Int) / 10 = (q : Int) := by omega
      have ed : (x : Int) % 10 = (d : Int) := by omega
      rw [hq, hd]
      obtain ⟨sd, hsd⟩ : ∃ sd, bs [UInt8.ofNat (48 + d)] = sd := ⟨_, rfl⟩
      rw [hsd]
      replace hsd := Lib.hid hsd
      have wq : IntKind.i64.wrap (q : Int) = (q : Int) := by rw [IntKind.wrap_i64]; omega
      have wd : IntKind.i64.wrap ((d : Int) + 1) = (d : Int) + 1 := by rw [IntKind.wrap_i64]; omega
      have td : (x : Int).tmod 10 = (d : Int) := by rw [Int.tmod_eq_emod_of_nonneg (by omega)]; omega
      have HC : Hid (Below w.heap.size w w.drew) := (Below.refl _ _).drew
      have zz : (bs (Lib.decDigits q)).size + sd.size ≤ 9223372036854775807 := by
        have := digits_six (x := q) (by omega)
        rw [← hsd.out, bs_size', bs_size']
        simp
        omega
      generalize bs (Lib.decDigits q) = sq at *
      replace hq := Lib.hid hq
      replace hd := Lib.hid hd
      clear ih
      go_enter Tryd.func27, Tryd.ntmps27
      go_wp2_with fail
      refine wp_region_class (Below w.heap.size w) (by kernel_rfl) (by kernel_rfl) HC.out ?_
      go_big_quiet_want; go_big_quiet_op; go_big_quiet_on
      refine wpQuiet_val (by rfl) (.int .i64 (q : Int)) (fun w' _ => by go_simp) ?_
      simp only [Act.put, List.setIfInBounds_toArray, List.set_cons_succ, List.set_cons_zero]
      (go_big_quiet_want; go_big_quiet_op; apply Exists.intro; refine ⟨K1.out, ?_⟩; go_big_quiet_on)
      go_big_quiet_want; go_big_quiet_op; go_big_quiet_on
      refine wpQuiet_val (by rfl) (.int .i64 (d : Int)) (fun w' _ => by go_simp) ?_
      simp only [Act.put, List.setIfInBounds_toArray, List.set_cons_succ, List.set_cons_zero]
      go_big_quiet_want; go_big_quiet_op; go_big_quiet_on
      refine wpQuiet_val (by rfl) (.int .i64 (d : Int)) (fun w' _ => by go_simp) ?_
      simp only [Act.put, List.setIfInBounds_toArray, List.set_cons_succ, List.set_cons_zero]
      refine wpQuiet_val (by rfl) (.int .i64 ((d : Int) + 1)) (fun w' _ => by go_simp) ?_
      simp only [Act.put, List.setIfInBounds_toArray, List.set_cons_succ, List.set_cons_zero]
      refine wpQuiet_val (by rfl) _ (fun w' _ => run_digit hd10 hsd.out rfl rfl rfl rfl rfl w') ?_
      simp only [Act.put, List.setIfInBounds_toArray, List.set_cons_succ, List.set_cons_zero]
      refine wpQuiet_val (by rfl) (.string (sq ++ sd)) (fun w' _ => by go_simp) ?_
      simp only [Act.put, List.setIfInBounds_toArray, List.set_cons_succ, List.set_cons_zero]
      go_big_quiet_want; go_big_quiet_op; go_big_quiet_on
      refine wpQuiet_nil ?_
      intro w9 hb9
      go_wp2
      go_ret
      exact ⟨rfl, hb9⟩

set_option maxHeartbeats 4000000 in
set_option maxRecDepth 8000 in
theorem refSize_yes (K : Nds) (n : Nat) (i : Nat) (hpl : placeB K n (i : Int) = true) (a : Option Addr) (c : Nat) (w : World) (hs : Hid (SeesN w a n K)) :
    Calls Tryd.prog 14 #[.slice a n c, .int .i64 (i : Int)] w fun e w' => e = .returned (.int .i64 ((szN K i : Nat) : Int)) ∧ Below w.heap.size w w' := by
  have H := place_any K n a c (i : Int) w hs
  rw [hpl] at H
  replace H := Lib.hid H
  obtain ⟨i', hi, e, hn, hK⟩ := place_yes hpl
  obtain rfl : i = i' := by omega
  clear hpl e
  replace hK := Lib.hid hK
  go_enter Tryd.func14, Tryd.ntmps14
  go_wp2_with fail
  refine H.out.mono ?_
  rintro e w1 ⟨rfl, hb1⟩
  clear H
  go_wp2
  go_loopw [5, 6] (fun v c wr => ∃ k : Nat, k ≤ i + 1 ∧ c = .int .i64 k ∧ Hid (wr.ownsRow w.heap.size 3 1 v k (cellL k (numV (szN K)))) ∧ Below w.heap.size w wr) (fun _ c _ => i + 1 - (intOf c).toNat)
  case atStart => exact ⟨0, Nat.zero_le _, rfl, World.ownsRow_made _ _ _ hb1.size (by decide) rfl, hb1.alloc hb1.size _⟩
  case round =>
    clear hb1
    obtain ⟨k, hk, rfl, hown, hb⟩ := hrel
    by_cases hlt : k ≤ i
    · have lk : (k : Int) ≤ (i : Int) := by omega
      have hkn : k < n := by omega
      have s1 := Lib.hid (hs.out.after hb)
      rcases hK.out.kinds hkn with ⟨h0, ⟨x, hx, e1⟩, e2⟩ | ⟨h0, x, y, hx, hy, e1, e2⟩
      · have dl := digits_six hx
        have eZ := szN_leaf hK.out hkn h0 e1
        have dz : (bs (Lib.decDigits x)).size = (Lib.decDigits x).length := bs_size' _
        have I := Lib.hid (fun w' => digits_any x hx w')
        generalize (Lib.decDigits x).length = d at dl eZ dz
        generalize bs (Lib.decDigits x) = sx at I dz
        obtain ⟨q, hq⟩ : ∃ q, q = szN K k := ⟨_, rfl⟩
        rw [← hq] at eZ
        have eS : ((1 + (d : Int)) < 1000000000 ∧ (q : Int) = 1 + d) ∨ (1000000000 ≤ 1 + (d : Int) ∧ (q : Int) = 1000000000) := by omega
        have hq' : (q : Int) = ((szN K k : Nat) : Int) := by rw [hq]
        replace eS := Lib.hid eS
        replace hq := Lib.hid hq
        replace hq' := Lib.hid hq'
        clear eZ
        rcases h0 with h0 | h0
        · have b1 := hb.alloc hb.size (.cells #[.int .i64 0, .int .i64 (x : Int), .int .i64 0] 43)
          have own1 := Lib.hid (hown.out.alloc (.cells #[.int .i64 0, .int .i64 (x : Int), .int .i64 0] 43))
          go_wp2_with (first | (refine wpList_known rfl (at_refNodes s1.out hkn rfl rfl rfl rfl _) ?_) | (refine wpList_known rfl (get_refNode s1.out hkn rfl rfl) ?_))
          refine (I.out _).mono ?_
          rintro e w2 ⟨rfl, hb2⟩
          have own2 := Lib.hid (own_onto own1.out hb2)
          have b2 := b1.trans (hb2.mono b1.size)
          clear I hb2 own1 b1
          go_wp2_with (first | (refine wpList_min2 rfl _ _ rfl rfl _ _ (q : Int) rfl rfl eS.out ?_) | (at_builtin; refine wpList_append_num rfl _ _ rfl w.heap.size _ k (szN K) (q : Int) hq'.out rfl w2 own2.out rfl rfl rfl (by omega) b2.size ?_; intro v3 w3 own3 g3 b3))
          have b4 := b2.trans b3.out
          go_roundw
          case rel => exact ⟨k + 1, by omega, by go_num, own3, b4⟩
          case measure => simp [intOf]; omega
        · have b1 := hb.alloc hb.size (.cells #[.int .i64 1, .int .i64 (x : Int), .int .i64 0] 43)
          have own1 := Lib.hid (hown.out.alloc (.cells #[.int .i64 1, .int .i64 (x : Int), .int .i64 0] 43))
          go_wp2_with (first | (refine wpList_known rfl (at_refNodes s1.out hkn rfl rfl rfl rfl _) ?_) | (refine wpList_known rfl (get_refNode s1.out hkn rfl rfl) ?_))
          refine (I.out _).mono ?_
          rintro e w2 ⟨rfl, hb2⟩
          have own2 := Lib.hid (own_onto own1.out hb2)
          have b2 := b1.trans (hb2.mono b1.size)
          clear I hb2 own1 b1
          go_wp2_with (first | (refine wpList_min2 rfl _ _ rfl rfl _ _ (q : Int) rfl rfl eS.out ?_) | (at_builtin; refine wpList_append_num rfl _ _ rfl w.heap.size _ k (szN K) (q : Int) hq'.out rfl w2 own2.out rfl rfl rfl (by omega) b2.size ?_; intro v3 w3 own3 g3 b3))
          have b4 := b2.trans b3.out
          go_roundw
          case rel => exact ⟨k + 1, by omega, by go_num, own3, b4⟩
          case measure => simp [intOf]; omega
      · obtain ⟨a0, c0, rfl, si, _, _, hbl⟩ := own_ints hown.out
        obtain ⟨q, hq⟩ : ∃ q, q = szN K k := ⟨_, rfl⟩
        have lx := szN_le K x
        have ly := szN_le K y
        have hq' : (q : Int) = ((szN K k : Nat) : Int) := by rw [hq]
        replace hq' := Lib.hid hq'
        rcases h0 with h0 | h0
        · have eZ := szN_pair hK.out hkn h0 hx hy e1 e2
          rw [← hq] at eZ
          have b1 := hb.alloc hb.size (.cells #[.int .i64 2, .int .i64 (x : Int), .int .i64 (y : Int)] 43)
          have al : Below wr.heap.size wr (wr.alloc (.cells #[.int .i64 2, .int .i64 (x : Int), .int .i64 (y : Int)] 43)) := (Below.refl _ _).alloc (Nat.le_refl _) _
          have own1 := Lib.hid (own_onto hown.out al.drew)
          have si1 := Lib.hid (si.after al.drew)
          have gx := Lib.hid (si1.out.cell hx)
          have gy := Lib.hid (si1.out.cell hy)
          unfold numV at gx gy
          generalize szN K x = p1 at gx lx eZ
          generalize szN K y = p2 at gy ly eZ
          have eS : ((3 + (p1 : Int) + p2) < 1000000000 ∧ (q : Int) = 3 + (p1 : Int) + p2) ∨ (1000000000 ≤ 3 + (p1 : Int) + p2 ∧ (q : Int) = 1000000000) := by omega
          replace eS := Lib.hid eS
          replace hq := Lib.hid hq
          clear eZ al
          go_wp2_with (first | (refine wpList_known rfl (at_refNodes s1.out hkn rfl rfl rfl rfl _) ?_) | (refine wpList_known rfl (get_refNode s1.out hkn rfl rfl) ?_))
          refine wp_region_one (by kernel_rfl) (by kernel_rfl) ?_
          go_big_quiet_want; go_big_quiet_op; go_big_quiet_on
          go_big_quiet_want; go_big_quiet_op; go_big_quiet_on
          go_big_quiet_want; go_big_quiet_op; go_big_quiet_on
          refine wpQuiet_val (by rfl) _ (fun w' _ => at_ints si1.out hx rfl rfl rfl rfl w') ?_
          simp only [Act.put, List.setIfInBounds_toArray, List.set_cons_succ, List.set_cons_zero]
          refine wpQuiet_val (by rfl) _ (fun w' e => by subst e; exact get_int gx.out rfl rfl) ?_
          simp only [Act.put, List.setIfInBounds_toArray, List.set_cons_succ, List.set_cons_zero]
          go_big_quiet_want; go_big_quiet_op; go_big_quiet_on
          go_big_quiet_want; go_big_quiet_op; go_big_quiet_on
          go_big_quiet_want; go_big_quiet_op; go_big_quiet_on
          go_big_quiet_want; go_big_quiet_op; go_big_quiet_on
          refine wpQuiet_val (by rfl) _ (fun w' _ => at_ints si1.out hy rfl rfl rfl rfl w') ?_
          simp only [Act.put, List.setIfInBounds_toArray, List.set_cons_succ, List.set_cons_zero]
          refine wpQuiet_val (by rfl) _ (fun w' e => by subst e; exact get_int gy.out rfl rfl) ?_
          simp only [Act.put, List.setIfInBounds_toArray, List.set_cons_succ, List.set_cons_zero]
          go_big_quiet_want; go_big_quiet_op; go_big_quiet_on
          go_big_quiet_want; go_big_quiet_op; go_big_quiet_on
          refine wpQuiet_nil ?_
          replace b1 := b1.drew
          generalize World.drew _ = w2 at *
          go_wp2_with (first | (refine wpList_min2 rfl _ _ rfl rfl _ _ (q : Int) rfl rfl eS.out ?_) | (at_builtin; refine wpList_append_num rfl _ _ rfl w.heap.size _ k (szN K) (q : Int) hq'.out rfl w2 own1.out rfl rfl rfl (by omega) b1.size ?_; intro v3 w3 own3 g3 b3))
          have b4 := b1.trans b3.out
          go_roundw
          case rel => exact ⟨k + 1, by omega, by go_num, own3, b4⟩
          case measure => simp [intOf]; omega
        · have eZ := szN_lock hK.out hkn h0 hx hy e1 e2
          rw [← hq] at eZ
          have b1 := hb.alloc hb.size (.cells #[.int .i64 3, .int .i64 (x : Int), .int .i64 (y : Int)] 43)
          have al : Below wr.heap.size wr (wr.alloc (.cells #[.int .i64 3, .int .i64 (x : Int), .int .i64 (y : Int)] 43)) := (Below.refl _ _).alloc (Nat.le_refl _) _
          have own1 := Lib.hid (own_onto hown.out al.drew)
          have si1 := Lib.hid (si.after al.drew)
          have gx := Lib.hid (si1.out.cell hx)
          have gy := Lib.hid (si1.out.cell hy)
          unfold numV at gx gy
          generalize szN K x = p1 at gx lx eZ
          generalize szN K y = p2 at gy ly eZ
          have eS : ((2 + (p1 : Int) + p2) < 1000000000 ∧ (q : Int) = 2 + (p1 : Int) + p2) ∨ (1000000000 ≤ 2 + (p1 : Int) + p2 ∧ (q : Int) = 1000000000) := by omega
          replace eS := Lib.hid eS
          replace hq := Lib.hid hq
          clear eZ al
          go_wp2_with (first | (refine wpList_known rfl (at_refNodes s1.out hkn rfl rfl rfl rfl _) ?_) | (refine wpList_known rfl (get_refNode s1.out hkn rfl rfl) ?_))
          refine wp_region_one (by kernel_rfl) (by kernel_rfl) ?_
          go_big_quiet_want; go_big_quiet_op; go_big_quiet_on
          go_big_quiet_want; go_big_quiet_op; go_big_quiet_on
          go_big_quiet_want; go_big_quiet_op; go_big_quiet_on
          refine wpQuiet_val (by rfl) _ (fun w' _ => at_ints si1.out hx rfl rfl rfl rfl w') ?_
          simp only [Act.put, List.setIfInBounds_toArray, List.set_cons_succ, List.set_cons_zero]
          refine wpQuiet_val (by rfl) _ (fun w' e => by subst e; exact get_int gx.out rfl rfl) ?_
          simp only [Act.put, List.setIfInBounds_toArray, List.set_cons_succ, List.set_cons_zero]
          go_big_quiet_want; go_big_quiet_op; go_big_quiet_on
          go_big_quiet_want; go_big_quiet_op; go_big_quiet_on
          go_big_quiet_want; go_big_quiet_op; go_big_quiet_on
          go_big_quiet_want; go_big_quiet_op; go_big_quiet_on
          refine wpQuiet_val (by rfl) _ (fun w' _ => at_ints si1.out hy rfl rfl rfl rfl w') ?_
          simp only [Act.put, List.setIfInBounds_toArray, List.set_cons_succ, List.set_cons_zero]
          refine wpQuiet_val (by rfl) _ (fun w' e => by subst e; exact get_int gy.out rfl rfl) ?_
          simp only [Act.put, List.setIfInBounds_toArray, List.set_cons_succ, List.set_cons_zero]
          go_big_quiet_want; go_big_quiet_op; go_big_quiet_on
          go_big_quiet_want; go_big_quiet_op; go_big_quiet_on
          refine wpQuiet_nil ?_
          replace b1 := b1.drew
          generalize World.drew _ = w2 at *
          go_wp2_with (first | (refine wpList_min2 rfl _ _ rfl rfl _ _ (q : Int) rfl rfl eS.out ?_) | (at_builtin; refine wpList_append_num rfl _ _ rfl w.heap.size _ k (szN K) (q : Int) hq'.out rfl w2 own1.out rfl rfl rfl (by omega) b1.size ?_; intro v3 w3 own3 g3 b3))
          have b4 := b1.trans b3.out
          go_roundw
          case rel => exact ⟨k + 1, by omega, by go_num, own3, b4⟩
          case measure => simp [intOf]; omega
    · have lk : ¬ (k : Int) ≤ (i : Int) := by omega
      have ek : k = i + 1 := by omega
      subst ek
      obtain ⟨a0, c0, rfl, si, _, _, _⟩ := own_ints hown.out
      have hi1 : i < i + 1 := by omega
      have g := Lib.hid (si.cell hi1)
      unfold numV at g
      replace si := Lib.hid si
      clear hown
      go_wp2_with (first | (refine wpList_known rfl (at_ints si.out hi1 rfl rfl rfl rfl _) ?_) | (refine wpList_known rfl (get_int g.out rfl rfl) ?_))
      go_ret
      exact ⟨rfl, hb⟩

set_option maxRecDepth 8000 in
theorem refSize_any (K : Nds) (n : Nat) (i : Int) (a : Option Addr) (c : Nat) (w : World) (hs : Hid (SeesN w a n K)) :
    Calls Tryd.prog 14 #[.slice a n c, .int .i64 i] w fun e w' => e = .returned (.int .i64 ((sizeV K n i : Nat) : Int)) ∧ Below w.heap.size w w' := by
  cases hpl : placeB K n i
  · have H := place_any K n a c i w hs
    rw [hpl] at H
    rw [sizeV_no hpl]
    replace H := Lib.hid H
    clear hpl
    go_enter Tryd.func14, Tryd.ntmps14
    go_wp2_with fail
    refine H.out.mono ?_
    rintro e w1 ⟨rfl, hb⟩
    go_wp2
    go_ret
    exact ⟨rfl, hb⟩
  · obtain ⟨j, hj, rfl, _, _⟩ := place_yes hpl
    rw [sizeV_yes hpl]
    exact refSize_yes K n j hpl a c w hs

end Go.Proofs.YtlfgiggeeoegjaaDoor
