/-
  Contracts: sizes, Size.
-/
import Derived.Test.YtlfgiggeeoegjaaDoorTermApp
import Derived.Test.YtlfgiggeeoegjaaDoorTermMay
import Derived.Test.YtlfgiggeeoegjaaDoorTermShelf
namespace Go.Proofs.YtlfgiggeeoegjaaDoor
open Go.RowKit
set_option linter.unusedVariables false

/-- The sizes, place by place. -/
def szN (K : Nds) : Nat → Nat := fun j => szT (tm K j)

theorem szN_leaf {K : Nds} {n : Nat} (h : Wf K n) {i : Nat} (hi : i < n) (h0 : K i 0 = 0 ∨ K i 0 = 1) {x : Nat} (hx : K i 1 = x) : szN K i = min (1 + (Lib.decDigits x).length) 1000000000 := by
  unfold szN szT
  rcases h0 with h0 | h0
  · rw [tm_atom h hi h0 hx, lnT_atom]
  · rw [tm_key h hi h0 hx, lnT_key]
theorem szN_pair {K : Nds} {n : Nat} (h : Wf K n) {i : Nat} (hi : i < n) (h0 : K i 0 = 2) {x y : Nat} (hx : x < i) (hy : y < i) (e1 : K i 1 = x) (e2 : K i 2 = y) : szN K i = min (3 + szN K x + szN K y) 1000000000 := by
  unfold szN
  rw [tm_pair h hi h0 hx hy e1 e2, szT_pair]
theorem szN_lock {K : Nds} {n : Nat} (h : Wf K n) {i : Nat} (hi : i < n) (h0 : K i 0 = 3) {x y : Nat} (hx : x < i) (hy : y < i) (e1 : K i 1 = x) (e2 : K i 2 = y) : szN K i = min (2 + szN K x + szN K y) 1000000000 := by
  unfold szN
  rw [tm_lock h hi h0 hx hy e1 e2, szT_lock]
theorem szN_le (K : Nds) (i : Nat) : szN K i ≤ 1000000000 := szT_le _

theorem min_cases {n : Nat} {m y : Nat} (h : y = min n m) : ((n : Int) < (m : Int) ∧ (y : Int) = n) ∨ ((m : Int) ≤ (n : Int) ∧ (y : Int) = m) := by omega

set_option maxHeartbeats 2000000 in
set_option maxRecDepth 8000 in
theorem sizes_any (K : Nds) (n : Nat) (hn : n ≤ 200) (hK : Hid (Wf K n)) (a : Option Addr) (c : Nat) (w : World) (hs : Hid (SeesN w a n K)) (hp : Hid (PTab w.heap.size w)) :
    Calls Tryd.prog 25 #[.slice a n c] w fun e w' => ∃ v, e = .returned v ∧ Hid (w'.ownsRow w.heap.size 3 1 v n (cellL n (numV (szN K)))) ∧ Below w.heap.size w w' := by
  go_enter Tryd.func25, Tryd.ntmps25
  go_wp2
  go_loopw [3, 9] (fun v c wr => ∃ k : Nat, k ≤ n ∧ c = .int .i64 k ∧ Hid (wr.ownsRow w.heap.size 3 1 v k (cellL k (numV (szN K)))) ∧ Below w.heap.size w wr) (fun _ c _ => n - (intOf c).toNat)
  case atStart => exact ⟨0, Nat.zero_le _, rfl, World.ownsRow_nil _ _ _ _, Below.refl _ _⟩
  case round =>
    obtain ⟨k, hk, rfl, hown, hb⟩ := hrel
    by_cases hlt : k < n
    · have lk : (k : Int) < (n : Int) := by omega
      have s1 := Lib.hid (hs.out.after hb)
      rcases hK.out.kinds hlt with ⟨h0, ⟨x, hx, e1⟩, e2⟩ | ⟨h0, x, y, hx, hy, e1, e2⟩
      · have o2 : ((K k 0 : Int) == 2) = false := beq_ff (by omega)
        have o3 : ((K k 0 : Int) == 3) = false := beq_ff (by omega)
        have b1 := hb.alloc hb.size (.cells #[.int .i64 (K k 0), .int .i64 (x : Int), .int .i64 0] 41)
        have own1 := Lib.hid (hown.out.alloc (.cells #[.int .i64 (K k 0), .int .i64 (x : Int), .int .i64 0] 41))
        have I := Lib.hid (itoa_any x hx _ ((hp.out.on b1).mono b1.size))
        have dl := digits_six hx
        have eZ := szN_leaf hK.out hlt h0 e1
        have dz : (bs (Lib.decDigits x)).size = (Lib.decDigits x).length := by simp [bs, ByteArray.size]
        generalize (Lib.decDigits x).length = d at dl eZ dz
        generalize bs (Lib.decDigits x) = sx at I dz
        obtain ⟨q, hq⟩ : ∃ q, q = szN K k := ⟨_, rfl⟩
        rw [← hq] at eZ
        have eS : ((1 + (d : Int)) < 1000000000 ∧ (q : Int) = 1 + d) ∨ (1000000000 ≤ 1 + (d : Int) ∧ (q : Int) = 1000000000) := by omega
        replace eS := Lib.hid eS
        replace hq := Lib.hid hq
        clear eZ
        go_wp2_with (first | (refine wpList_known rfl (at_nodes s1.out hlt rfl rfl rfl rfl _) ?_) | (refine wpList_known rfl (get_node s1.out hlt rfl rfl) ?_))
        refine I.out.mono ?_
        rintro e w2 ⟨rfl, hb2⟩
        have own2 := Lib.hid (own_onto own1.out hb2)
        have b2 := b1.trans (hb2.mono b1.size)
        clear I hb2 own1 b1
        have hq' : (q : Int) = ((szN K k : Nat) : Int) := by rw [hq.out]
        replace hq' := Lib.hid hq'
        go_wp2_with (first | (refine wpList_min2 rfl _ _ rfl rfl _ _ (q : Int) rfl rfl eS.out ?_) | (at_builtin; refine wpList_append_num rfl _ _ rfl w.heap.size _ k (szN K) (q : Int) hq'.out rfl w2 own2.out rfl rfl rfl (by omega) b2.size ?_; intro v3 w3 own3 g3 b3))
        have b4 := b2.trans b3.out
        go_roundw
        case rel => exact ⟨k + 1, by omega, by go_num, own3, b4⟩
        case measure => simp [intOf]; omega
      · obtain ⟨a0, c0, rfl, si, _, _, hbl⟩ := own_ints hown.out
        obtain ⟨q, hq⟩ : ∃ q, q = szN K k := ⟨_, rfl⟩
        have lx := szN_le K x
        have ly := szN_le K y
        have hq' : (q : Int) = ((szN K k : Nat) : Int) := by rw [hq]
        replace hq' := Lib.hid hq'
        rcases h0 with h0 | h0
        · have eZ := szN_pair hK.out hlt h0 hx hy e1 e2
          rw [← hq] at eZ
          have b1 := hb.alloc hb.size (.cells #[.int .i64 2, .int .i64 (x : Int), .int .i64 (y : Int)] 41)
          have al : Below wr.heap.size wr (wr.alloc (.cells #[.int .i64 2, .int .i64 (x : Int), .int .i64 (y : Int)] 41)) := (Below.refl _ _).alloc (Nat.le_refl _) _
          have own1 := Lib.hid (own_onto hown.out al.drew)
          have si1 := Lib.hid (si.after al.drew)
          have gx := Lib.hid (si1.out.cell hx)
          have gy := Lib.hid (si1.out.cell hy)
          unfold numV at gx gy
          generalize szN K x = p1 at gx lx eZ
          generalize szN K y = p2 at gy ly eZ
          have eS : ((3 + (p1 : Int) + p2) < 1000000000 ∧ (q : Int) = 3 + (p1 : Int) + p2) ∨ (1000000000 ≤ 3 + (p1 : Int) + p2 ∧ (q : Int) = 1000000000) := by omega
          replace eS := Lib.hid eS
          replace hq := Lib.hid hq
          clear eZ al
          go_wp2_with (first | (refine wpList_known rfl (at_nodes s1.out hlt rfl rfl rfl rfl _) ?_) | (refine wpList_known rfl (get_node s1.out hlt rfl rfl) ?_))
          refine wp_region_one (by kernel_rfl) (by kernel_rfl) ?_
          go_big_quiet_want; go_big_quiet_op; go_big_quiet_on
          go_big_quiet_want; go_big_quiet_op; go_big_quiet_on
          go_big_quiet_want; go_big_quiet_op; go_big_quiet_on
          refine wpQuiet_val (by rfl) _ (fun w' _ => at_ints si1.out hx rfl rfl rfl rfl w') ?_
          simp only [Act.put, List.setIfInBounds_toArray, List.set_cons_succ, List.set_cons_zero]
          refine wpQuiet_val (by rfl) _ (fun w' e => by subst e; exact get_int gx.out rfl rfl) ?_
          simp only [Act.put, List.setIfInBounds_toArray, List.set_cons_succ, List.set_cons_zero]
          go_big_quiet_want; go_big_quiet_op; go_big_quiet_on
          go_big_quiet_want; go_big_quiet_op; go_big_quiet_on
          go_big_quiet_want; go_big_quiet_op; go_big_quiet_on
          go_big_quiet_want; go_big_quiet_op; go_big_quiet_on
          refine wpQuiet_val (by rfl) _ (fun w' _ => at_ints si1.out hy rfl rfl rfl rfl w') ?_
          simp only [Act.put, List.setIfInBounds_toArray, List.set_cons_succ, List.set_cons_zero]
          refine wpQuiet_val (by rfl) _ (fun w' e => by subst e; exact get_int gy.out rfl rfl) ?_
          simp only [Act.put, List.setIfInBounds_toArray, List.set_cons_succ, List.set_cons_zero]
          go_big_quiet_want; go_big_quiet_op; go_big_quiet_on
          go_big_quiet_want; go_big_quiet_op; go_big_quiet_on
          refine wpQuiet_nil ?_
          replace b1 := b1.drew
          generalize World.drew _ = w2 at *
          go_wp2_with (first | (refine wpList_min2 rfl _ _ rfl rfl _ _ (q : Int) rfl rfl eS.out ?_) | (at_builtin; refine wpList_append_num rfl _ _ rfl w.heap.size _ k (szN K) (q : Int) hq'.out rfl w2 own1.out rfl rfl rfl (by omega) b1.size ?_; intro v3 w3 own3 g3 b3))
          have b4 := b1.trans b3.out
          go_roundw
          case rel => exact ⟨k + 1, by omega, by go_num, own3, b4⟩
          case measure => simp [intOf]; omega
        · have eZ := szN_lock hK.out hlt h0 hx hy e1 e2
          rw [← hq] at eZ
          have b1 := hb.alloc hb.size (.cells #[.int .i64 3, .int .i64 (x : Int), .int .i64 (y : Int)] 41)
          have al : Below wr.heap.size wr (wr.alloc (.cells #[.int .i64 3, .int .i64 (x : Int), .int .i64 (y : Int)] 41)) := (Below.refl _ _).alloc (Nat.le_refl _) _
          have own1 := Lib.hid (own_onto hown.out al.drew)
          have si1 := Lib.hid (si.after al.drew)
          have gx := Lib.hid (si1.out.cell hx)
          have gy := Lib.hid (si1.out.cell hy)
          unfold numV at gx gy
          generalize szN K x = p1 at gx lx eZ
          generalize szN K y = p2 at gy ly eZ
          have eS : ((2 + (p1 : Int) + p2) < 1000000000 ∧ (q : Int) = 2 + (p1 : Int) + p2) ∨ (1000000000 ≤ 2 + (p1 : Int) + p2 ∧ (q : Int) = 1000000000) := by omega
          replace eS := Lib.hid eS
          replace hq := Lib.hid hq
          clear eZ al
          go_wp2_with (first | (refine wpList_known rfl (at_nodes s1.out hlt rfl rfl rfl rfl _) ?_) | (refine wpList_known rfl (get_node s1.out hlt rfl rfl) ?_))
          refine wp_region_one (by kernel_rfl) (by kernel_rfl) ?_
          go_big_quiet_want; go_big_quiet_op; go_big_quiet_on
          go_big_quiet_want; go_big_quiet_op; go_big_quiet_on
          go_big_quiet_want; go_big_quiet_op; go_big_quiet_on
          refine wpQuiet_val (by rfl) _ (fun w' _ => at_ints si1.out hx rfl rfl rfl rfl w') ?_
          simp only [Act.put, List.setIfInBounds_toArray, List.set_cons_succ, List.set_cons_zero]
          refine wpQuiet_val (by rfl) _ (fun w' e => by subst e; exact get_int gx.out rfl rfl) ?_
          simp only [Act.put, List.setIfInBounds_toArray, List.set_cons_succ, List.set_cons_zero]
          go_big_quiet_want; go_big_quiet_op; go_big_quiet_on
          go_big_quiet_want; go_big_quiet_op; go_big_quiet_on
          go_big_quiet_want; go_big_quiet_op; go_big_quiet_on
          go_big_quiet_want; go_big_quiet_op; go_big_quiet_on
          refine wpQuiet_val (by rfl) _ (fun w' _ => at_ints si1.out hy rfl rfl rfl rfl w') ?_
          simp only [Act.put, List.setIfInBounds_toArray, List.set_cons_succ, List.set_cons_zero]
          refine wpQuiet_val (by rfl) _ (fun w' e => by subst e; exact get_int gy.out rfl rfl) ?_
          simp only [Act.put, List.setIfInBounds_toArray, List.set_cons_succ, List.set_cons_zero]
          go_big_quiet_want; go_big_quiet_op; go_big_quiet_on
          go_big_quiet_want; go_big_quiet_op; go_big_quiet_on
          refine wpQuiet_nil ?_
          replace b1 := b1.drew
          generalize World.drew _ = w2 at *
          go_wp2_with (first | (refine wpList_min2 rfl _ _ rfl rfl _ _ (q : Int) rfl rfl eS.out ?_) | (at_builtin; refine wpList_append_num rfl _ _ rfl w.heap.size _ k (szN K) (q : Int) hq'.out rfl w2 own1.out rfl rfl rfl (by omega) b1.size ?_; intro v3 w3 own3 g3 b3))
          have b4 := b1.trans b3.out
          go_roundw
          case rel => exact ⟨k + 1, by omega, by go_num, own3, b4⟩
          case measure => simp [intOf]; omega
    · have lk : ¬ (k : Int) < (n : Int) := by omega
      have ek : k = n := by omega
      subst ek
      go_wp2
      go_ret
      exact ⟨_, rfl, hown, hb⟩

/-- The size that is told of place i. -/
def sizeV (K : Nds) (n : Nat) (i : Int) : Nat := if placeB K n i = true then szN K i.toNat else 0

theorem place_yes {K : Nds} {n : Nat} {i : Int} (h : placeB K n i = true) : ∃ j : Nat, j < n ∧ i = j ∧ n ≤ 200 ∧ Wf K n := by
  unfold placeB at h
  simp at h
  obtain ⟨h1, h2⟩ := (mayB_iff K n).1 h.2
  exact ⟨i.toNat, by omega, by omega, h1, h2⟩
theorem sizeV_yes {K : Nds} {n j : Nat} (h : placeB K n (j : Int) = true) : sizeV K n j = szN K j := by unfold sizeV; rw [if_pos h, Int.toNat_natCast]
theorem sizeV_no {K : Nds} {n : Nat} {i : Int} (h : placeB K n i = false) : sizeV K n i = 0 := by unfold sizeV; rw [h]; rfl

set_option maxHeartbeats 2000000 in
set_option maxRecDepth 8000 in
theorem size_any (K : Nds) (n : Nat) (i : Int) (a : Option Addr) (c : Nat) (hc : n ≤ c) (w : World) (hs : Hid (SeesN w a n K)) (hp : Hid (PTab w.heap.size w)) :
    Calls Tryd.prog 13 #[.slice a n c, .int .i64 i] w fun e w' => e = .returned (.int .i64 ((sizeV K n i : Nat) : Int)) ∧ Below w.heap.size w w' := by
  have H := hasTerm_any K n a c hc i w hs
  cases hpl : placeB K n i
  · rw [hpl] at H
    rw [sizeV_no hpl]
    replace H := Lib.hid H
    clear hpl
    go_enter Tryd.func13, Tryd.ntmps13
    go_wp2_with fail
    refine H.out.mono ?_
    rintro e w1 ⟨rfl, hb⟩
    go_wp2
    go_ret
    exact ⟨rfl, hb⟩
  · rw [hpl] at H
    obtain ⟨j, hj, rfl, hn, hK⟩ := place_yes hpl
    rw [sizeV_yes hpl]
    replace H := Lib.hid H
    replace hK := Lib.hid hK
    clear hpl
    have hjc : j + 1 ≤ c := by omega
    have hj1 : j < j + 1 := by omega
    go_enter Tryd.func13, Tryd.ntmps13
    go_wp2_with fail
    refine H.out.mono ?_
    rintro e w1 ⟨rfl, hb⟩
    have Z := Lib.hid (sizes_any K (j + 1) (by omega) (hK.out.take (by omega)) a c w1 ((hs.out.after hb).take (by omega)) (hp.out.after hb))
    clear H
    go_wp2_with (first | (refine wpList_known rfl (head_nodes hjc rfl rfl rfl (by first | rfl | omega) _) ?_))
    refine Z.out.mono ?_
    rintro e w2 ⟨v, rfl, hown, hb2⟩
    obtain ⟨a0, c0, rfl, si, _, _, _⟩ := own_ints hown.out
    have g := Lib.hid (si.cell hj1)
    unfold numV at g
    have b2 := hb.trans (hb2.mono hb.size)
    replace si := Lib.hid si
    clear Z hown hb hb2
    go_wp2_with (first | (refine wpList_known rfl (at_ints si.out hj1 rfl rfl rfl rfl _) ?_) | (refine wpList_known rfl (get_int g.out rfl rfl) ?_))
    go_ret
    exact ⟨rfl, b2⟩

end Go.Proofs.YtlfgiggeeoegjaaDoor
