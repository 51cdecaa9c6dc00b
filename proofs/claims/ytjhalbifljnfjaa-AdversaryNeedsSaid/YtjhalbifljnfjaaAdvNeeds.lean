/-
  Contract: Needs.
-/
import Derived.Test.YtjhalbifljnfjaaAdvAtoms
namespace Go.Proofs.Ytjhalbifljnfjaa
open Go.RowKit
set_option linter.unusedVariables false

theorem sees_one (w : World) (z : Int) : SeesZ (w.alloc (.cells #[.int .i64 z] 3)) (some ⟨w.heap.size, 0, none⟩) 1 (fun _ => z) := by
  intro m hm
  have : m = 0 := by omega
  subst this
  refine ⟨_, rfl, by simp, ?_⟩
  rw [addr_add, Nat.zero_add, cell_of_row _ _ 0 _ _ (0, 0) (RowAt.new w 3 #[.int .i64 z])]
  rfl

set_option maxHeartbeats 4000000 in
set_option maxRecDepth 8000 in
theorem advNeeds_yes (K : Nds) (n : Nat) (a ak : Option Addr) (c k ck : Nat) (hc : n ≤ c) (hk : k ≤ 1000000) (f : Nat → Int) (z : Nat) (hz : z < n) (hm : mayB K n = true) (hkz : knB K n (inZ f k) z = false) (w : World) (hs : Hid (SeesN w a n K)) (hf : Hid (SeesZ w ak k f)) :
    Calls Try.prog 19 #[.slice a n c, .slice ak k ck, .int .i64 (z : Int)] w fun e w' => ∃ v, e = .returned v ∧ Hid (w'.ownsRow w.heap.size 3 1 v (riseL (needL K n (inZ f k) z n)).length (zCells (riseL (needL K n (inZ f k) z n)))) ∧ Below w.heap.size w w' := by
  have M := Lib.hid (mindOf_yes K n a ak c k ck hc hk f hm w hs hf)
  obtain ⟨hn, hK⟩ := (mayB_iff K n).1 hm
  have hXz : Hid (mindX K n f k (atN K z) = false) := (know_at hK f k hz).trans hkz
  have hMo : Hid (∀ j, j < n → clB (onceN K) (cnt K n) (markZ (atN K) n (fun _ => (j : Int)) (mindX K n f k) 1) (atN K z) = knB K n (fun q => inZ f k q ∨ q = j) z) := fun j hj => know_more hK f k hj hz
  have hP := Lib.hid (once_parts hK)
  have hiz : Hid (inB n (z : Int) = true) := by unfold Hid inB; simp; omega
  have hcn := cnt_le K n
  clear hm hK hkz
  generalize inZ f k = S0 at *
  generalize hZ : mindX K n f k = Z at *
  clear hZ
  go_enter Try.func19, Try.ntmps19
  go_wp2_with fail
  refine M.out.mono ?_
  rintro e w1 ⟨aT, cT, aA, cA, p, c1, rfl, hM, hb1⟩
  have al : Below w1.heap.size w1 (w1.alloc (.cells #[.slice aT (cnt K n) cT, .slice aA n cA, .slice (some ⟨p, 0, none⟩) (cnt K n) c1] 52)) := (Below.refl _ _).alloc (Nat.le_refl _) _
  have b2 := hb1.trans (al.mono hb1.size)
  have hM2 := Lib.hid (hM.out.after al)
  have r2 := Lib.hid (RowAt.new w1 52 #[.slice aT (cnt K n) cT, .slice aA n cA, .slice (some ⟨p, 0, none⟩) (cnt K n) c1])
  have H := hasPlace_any aT aA (some ⟨p, 0, none⟩) (cnt K n) cT n cA (cnt K n) c1 (z : Int) (w1.alloc (.cells #[.slice aT (cnt K n) cT, .slice aA n cA, .slice (some ⟨p, 0, none⟩) (cnt K n) c1] 52))
  rw [hiz.out] at H
  replace H := Lib.hid H
  clear M hM al hb1
  go_wp2_with (first | (refine wpList_wload_row rfl 52 _ rfl w1.heap.size rfl 52 #[.slice aT (cnt K n) cT, .slice aA n cA, .slice (some ⟨p, 0, none⟩) (cnt K n) c1] _ r2.out Try.underlying52 rfl sz_mind ?_))
  refine H.out.mono ?_
  rintro e w3 ⟨rfl, hb3⟩
  have b3 := b2.trans (hb3.mono b2.size)
  have r3 := Lib.hid (r2.out.below hb3 r2.out.lt)
  have hM3 := Lib.hid (hM2.out.after hb3)
  have C := can_any aT aA (cnt K n) cT n cA p c1 (atN K) Z (z : Int) (fun j hj => atN_lt hj) w3 hM3.out.2.2.1 hM3.out.2.2.2
  rw [hiz.out, Int.toNat_natCast, hXz.out, Bool.true_and] at C
  replace C := Lib.hid C
  clear H hb3 b2 hM2 r2
  generalize w1.heap.size = q at *
  go_wp2_with (first | (refine wpList_wload_row rfl 52 _ rfl q rfl 52 #[.slice aT (cnt K n) cT, .slice aA n cA, .slice (some ⟨p, 0, none⟩) (cnt K n) c1] _ r3.out Try.underlying52 rfl sz_mind ?_))
  refine C.out.mono ?_
  rintro e w4 ⟨rfl, hb4⟩
  have b4 := b3.trans (hb4.mono b3.size)
  have r4 := Lib.hid (r3.out.below hb4 r3.out.lt)
  have hM4 := Lib.hid (hM3.out.after hb4)
  have s4 := Lib.hid (hs.out.after b4)
  have hql : Hid (w.heap.size ≤ w4.heap.size) := b4.size
  clear C hb4 b3 hM3 r3
  go_wp2
  go_loopw [8, 25] (fun v c wr => ∃ j : Nat, j ≤ n ∧ c = .int .i64 (j : Int) ∧ Hid (wr.ownsRow w4.heap.size 3 1 v (needL K n S0 z j).length (zCells (needL K n S0 z j))) ∧ Below w4.heap.size w4 wr) (fun _ c _ => n - (intOf c).toNat)
  case atStart => exact ⟨0, Nat.zero_le _, rfl, World.ownsRow_nil _ _ _ _, Below.refl _ _⟩
  case round =>
    obtain ⟨j, hj, rfl, hown, hb⟩ := hrel
    by_cases hlt : j < n
    · have lj : (j : Int) < (n : Int) := by omega
      have s5 := Lib.hid (s4.out.after hb)
      have hll := selL_length (fun i => (K i 0 == 1) && knB K n (fun q => S0 q ∨ q = i) z) (fun i => K i 1) j
      have el : Hid (∀ b, ((K j 0 == 1) && knB K n (fun q => S0 q ∨ q = j) z) = b → needL K n S0 z (j + 1) = needL K n S0 z j ++ (if b = true then [K j 1] else [])) := by
        intro b e
        subst e
        rfl
      have hll2 : (needL K n S0 z j).length ≤ 1000000 := by unfold needL; omega
      clear hll
      generalize hLj : needL K n S0 z j = L at *
      clear hLj
      have al : Below wr.heap.size wr (wr.alloc (.cells #[.int .i64 (K j 0), .int .i64 (K j 1), .int .i64 (K j 2)] 42)) := (Below.refl _ _).alloc (Nat.le_refl _) _
      have b5 := hb.trans (al.mono hb.size)
      have own5 := Lib.hid (own_onto hown.out al)
      have x5 := Lib.hid (RowAt.new wr 42 #[.int .i64 (K j 0), .int .i64 (K j 1), .int .i64 (K j 2)])
      have r5 := Lib.hid (r4.out.below b5 r4.out.lt)
      have hM5 := Lib.hid (hM4.out.after b5)
      clear al hown hb
      cases hop : (K j 0 == 1)
      · rw [hop] at el
        have el2 := Lib.hid (el.out false rfl)
        clear el
        go_wp2_with (first | (refine wpList_known rfl (at_nodes s5.out hlt rfl rfl rfl rfl _) ?_) | (refine wpList_known rfl (get_node s5.out hlt rfl rfl) ?_))
        go_roundw
        case rel => exact ⟨j + 1, by omega, by go_num, by rw [el2.out]; simpa using own5, b5⟩
        case measure => simp [intOf]; omega
      · rw [hop, Bool.true_and] at el
        have T := told_any (onceN K) (atN K) aT aA (some ⟨(wr.alloc (.cells #[.int .i64 (K j 0), .int .i64 (K j 1), .int .i64 (K j 2)] 42)).heap.size, 0, none⟩) (cnt K n) cT n cA p c1 1 1 Z (fun _ => (j : Int)) hP (by omega) (by omega) (fun j hj => atN_lt hj) ((wr.alloc (.cells #[.int .i64 (K j 0), .int .i64 (K j 1), .int .i64 (K j 2)] 42)).alloc (.cells #[.int .i64 (j : Int)] 3))
          (hM5.out.after ((Below.refl _ _).alloc (Nat.le_refl _) _)).1 (hM5.out.after ((Below.refl _ _).alloc (Nat.le_refl _) _)).2.1 (hM5.out.after ((Below.refl _ _).alloc (Nat.le_refl _) _)).2.2.1 (hM5.out.after ((Below.refl _ _).alloc (Nat.le_refl _) _)).2.2.2 (sees_one _ _)
        rw [World.size_alloc] at T
        replace T := Lib.hid T
        go_wp2_with (first | (refine wpList_known rfl (at_nodes s5.out hlt rfl rfl rfl rfl _) ?_) | (refine wpList_known rfl (get_node s5.out hlt rfl rfl) ?_) | (refine wpList_wload_row rfl 52 _ rfl q rfl 52 #[.slice aT (cnt K n) cT, .slice aA n cA, .slice (some ⟨p, 0, none⟩) (cnt K n) c1] _ r5.out Try.underlying52 rfl sz_mind ?_))
        refine T.out.mono ?_
        rintro e w6 ⟨p6, c6, rfl, hB6, _, hb6⟩
        have al2 := (Below.refl (wr.alloc (.cells #[.int .i64 (K j 0), .int .i64 (K j 1), .int .i64 (K j 2)] 42)).heap.size (wr.alloc (.cells #[.int .i64 (K j 0), .int .i64 (K j 1), .int .i64 (K j 2)] 42))).alloc (Nat.le_refl _) (.cells #[.int .i64 (j : Int)] 3)
        have a6 := al2.trans (hb6.mono al2.size)
        have b6 := b5.trans (a6.mono b5.size)
        have own6 := Lib.hid (own_onto own5.out a6)
        have x6 := Lib.hid (x5.out.below a6 x5.out.lt)
        have hM6 := Lib.hid (hM5.out.after a6)
        clear T hb6 al2 a6 b5 own5 x5 hM5 s5 r5
        have C := can_any aT aA (cnt K n) cT n cA p6 c6 (atN K) (clB (onceN K) (cnt K n) (markZ (atN K) n (fun _ => (j : Int)) Z 1)) (z : Int) (fun j hj => atN_lt hj) w6 hM6.out.2.2.1 hB6.out.sees
        rw [hiz.out, Int.toNat_natCast, hMo.out j hlt, Bool.true_and] at C
        clear hM6 hB6
        generalize wr.heap.size = y at *
        cases hkb : knB K n (fun q => S0 q ∨ q = j) z
        · rw [hkb] at C el
          have el2 := Lib.hid (el.out false rfl)
          replace C := Lib.hid C
          clear el hkb
          go_wp2_with fail
          refine C.out.mono ?_
          rintro e w7 ⟨rfl, hb7⟩
          have own7 := Lib.hid (own_onto own6.out hb7)
          have b7 := b6.trans (hb7.mono b6.size)
          clear C hb7 b6 own6 x6
          go_wp2
          go_roundw
          case rel => exact ⟨j + 1, by omega, by go_num, by rw [el2.out]; simpa using own7, b7⟩
          case measure => simp [intOf]; omega
        · rw [hkb] at C el
          have el2 := Lib.hid (el.out true rfl)
          replace C := Lib.hid C
          clear el hkb
          go_wp2_with fail
          refine C.out.mono ?_
          rintro e w7 ⟨rfl, hb7⟩
          have own7 := Lib.hid (own_onto own6.out hb7)
          have b7 := b6.trans (hb7.mono b6.size)
          have x7 := Lib.hid (x6.out.below hb7 x6.out.lt)
          clear C hb7 b6 own6 x6
          go_wp2_with (first | (refine wpList_wknown rfl (get_cell x7.out rfl rfl Try.underlying3 rfl rfl) ?_) | (at_builtin; refine wpList_append_z rfl _ _ rfl w4.heap.size _ L _ rfl w7 own7.out rfl rfl rfl hll2 b7.size ?_; intro v9 w9 own9 g9 b9))
          have b10 := b7.trans b9.out
          go_roundw
          case rel => exact ⟨j + 1, by omega, by go_num, by rw [el2.out]; exact own9, b10⟩
          case measure => simp [intOf]; omega
    · have lj : ¬ (j : Int) < (n : Int) := by omega
      obtain rfl : j = n := by omega
      have hll := selL_length (fun i => (K i 0 == 1) && knB K j (fun q => S0 q ∨ q = i) z) (fun i => K i 1) j
      have R := Lib.hid (rising_any w4.heap.size (needL K j S0 z j) (by unfold needL; omega) _ wr hown hb.size)
      clear hll hown
      go_wp2_with fail
      refine R.out.mono ?_
      rintro e w5 ⟨v5, rfl, own5, hb5⟩
      have own9 := Lib.hid (own_from own5.out hql.out)
      have b10 := b4.trans ((hb.trans hb5).mono hql.out)
      clear R own5 hb5 hb
      go_wp2
      go_ret
      exact ⟨_, rfl, own9, b10⟩

theorem advNeeds_any (K : Nds) (n : Nat) (a ak : Option Addr) (c k ck : Nat) (hc : n ≤ c) (hk : k ≤ 1000000) (f : Nat → Int) (z : Int) (w : World) (hs : Hid (SeesN w a n K)) (hf : Hid (SeesZ w ak k f)) :
    Calls Try.prog 19 #[.slice a n c, .slice ak k ck, .int .i64 z] w fun e w' => ∃ v, e = .returned v ∧ Hid (w'.ownsRow w.heap.size 3 1 v (needsL K n (inZ f k) z).length (zCells (needsL K n (inZ f k) z))) ∧ Below w.heap.size w w' := by
  unfold needsL
  cases hm : mayB K n
  · rw [if_neg (by simp)]
    exact advNeeds_no K n a ak c k ck hc z hm w hs
  · cases hi : inB n z
    · rw [if_neg (by simp)]
      exact advNeeds_early K n a ak c k ck hc hk f z hm (by rw [hi]; rfl) w hs hf
    · obtain ⟨i, hi', rfl⟩ := inB_nat hi
      rw [Int.toNat_natCast]
      cases hkb : knB K n (inZ f k) i
      · rw [if_pos ⟨rfl, rfl, rfl⟩]
        exact advNeeds_yes K n a ak c k ck hc hk f i hi' hm hkb w hs hf
      · rw [if_neg (by simp)]
        exact advNeeds_early K n a ak c k ck hc hk f i hm (by rw [hi, Int.toNat_natCast, hkb]; rfl) w hs hf

end Go.Proofs.Ytjhalbifljnfjaa
