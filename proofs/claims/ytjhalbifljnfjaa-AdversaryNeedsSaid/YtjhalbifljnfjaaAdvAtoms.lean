/-
  Contracts: Atoms, Needs.
-/
import Derived.Test.YtjhalbifljnfjaaAdvMind
import Derived.Test.YtjhalbifljnfjaaAdvShelf
import Derived.Test.YtjhalbifljnfjaaAdvStep
namespace Go.Proofs.Ytjhalbifljnfjaa
open Go.RowKit
set_option linter.unusedVariables false

/-- Numbers of the places that are chosen, among the first j. -/
def selL (P : Nat → Bool) (A : Nat → Int) : Nat → List Int
  | 0 => []
  | j + 1 => selL P A j ++ (if P j = true then [A j] else [])
theorem selL_yes {P : Nat → Bool} {A : Nat → Int} {j : Nat} (h : P j = true) : selL P A (j + 1) = selL P A j ++ [A j] := by
  show selL P A j ++ _ = _
  rw [if_pos h]
theorem selL_no {P : Nat → Bool} {A : Nat → Int} {j : Nat} (h : P j = false) : selL P A (j + 1) = selL P A j := by
  show selL P A j ++ _ = _
  rw [if_neg (by rw [h]; simp), List.append_nil]
theorem selL_length (P : Nat → Bool) (A : Nat → Int) : ∀ j, (selL P A j).length ≤ j
  | 0 => Nat.le_refl _
  | j + 1 => by
    have := selL_length P A j
    cases h : P j
    · rw [selL_no h]; omega
    · rw [selL_yes h]; simp; omega
theorem selL_mem (P : Nat → Bool) (A : Nat → Int) (x : Int) : ∀ j, x ∈ selL P A j ↔ ∃ i, i < j ∧ P i = true ∧ A i = x
  | 0 => by simp [selL]
  | j + 1 => by
    have ih := selL_mem P A x j
    cases h : P j
    · rw [selL_no h, ih]
      constructor
      · rintro ⟨i, hi, hp, e⟩
        exact ⟨i, by omega, hp, e⟩
      · rintro ⟨i, hi, hp, e⟩
        by_cases e2 : i = j
        · subst e2; rw [h] at hp; cases hp
        · exact ⟨i, by omega, hp, e⟩
    · rw [selL_yes h, List.mem_append, ih, List.mem_singleton]
      constructor
      · rintro (⟨i, hi, hp, e⟩ | e)
        · exact ⟨i, by omega, hp, e⟩
        · exact ⟨j, by omega, h, e.symm⟩
      · rintro ⟨i, hi, hp, e⟩
        by_cases e2 : i = j
        · subst e2; exact .inr e.symm
        · exact .inl ⟨i, by omega, hp, e⟩
theorem selL_congr {P Q : Nat → Bool} {A : Nat → Int} : ∀ j, (∀ i, i < j → P i = Q i) → selL P A j = selL Q A j
  | 0, _ => rfl
  | j + 1, h => by
    show selL P A j ++ _ = selL Q A j ++ _
    rw [selL_congr j fun i hi => h i (by omega), h j (by omega)]

theorem zCells_snoc (l : List Int) (z : Int) : zCells l ++ [.int .i64 z] = zCells (l ++ [z]) := by unfold zCells; rw [List.map_append]; rfl
/-- A number appended. -/
theorem wpList_append_z {ops : Array Oper} {rest : List Oper} {o : Oper} {a : Act} {w : World} {Q : Exit → Act → World → Prop} (hgd : o.guard = none) (s x : Operand)
    (ho : o.op = .call { callee := .builtin .append, args := #[s, x], argTypes := #[23, 23] }) (base : Nat) (v : Value) (l : List Int) (z : Int) (hs : a.eval s = v) (w0 : World) (hown : w0.ownsRow base 3 1 v l.length (zCells l))
    (hw : w = w0.alloc (.cells #[.int .i64 z] 3)) {g : Nat} (hx : a.eval x = .slice (some ⟨g, 0, none⟩) 1 1) (hgs : g = w0.heap.size) (hn : l.length ≤ 1000000) (hbase : base ≤ w0.heap.size)
    (h : ∀ v' w', Hid (w'.ownsRow base 3 1 v' (l ++ [z]).length (zCells (l ++ [z]))) → Hid (w0.grownBy w' v.ownBlock) → Hid (Below base w0 w') → wpList Try.prog ops Q rest (a.put o.dst v') w') : wpList Try.prog ops Q (o :: rest) a w := by
  refine wpList_append_cs Try.underlying23 Try.infoInt rfl (by decide) (by decide) hgd s x ho base v l.length _ [.int .i64 z] hs w0 hown hw hx hgs rfl (fun u hu => by simp at hu; subst hu; rfl) hn hbase ?_
  intro v' w' h1
  rw [zCells_snoc] at h1
  have e : (l ++ [z]).length = l.length + 1 := by simp
  rw [← e] at h1
  exact h v' w' h1
theorem own_bools_see {w : World} {base n : Nat} {v : Value} {X : Nat → Bool} (h : w.ownsRow base 4 1 v n (cellL n (boolV X))) : ∃ a c, v = .slice a n c ∧ SeesB w a n X := by
  obtain ⟨a, c, e, hs, _⟩ := own_seesV (F := boolV X) h (fun m hm => cellL_get n _ m (by omega))
  rw [Nat.mul_one] at hs
  exact ⟨a, c, e, hs⟩
theorem own_zs_see {w : World} {base : Nat} {v : Value} {l : List Int} (h : w.ownsRow base 3 1 v l.length (zCells l)) : ∃ a c, v = .slice a l.length c ∧ SeesZ w a l.length (fun j => l.getD j 0) := by
  obtain ⟨a, c, e, hs, _⟩ := own_seesV (F := intV (fun j => l.getD j 0)) h (fun m hm => by
    have hm' : m < l.length := by omega
    unfold zCells intV
    rw [List.getElem?_map, List.getElem?_eq_getElem hm']
    simp [hm'])
  rw [Nat.mul_one] at hs
  exact ⟨a, c, e, hs⟩

/-- The numbers of the atoms that are known. -/
noncomputable def atomL (K : Nds) (n : Nat) (S : Nat → Prop) (j : Nat) : List Int := selL (fun i => knB K n S i && (K i 0 == 0)) (fun i => K i 1) j

set_option maxHeartbeats 2000000 in
set_option maxRecDepth 8000 in
theorem advAtoms_any (K : Nds) (n : Nat) (hn : n ≤ 1000) (a ak : Option Addr) (c k ck : Nat) (hc : n ≤ c) (hk : k ≤ 1000000) (f : Nat → Int) (w : World) (hs : Hid (SeesN w a n K)) (hf : Hid (SeesZ w ak k f)) :
    Calls Try.prog 17 #[.slice a n c, .slice ak k ck] w fun e w' => ∃ v, e = .returned v ∧ Hid (w'.ownsRow w.heap.size 3 1 v (riseL (atomL K n (inZ f k) (knN K n))).length (zCells (riseL (atomL K n (inZ f k) (knN K n))))) ∧ Below w.heap.size w w' := by
  have M := Lib.hid (advKnows_any K n a ak c k ck hc hk f w hs hf)
  have hN : knN K n ≤ n := by unfold knN; split <;> omega
  generalize knN K n = N at *
  generalize inZ f k = S0 at *
  go_enter Try.func17, Try.ntmps17
  go_wp2_with fail
  refine M.out.mono ?_
  rintro e w1 ⟨v, rfl, hown, hb1⟩
  obtain ⟨ab, cb, rfl, sb⟩ := own_bools_see hown.out
  replace sb := Lib.hid sb
  have hql : Hid (w.heap.size ≤ w1.heap.size) := hb1.size
  have s1 := Lib.hid (hs.out.after hb1)
  clear M hown
  go_wp2
  go_loopw [5, 12] (fun v c wr => ∃ j : Nat, j ≤ N ∧ c = .int .i64 (j : Int) ∧ Hid (wr.ownsRow w1.heap.size 3 1 v (atomL K n S0 j).length (zCells (atomL K n S0 j))) ∧ Below w1.heap.size w1 wr) (fun _ c _ => N - (intOf c).toNat)
  case atStart => exact ⟨0, Nat.zero_le _, rfl, World.ownsRow_nil _ _ _ _, Below.refl _ _⟩
  case round =>
    obtain ⟨j, hj, rfl, hown, hb⟩ := hrel
    by_cases hlt : j < N
    · have lj : (j : Int) < (N : Int) := by omega
      have hjn : j < n := by omega
      have sb2 := Lib.hid (sb.out.after hb)
      have s2 := Lib.hid (s1.out.after hb)
      have gb := Lib.hid (sb2.out.cell hlt)
      unfold boolV at gb
      have g0 := s2.out.cell (show j * 3 < n * 3 by omega)
      have g1 := s2.out.cell (show j * 3 + 1 < n * 3 by omega)
      rw [flatN_0] at g0
      rw [flatN_1] at g1
      have a1 : (elV a (j * 3)).add 1 = elV a (j * 3 + 1) := Deep.add_add _ _ _
      have hll := selL_length (fun i => knB K n S0 i && (K i 0 == 0)) (fun i => K i 1) j
      have el : Hid (∀ b, (knB K n S0 j && (K j 0 == 0)) = b → atomL K n S0 (j + 1) = atomL K n S0 j ++ (if b = true then [K j 1] else [])) := by
        intro b e
        subst e
        rfl
      have hll2 : (atomL K n S0 j).length ≤ 1000000 := by unfold atomL; omega
      clear hll
      generalize hLj : atomL K n S0 j = L at *
      clear hLj
      cases hkb : knB K n S0 j
      · rw [hkb] at gb el
        have el2 := Lib.hid (el.out false rfl)
        clear el hkb g0 g1
        go_wp2_with (first | (refine wpList_known rfl (at_bools sb2.out hlt rfl rfl rfl rfl _) ?_) | (refine wpList_known rfl (get_bool gb.out rfl rfl) ?_))
        go_roundw
        case rel => exact ⟨j + 1, by omega, by go_num, by rw [el2.out]; simpa using hown, hb⟩
        case measure => simp [intOf]; omega
      · rw [hkb] at gb el
        cases hob : (K j 0 == 0)
        · rw [hob] at el
          have el2 := Lib.hid (el.out false rfl)
          clear el hkb g1
          go_wp2_with (first | (refine wpList_known rfl (at_bools sb2.out hlt rfl rfl rfl rfl _) ?_) | (refine wpList_known rfl (get_bool gb.out rfl rfl) ?_) | (refine wpList_wknown rfl (at_nodes s2.out hjn rfl rfl rfl rfl _) ?_))
          go_roundw
          case rel => exact ⟨j + 1, by omega, by go_num, by rw [el2.out]; simpa using hown, hb⟩
          case measure => simp [intOf]; omega
        · rw [hob] at el
          have el2 := Lib.hid (el.out true rfl)
          clear el hkb
          go_wp2_with (first | (refine wpList_known rfl (at_bools sb2.out hlt rfl rfl rfl rfl _) ?_) | (refine wpList_known rfl (get_bool gb.out rfl rfl) ?_) | (refine wpList_wknown rfl (at_nodes s2.out hjn rfl rfl rfl rfl _) ?_) | (at_builtin; refine wpList_append_z rfl _ _ rfl w1.heap.size _ L _ rfl wr hown.out rfl rfl rfl hll2 hb.size ?_; intro v9 w9 own9 g9 b9))
          have b10 := hb.trans b9.out
          go_roundw
          case rel => exact ⟨j + 1, by omega, by go_num, by rw [el2.out]; exact own9, b10⟩
          case measure => simp [intOf]; omega
    · have lj : ¬ (j : Int) < (N : Int) := by omega
      obtain rfl : j = N := by omega
      have hll := selL_length (fun i => knB K n S0 i && (K i 0 == 0)) (fun i => K i 1) j
      have R := Lib.hid (rising_any w1.heap.size (atomL K n S0 j) (by unfold atomL; omega) _ wr hown hb.size)
      clear hll hown
      go_wp2_with fail
      refine R.out.mono ?_
      rintro e w5 ⟨v5, rfl, own5, hb5⟩
      have own9 := Lib.hid (own_from own5.out hql.out)
      have b10 := hb1.trans ((hb.trans hb5).mono hql.out)
      clear R own5 hb5 hb
      go_wp2
      go_ret
      exact ⟨_, rfl, own9, b10⟩

/-- The numbers of the keys that would help. -/
noncomputable def needL (K : Nds) (n : Nat) (S : Nat → Prop) (z : Nat) (j : Nat) : List Int := selL (fun i => (K i 0 == 1) && knB K n (fun q => S q ∨ q = i) z) (fun i => K i 1) j
/-- What Needs answers. -/
noncomputable def needsL (K : Nds) (n : Nat) (S : Nat → Prop) (z : Int) : List Int := if mayB K n = true ∧ inB n z = true ∧ knB K n S z.toNat = false then riseL (needL K n S z.toNat n) else []

set_option maxHeartbeats 1000000 in
set_option maxRecDepth 8000 in
theorem advNeeds_no (K : Nds) (n : Nat) (a ak : Option Addr) (c k ck : Nat) (hc : n ≤ c) (z : Int) (hm : mayB K n = false) (w : World) (hs : Hid (SeesN w a n K)) :
    Calls Try.prog 19 #[.slice a n c, .slice ak k ck, .int .i64 z] w fun e w' => ∃ v, e = .returned v ∧ Hid (w'.ownsRow w.heap.size 3 1 v ([] : List Int).length (zCells [])) ∧ Below w.heap.size w w' := by
  have M := Lib.hid (mindOf_no K n a ak c k ck hc hm w hs)
  go_enter Try.func19, Try.ntmps19
  go_wp2_with fail
  refine M.out.mono ?_
  rintro e w1 ⟨rfl, hb1⟩
  have b2 := hb1.alloc hb1.size (.cells #[.slice none 0 0, .slice none 0 0, .slice none 0 0] 52)
  have H := hasPlace_any none none none 0 0 0 0 0 0 z (w1.alloc (.cells #[.slice none 0 0, .slice none 0 0, .slice none 0 0] 52))
  rw [show inB 0 z = false by unfold inB; simp] at H
  replace H := Lib.hid H
  clear M hb1
  go_wp2_with fail
  refine H.out.mono ?_
  rintro e w3 ⟨rfl, hb3⟩
  have b3 := b2.trans (hb3.mono b2.size)
  clear H hb3 b2
  go_wp2
  go_ret
  exact ⟨_, rfl, World.ownsRow_nil _ _ _ _, b3⟩

set_option maxHeartbeats 1000000 in
set_option maxRecDepth 8000 in
theorem advNeeds_early (K : Nds) (n : Nat) (a ak : Option Addr) (c k ck : Nat) (hc : n ≤ c) (hk : k ≤ 1000000) (f : Nat → Int) (z : Int) (hm : mayB K n = true) (hz : (inB n z && knB K n (inZ f k) z.toNat) = inB n z) (w : World) (hs : Hid (SeesN w a n K)) (hf : Hid (SeesZ w ak k f)) :
    Calls Try.prog 19 #[.slice a n c, .slice ak k ck, .int .i64 z] w fun e w' => ∃ v, e = .returned v ∧ Hid (w'.ownsRow w.heap.size 3 1 v ([] : List Int).length (zCells [])) ∧ Below w.heap.size w w' := by
  have M := Lib.hid (mindOf_yes K n a ak c k ck hc hk f hm w hs hf)
  obtain ⟨hn, hK⟩ := (mayB_iff K n).1 hm
  have hX : Hid (∀ i, i < n → mindX K n f k (atN K i) = knB K n (inZ f k) i) := fun i hi => know_at hK f k hi
  clear hm hK
  go_enter Try.func19, Try.ntmps19
  go_wp2_with fail
  refine M.out.mono ?_
  rintro e w1 ⟨aT, cT, aA, cA, p, c1, rfl, hM, hb1⟩
  have al : Below w1.heap.size w1 (w1.alloc (.cells #[.slice aT (cnt K n) cT, .slice aA n cA, .slice (some ⟨p, 0, none⟩) (cnt K n) c1] 52)) := (Below.refl _ _).alloc (Nat.le_refl _) _
  have b2 := hb1.trans (al.mono hb1.size)
  have hM2 := Lib.hid (hM.out.after al)
  have r2 := Lib.hid (RowAt.new w1 52 #[.slice aT (cnt K n) cT, .slice aA n cA, .slice (some ⟨p, 0, none⟩) (cnt K n) c1])
  have H := hasPlace_any aT aA (some ⟨p, 0, none⟩) (cnt K n) cT n cA (cnt K n) c1 z (w1.alloc (.cells #[.slice aT (cnt K n) cT, .slice aA n cA, .slice (some ⟨p, 0, none⟩) (cnt K n) c1] 52))
  clear M hM al hb1
  cases hi : inB n z
  · rw [hi] at H
    replace H := Lib.hid H
    clear hi hz
    go_wp2_with (first | (refine wpList_wload_row rfl 52 _ rfl w1.heap.size rfl 52 #[.slice aT (cnt K n) cT, .slice aA n cA, .slice (some ⟨p, 0, none⟩) (cnt K n) c1] _ r2.out Try.underlying52 rfl sz_mind ?_))
    refine H.out.mono ?_
    rintro e w3 ⟨rfl, hb3⟩
    have b3 := b2.trans (hb3.mono b2.size)
    clear H hb3 b2
    go_wp2
    go_ret
    exact ⟨_, rfl, World.ownsRow_nil _ _ _ _, b3⟩
  · rw [hi] at H hz
    replace H := Lib.hid H
    rw [Bool.true_and] at hz
    obtain ⟨i, hi', rfl⟩ := inB_nat hi
    rw [Int.toNat_natCast] at hz
    go_wp2_with (first | (refine wpList_wload_row rfl 52 _ rfl w1.heap.size rfl 52 #[.slice aT (cnt K n) cT, .slice aA n cA, .slice (some ⟨p, 0, none⟩) (cnt K n) c1] _ r2.out Try.underlying52 rfl sz_mind ?_))
    refine H.out.mono ?_
    rintro e w3 ⟨rfl, hb3⟩
    have b3 := b2.trans (hb3.mono b2.size)
    have r3 := Lib.hid (r2.out.below hb3 r2.out.lt)
    have hM3 := Lib.hid (hM2.out.after hb3)
    have C := can_any aT aA (cnt K n) cT n cA p c1 (atN K) (mindX K n f k) (i : Int) (fun j hj => atN_lt hj) w3 hM3.out.2.2.1 hM3.out.2.2.2
    rw [hi, Int.toNat_natCast, hX.out i hi', hz, Bool.true_and] at C
    replace C := Lib.hid C
    clear H hb3 b2 hM2 hi hz
    generalize w1.heap.size = q at *
    go_wp2_with (first | (refine wpList_wload_row rfl 52 _ rfl q rfl 52 #[.slice aT (cnt K n) cT, .slice aA n cA, .slice (some ⟨p, 0, none⟩) (cnt K n) c1] _ r3.out Try.underlying52 rfl sz_mind ?_))
    refine C.out.mono ?_
    rintro e w4 ⟨rfl, hb4⟩
    have b4 := b3.trans (hb4.mono b3.size)
    clear C hb4 b3
    go_wp2
    go_ret
    exact ⟨_, rfl, World.ownsRow_nil _ _ _ _, b4⟩

end Go.Proofs.Ytjhalbifljnfjaa
