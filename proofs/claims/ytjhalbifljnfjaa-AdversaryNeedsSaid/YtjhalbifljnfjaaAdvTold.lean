/-
  Contracts: slices.Clone of bools; told of a mind.
-/
import Derived.Test.YtjhalbifljnfjaaAdvConclude
namespace Go.Proofs.Ytjhalbifljnfjaa
open Go.RowKit
set_option linter.unusedVariables false

theorem cellL_one {n : Nat} {F : Nat → Value} (h : ∀ j, (F j).oneCell' = true) : ∀ u ∈ cellL n F, u.oneCell' = true := by
  intro u hu
  unfold cellL at hu
  simp only [List.mem_map] at hu
  obtain ⟨j, _, rfl⟩ := hu
  exact h j

/-- append(own, s...): elements of one cell; s may be nil. -/
theorem wpList_append_V {S T : TypeId} {ops : Array Oper} {rest : List Oper} {o : Oper} {a : Act} {w : World} {Q : Exit → Act → World → Prop} (hu : Try.prog.underlying S = some (.slice T)) {z : Value} {bytes : Nat} (hi : (Try.prog.info? T).map (fun i => (i.zero, i.size, i.bytes)) = some (some z, 1, bytes)) (hzs : z.cells.size = 1) (hby : bytes ≤ 24)
    (hgd : o.guard = none) (s x : Operand) (ho : o.op = .call { callee := .builtin .append, args := #[s, x], argTypes := #[S, S] }) (base : Nat) (v : Value) (n0 : Nat) (xs : List Value) (hs : a.eval s = v) (hown : w.ownsRow base T 1 v n0 xs) (hbase : base ≤ w.heap.size)
    (al : Option Addr) (n c : Nat) (hx : a.eval x = .slice al n c) (F : Nat → Value) (hF : SeesV w al n F) (h1 : ∀ j, (F j).oneCell' = true) (hn0 : n0 ≤ 1000000) (hn : n ≤ 1000000) (hnil : al = none → c = 0)
    (h : ∀ v' w', Hid (w'.ownsRow base T 1 v' (n0 + n) (xs ++ cellL n F)) → Hid (w.grownBy w' v.ownBlock) → Hid (Below base w w') → Hid (v' = .slice none 0 0 → v = .slice none 0 0) → wpList Try.prog ops Q rest (a.put o.dst v') w') : wpList Try.prog ops Q (o :: rest) a w := by
  obtain ⟨i0, hi, hz0, hz1, hz2⟩ := info_parts hi
  cases al with
  | none =>
    have h0 : n = 0 := by
      rcases Nat.eq_zero_or_pos n with h | h
      · exact h
      · obtain ⟨ad, e, _⟩ := hF.some h
        cases e
    subst h0
    have hc := hnil rfl
    subst hc
    have e : xs ++ cellL 0 F = xs := by simp [cellL]
    exact wpList_append_own_none hgd s x S ho base T i0 1 hu hi v n0 xs hs hown hx (h v w (by rw [e]; exact hown) (World.grownBy.refl w _) (Below.refl _ _) (fun e => e))
  | some ad =>
    refine wpList_append_own_at w hgd s x S ho base T i0 z 1 bytes hu hi hz0 hz1 hz2 hzs (by decide) v n0 xs hs hown ad n c (cellL n F) hx (by rw [cellL_length, Nat.mul_one]) ?_ (cellL_one h1) (by unfold maxLen; omega) ?_ hbase ?_
    · intro j u hj
      have hl : j < n := by
        have := (List.getElem?_eq_some_iff.1 hj).1
        rwa [cellL_length] at this
      obtain ⟨ad', e, _, hc⟩ := hF j hl
      cases e
      rw [cellL_get n F j hl] at hj
      rw [hc]
      exact hj
    · have : (n0 + n) * bytes ≤ 2000000 * 24 := Nat.mul_le_mul (by omega) hby
      omega
    · intro v' w' h2 h3 h4 h5
      exact h v' w' h2 h3 ((Below.refl base w).grown h3 hbase (fun g hg => (hown.lt g hg).1)) (fun e => (h4.1 e).1)

theorem eqIn_nilB (d : Nat) (a : Option Addr) (n c : Nat) (w : World) : (Op.equalIn (d + 1) 28 (.slice a n c) (.slice none 0 0)).run Try.prog w = .ok a.isNone w := by
  cases a <;> simp [Op.equalIn, run_underlying Try.underlying28]
theorem eql_nilB (a : Option Addr) (n c : Nat) (w : World) : (binOp .eql 28 (.slice a n c) (.slice none 0 0)).run Try.prog w = .ok (.bool a.isNone) w := by
  have e2 : (Op.equal 28 (.slice a n c) (.slice none 0 0)).run Try.prog w = .ok a.isNone w := eqIn_nilB 9999 a n c w
  simp [binOp, e2]

/-- A row of bools that the call owns, in its block. -/
theorem own_bools {w : World} {base m : Nat} {v : Value} {X : Nat → Bool} (h : w.ownsRow base 4 1 v m (cellL m (boolV X))) (hv : v ≠ .slice none 0 0) : ∃ p c, v = .slice (some ⟨p, 0, none⟩) m c ∧ BRow w p m X ∧ base ≤ p := by
  rcases h.2 with ⟨e, _⟩ | ⟨g, cap, cur, rfl, hg, hr, _⟩
  · exact absurd e hv
  · refine ⟨g, cap, rfl, ⟨cur, hr, fun j hj => ?_⟩, hg⟩
    have hc := h.cells (g := g) rfl j _ (cellL_get m _ j hj)
    rw [addr_add, Nat.zero_add, cell_of_row w g j cur _ (0, 0) hr] at hc
    exact hc

def CloneEnd (m : Nat) (X : Nat → Bool) (w : World) (e : Ending) (w' : World) : Prop := ∃ p c, e = .returned (.slice (some ⟨p, 0, none⟩) m c) ∧ Hid (BRow w' p m X) ∧ w.heap.size ≤ p ∧ Below w.heap.size w w'

set_option maxHeartbeats 1000000 in
set_option maxRecDepth 8000 in
theorem cloneB_any (m : Nat) (hm : m ≤ 1000000) (X : Nat → Bool) (p c : Nat) (w : World) (h1 : Hid (SeesB w (some ⟨p, 0, none⟩) m X)) :
    Calls Try.prog 36 #[.slice (some ⟨p, 0, none⟩) m c] w (CloneEnd m X w) := by
  have e0 := eql_nilB (some ⟨p, 0, none⟩) m c
  rw [Option.isNone_some] at e0
  have o0 : Hid ((w.alloc (.cells #[] 4)).ownsRow w.heap.size 4 1 (.slice (some ⟨w.heap.size, 0, none⟩) 0 0) 0 []) := World.ownsRow_made w #[] 0 (Nat.le_refl _) (by decide) rfl
  have b0 : Below w.heap.size w (w.alloc (.cells #[] 4)) := (Below.refl _ _).alloc (Nat.le_refl _) _
  have s1 := Lib.hid (h1.out.after b0)
  go_enter Try.func36, Try.ntmps36
  go_wp2_with (first | (refine wpList_append_V Try.underlying28 Try.infoBool rfl (by decide) rfl _ _ rfl w.heap.size _ 0 [] rfl o0.out b0.size (some ⟨p, 0, none⟩) m c rfl (boolV X) s1.out (fun _ => rfl) (by omega) hm (fun e => by cases e) ?_; intro v2 w2 h2 h3 h4 h5; refine Hid.out ?_))
  unfold Hid
  have h6 := h2.out
  rw [List.nil_append, Nat.zero_add] at h6
  obtain ⟨p', c', rfl, hB, hp⟩ := own_bools h6 (fun e => by have := h5.out e; cases this)
  replace hB := Lib.hid hB
  have b2 := b0.trans h4.out
  clear h2 h3 h4 h5 h6
  go_wp2
  go_ret
  exact ⟨_, _, rfl, hB, hp, b2⟩

/-- What is marked when k places were told. -/
def markZ (g : Nat → Nat) (n : Nat) (f : Nat → Int) (X : Nat → Bool) : Nat → Nat → Bool
  | 0 => X
  | k + 1 => if inB n (f k) = true then setT (markZ g n f X k) (g (f k).toNat) else markZ g n f X k
theorem markZ_yes {g : Nat → Nat} {n : Nat} {f : Nat → Int} {X : Nat → Bool} {k : Nat} (h : inB n (f k) = true) : markZ g n f X (k + 1) = setT (markZ g n f X k) (g (f k).toNat) := if_pos h
theorem markZ_no {g : Nat → Nat} {n : Nat} {f : Nat → Int} {X : Nat → Bool} {k : Nat} (h : inB n (f k) = false) : markZ g n f X (k + 1) = markZ g n f X k := if_neg (by rw [h]; simp)
theorem markZ_iff (g : Nat → Nat) (n : Nat) (f : Nat → Int) (X : Nat → Bool) (d : Nat) : ∀ k, markZ g n f X k d = true ↔ X d = true ∨ ∃ i, i < n ∧ inZ f k i ∧ g i = d
  | 0 => by
    constructor
    · exact fun h => .inl h
    · rintro (h | ⟨i, _, ⟨j, hj, _⟩, _⟩)
      · exact h
      · exact absurd hj (Nat.not_lt_zero _)
  | k + 1 => by
    have ih := markZ_iff g n f X d k
    cases hb : inB n (f k)
    · rw [markZ_no hb, ih]
      constructor
      · rintro (h | ⟨i, hi, ⟨j, hj, e⟩, e2⟩)
        · exact .inl h
        · exact .inr ⟨i, hi, ⟨j, by omega, e⟩, e2⟩
      · rintro (h | ⟨i, hi, ⟨j, hj, e⟩, e2⟩)
        · exact .inl h
        · by_cases ej : j = k
          · subst ej
            exfalso
            rw [e] at hb
            unfold inB at hb
            simp at hb
            omega
          · exact .inr ⟨i, hi, ⟨j, by omega, e⟩, e2⟩
    · rw [markZ_yes hb]
      obtain ⟨q, hq, eq⟩ := inB_nat hb
      rw [eq, Int.toNat_natCast]
      by_cases ed : d = g q
      · subst ed
        rw [setT_same]
        exact ⟨fun _ => .inr ⟨q, hq, ⟨k, by omega, eq⟩, rfl⟩, fun _ => rfl⟩
      · rw [setT_other _ ed, ih]
        constructor
        · rintro (h | ⟨i, hi, ⟨j, hj, e⟩, e2⟩)
          · exact .inl h
          · exact .inr ⟨i, hi, ⟨j, by omega, e⟩, e2⟩
        · rintro (h | ⟨i, hi, ⟨j, hj, e⟩, e2⟩)
          · exact .inl h
          · by_cases ej : j = k
            · subst ej
              have : i = q := by omega
              subst this
              exact absurd e2.symm ed
            · exact .inr ⟨i, hi, ⟨j, by omega, e⟩, e2⟩

theorem mind_cells (a b c : Option Addr) (i j k l m n : Nat) : (#[Value.slice a i j, Value.slice b k l, Value.slice c m n] : Array Value).all (·.oneCell') = true := by
  simp [Value.oneCell']

/-- What told comes to. -/
def ToldEnd (T : Nds) (aT : Option Addr) (m cT : Nat) (aA : Option Addr) (n cA : Nat) (X : Nat → Bool) (w : World) (e : Ending) (w' : World) : Prop :=
  ∃ p c, e = .returned (.agg #[.slice aT m cT, .slice aA n cA, .slice (some ⟨p, 0, none⟩) m c]) ∧ Hid (BRow w' p m (clB T m X)) ∧ w.heap.size ≤ p ∧ Below w.heap.size w w'

theorem off_new {w : World} {a : Option Addr} {n p : Nat} {F : Nat → Value} (h : SeesV w a n F) (hn : 0 < n) (hp : w.heap.size ≤ p) : Off a p := fun ad e => by
  obtain ⟨ad', e', hl⟩ := h.some hn
  rw [e] at e'
  cases e'
  omega

set_option maxHeartbeats 2000000 in
set_option maxRecDepth 8000 in
theorem told_any (T : Nds) (g : Nat → Nat) (aT aA ak : Option Addr) (m cT n cA p cK k ck : Nat) (X : Nat → Bool) (f : Nat → Int) (hP : Hid (PlT T m)) (hm : m ≤ 1000) (hk : k ≤ 1000000) (hg : ∀ j, j < n → g j < m) (w : World)
    (hT : Hid (SeesN w aT m T)) (oT : ∀ ad, aT = some ad → ad.block < w.heap.size) (hA : Hid (SeesI w aA n g)) (hr : Hid (SeesB w (some ⟨p, 0, none⟩) m X)) (hf : Hid (SeesZ w ak k f)) :
    Calls Try.prog 30 #[.agg #[.slice aT m cT, .slice aA n cA, .slice (some ⟨p, 0, none⟩) m cK], .slice ak k ck] w (ToldEnd T aT m cT aA n cA (markZ g n f X k) w) := by
  have b0 : Below w.heap.size w (w.alloc (.cells #[.slice aT m cT, .slice aA n cA, .slice (some ⟨p, 0, none⟩) m cK] 52)) := (Below.refl w.heap.size w).alloc (Nat.le_refl _) _
  have b1 : Below w.heap.size w ((w.alloc (.cells #[.slice aT m cT, .slice aA n cA, .slice (some ⟨p, 0, none⟩) m cK] 52)).alloc (.cells #[.slice none 0 0, .slice none 0 0, .slice none 0 0] 52)) := b0.alloc b0.size _
  have q0 := Lib.hid ((RowAt.new w 52 #[.slice aT m cT, .slice aA n cA, .slice (some ⟨p, 0, none⟩) m cK]).alloc (.cells #[.slice none 0 0, .slice none 0 0, .slice none 0 0] 52))
  have q1 := RowAt.new (w.alloc (.cells #[.slice aT m cT, .slice aA n cA, .slice (some ⟨p, 0, none⟩) m cK] 52)) 52 #[.slice none 0 0, .slice none 0 0, .slice none 0 0]
  rw [World.size_alloc] at q1
  replace q1 := Lib.hid q1
  have C := Lib.hid (cloneB_any m (by omega) X p cK _ (hr.out.after b1))
  have z1 : Hid (((w.alloc (.cells #[.slice aT m cT, .slice aA n cA, .slice (some ⟨p, 0, none⟩) m cK] 52)).alloc (.cells #[.slice none 0 0, .slice none 0 0, .slice none 0 0] 52)).heap.size = w.heap.size + 2) := by unfold Hid; simp
  clear b0
  go_enter Try.func30, Try.ntmps30
  go_wp2_with fail
  refine C.out.mono ?_
  rintro e w2 ⟨p2, c2, rfl, hB2, hp2, hb2⟩
  have b2 := b1.trans (hb2.mono b1.size)
  have r0 := Lib.hid (q0.out.below hb2 q0.out.lt)
  have r1 := Lib.hid (q1.out.below hb2 q1.out.lt)
  rw [z1.out] at hp2
  have hpl : w.heap.size ≤ p2 := by omega
  have n0 : Hid (w.heap.size ≠ p2) := fun e => by omega
  have n1 : Hid (w.heap.size + 1 ≠ p2) := fun e => by omega
  have oT2 : Hid (Off aT p2) := fun ad e => by have := oT ad e; omega
  have c02 := cell_of_row w2 w.heap.size 2 _ _ (0, 0) r0.out
  have f02 := r0.out.free 2
  have apq : Hid (Apart w.heap.size w2 (w2.setCell ⟨w.heap.size, 2, none⟩ (.slice (some ⟨p2, 0, none⟩) m c2))) := (Apart.refl _ _).setCell r0.out _
  have b3 := b2.trans (apq.out.under (Nat.le_refl _) b2.size)
  have r03 : Hid (RowAt (w2.setCell ⟨w.heap.size, 2, none⟩ (.slice (some ⟨p2, 0, none⟩) m c2)) w.heap.size 52 #[.slice aT m cT, .slice aA n cA, .slice (some ⟨p2, 0, none⟩) m c2]) := r0.out.set 2 _
  have r13 := Lib.hid (apq.out.row r1.out (by omega))
  have hB3 := Lib.hid (hB2.out.apart apq.out n0.out.symm)
  clear C hb2 q0 q1 hp2 z1 r0 r1 hB2 apq b1 b2
  go_wp2
  clear c02 f02
  generalize w2.setCell ⟨w.heap.size, 2, none⟩ (.slice (some ⟨p2, 0, none⟩) m c2) = w3 at *
  obtain ⟨q, hq⟩ : ∃ q, w.heap.size = q := ⟨_, rfl⟩
  have hsq : Hid (w.heap.size = q) := hq
  have hqs : q ≤ w.heap.size := by omega
  simp only [hq] at r03 r13 n0 n1 hpl b3 ⊢
  clear hq
  go_loopw [13] (fun v wr => ∃ j : Nat, j ≤ k ∧ v = .int .i64 (j : Int) ∧ Hid (BRow wr p2 m (markZ g n f X j)) ∧ Hid (RowAt wr q 52 #[.slice aT m cT, .slice aA n cA, .slice (some ⟨p2, 0, none⟩) m c2]) ∧ Hid (RowAt wr (q + 1) 52 #[.slice none 0 0, .slice none 0 0, .slice none 0 0]) ∧ Below q w wr) (fun v _ => k - (intOf v).toNat)
  case atStart => exact ⟨0, Nat.zero_le _, rfl, hB3, r03, r13, b3⟩
  case round =>
    clear hB3 r03 r13 b3
    obtain ⟨j, hj, rfl, hB, r0, r1, hb⟩ := hrel
    by_cases hlt : j < k
    · have lj : (j : Int) < (k : Int) := by omega
      have hb' := hb
      rw [← hsq.out] at hb'
      have sf := Lib.hid (hf.out.after hb')
      have gf := Lib.hid (sf.out.cell hlt)
      unfold intV at gf
      have H := hasPlace_any aT aA (some ⟨p2, 0, none⟩) m cT n cA m c2 (f j) wr
      cases hin : inB n (f j)
      · rw [hin] at H
        replace H := Lib.hid H
        have em := Lib.hid (markZ_no (g := g) (X := X) hin)
        clear hin
        go_wp2_with (first | (refine wpList_known rfl (at_intsV sf.out hlt rfl rfl rfl rfl _) ?_) | (refine wpList_known rfl (get_int gf.out rfl rfl) ?_) | (refine wpList_load_row rfl 52 _ rfl q rfl 52 #[.slice aT m cT, .slice aA n cA, .slice (some ⟨p2, 0, none⟩) m c2] (0, 0) _ r0.out Try.underlying52 rfl sz_mind ?_))
        refine H.out.mono ?_
        rintro e w5 ⟨rfl, hb5⟩
        have b5 := hb.trans (hb5.mono (Nat.le_trans hqs hb.size))
        have hB5 := Lib.hid (hB.out.after hb5)
        have r05 := Lib.hid (r0.out.below hb5 r0.out.lt)
        have r15 := Lib.hid (r1.out.below hb5 r1.out.lt)
        clear H hb5 hb hb' hB r0 r1 sf gf
        go_wp2
        go_roundw
        case rel => exact ⟨j + 1, by omega, by go_num, by rw [em.out]; exact hB5, r05, r15, b5⟩
        case measure => simp [intOf]; omega
      · rw [hin] at H
        replace H := Lib.hid H
        have em := Lib.hid (markZ_yes (g := g) (X := X) hin)
        obtain ⟨i, hi, efi⟩ := inB_nat hin
        rw [efi] at H em gf
        rw [Int.toNat_natCast] at em
        have hgi := hg i hi
        clear hin efi
        go_wp2_with (first | (refine wpList_known rfl (at_intsV sf.out hlt rfl rfl rfl rfl _) ?_) | (refine wpList_known rfl (get_int gf.out rfl rfl) ?_) | (refine wpList_load_row rfl 52 _ rfl q rfl 52 #[.slice aT m cT, .slice aA n cA, .slice (some ⟨p2, 0, none⟩) m c2] (0, 0) _ r0.out Try.underlying52 rfl sz_mind ?_))
        refine H.out.mono ?_
        rintro e w5 ⟨rfl, hb5⟩
        have b5 := (hb.trans (hb5.mono (Nat.le_trans hqs hb.size))).drew
        have hB5 : Hid (BRow w5.drew p2 m (markZ g n f X j)) := hB.out.after hb5.drew
        have r05 := Lib.hid ((r0.out.below hb5 r0.out.lt).drew)
        have r15 := Lib.hid ((r1.out.below hb5 r1.out.lt).drew)
        have b5' := b5
        rw [← hsq.out] at b5'
        have sA := Lib.hid (hA.out.after b5')
        have gA := Lib.hid (sA.out.cell hi)
        unfold numV at gA
        have sB := Lib.hid hB5.out.sees
        clear H hb5 hb hb' hB r0 r1 sf gf b5'
        go_wp2
        refine wp_region_still_tail 8 (by kernel_rfl) (by kernel_rfl) ?_
        change wpStill _ _ w5.drew (fun a' => wpList _ _ _ _ a' w5.drew) _ _
        generalize w5.drew = w6 at *
        simp only [List.take_succ_cons, List.take_zero, List.drop_succ_cons, List.drop_zero]
        refine wpStill_of_quiet _ _ ?_
        refine wpQuiet_val (by rfl) (.pointer (some ⟨q, 2, none⟩)) (fun w' _ => by (go_simp; try omega)) ?_
        simp only [Act.put, List.setIfInBounds_toArray, List.set_cons_succ, List.set_cons_zero]
        refine wpQuiet_val (by rfl) (.slice (some ⟨p2, 0, none⟩) m c2) (fun w' e => by subst e; exact get_cell r05.out rfl rfl Try.underlying28 rfl rfl) ?_
        simp only [Act.put, List.setIfInBounds_toArray, List.set_cons_succ, List.set_cons_zero]
        refine wpQuiet_val (by rfl) (.pointer (some ⟨q, 1, none⟩)) (fun w' _ => by (go_simp; try omega)) ?_
        simp only [Act.put, List.setIfInBounds_toArray, List.set_cons_succ, List.set_cons_zero]
        refine wpQuiet_val (by rfl) (.slice aA n cA) (fun w' e => by subst e; exact get_cell r05.out rfl rfl Try.underlying23 rfl rfl) ?_
        simp only [Act.put, List.setIfInBounds_toArray, List.set_cons_succ, List.set_cons_zero]
        refine wpQuiet_val (by rfl) (.int .i64 (i : Int)) (fun w' _ => by go_simp) ?_
        simp only [Act.put, List.setIfInBounds_toArray, List.set_cons_succ, List.set_cons_zero]
        refine wpQuiet_val (by rfl) _ (fun w' _ => at_ints sA.out hi rfl rfl rfl rfl w') ?_
        simp only [Act.put, List.setIfInBounds_toArray, List.set_cons_succ, List.set_cons_zero]
        refine wpQuiet_val (by rfl) _ (fun w' e => by subst e; exact get_int gA.out rfl rfl) ?_
        simp only [Act.put, List.setIfInBounds_toArray, List.set_cons_succ, List.set_cons_zero]
        refine wpQuiet_val (by rfl) _ (fun w' _ => at_bools sB.out hgi rfl rfl rfl rfl w') ?_
        simp only [Act.put, List.setIfInBounds_toArray, List.set_cons_succ, List.set_cons_zero]
        refine wpQuiet_nil ?_
        refine wpList_store_bool rfl _ _ rfl hB5.out hgi rfl rfl ?_
        intro w7 hB7 hA7
        have r07 := Lib.hid (hA7.out.row r05.out n0.out)
        have r17 := Lib.hid (hA7.out.row r15.out n1.out)
        have b7 := b5.trans (hA7.out.under hpl (Nat.le_trans hqs b5.size))
        clear hA7 r05 r15 b5 sA gA sB hB5
        go_wp2
        go_roundw
        case rel => exact ⟨j + 1, by omega, by go_num, by rw [em.out]; exact hB7, r07, r17, b7⟩
        case measure => simp [intOf]; omega
    · have lj : ¬ (j : Int) < (k : Int) := by omega
      obtain rfl : j = k := by omega
      have hb' := hb
      rw [← hsq.out] at hb'
      have D := Lib.hid (conclude_any T aT aA m cT n cA p2 c2 (markZ g n f X j) hP hm oT2 wr (hT.out.after hb') hB)
      clear hB hb'
      go_wp2_with (first | (refine wpList_load_row rfl 52 _ rfl q rfl 52 #[.slice aT m cT, .slice aA n cA, .slice (some ⟨p2, 0, none⟩) m c2] (0, 0) _ r0.out Try.underlying52 rfl sz_mind ?_))
      refine D.out.mono ?_
      rintro e w5 ⟨rfl, hB5, hA5⟩
      have r05 := Lib.hid (hA5.out.row r0.out n0.out)
      have r15 := Lib.hid (hA5.out.row r1.out n1.out)
      have b5 := hb.trans (hA5.out.under hpl (Nat.le_trans hqs hb.size))
      clear D hA5 r0 r1 hb
      have apq : Hid (Apart (q + 1) w5 (w5.setRow (q + 1) #[.slice aT m cT, .slice aA n cA, .slice (some ⟨p2, 0, none⟩) m c2])) := (Apart.refl _ _).setRow _
      have hB6 := Lib.hid (hB5.out.apart apq.out n1.out.symm)
      have r6 := Lib.hid (r15.out.setRow #[.slice aT m cT, .slice aA n cA, .slice (some ⟨p2, 0, none⟩) m c2])
      have b6 := b5.trans (apq.out.under (by omega) (Nat.le_trans hqs b5.size))
      replace b6 := b6.mono (B' := w.heap.size) (by have := hsq.out; omega)
      go_wp2_with (first | (refine wpList_load_row rfl 52 _ rfl q rfl 52 #[.slice aT m cT, .slice aA n cA, .slice (some ⟨p2, 0, none⟩) m c2] (0, 0) _ r05.out Try.underlying52 rfl sz_mind ?_) | (refine wpList_store_row rfl 52 _ _ rfl (q + 1) #[.slice aT m cT, .slice aA n cA, .slice (some ⟨p2, 0, none⟩) m c2] rfl rfl 52 _ r15.out sz_mind rfl (mind_cells _ _ _ _ _ _ _ _ _) ?_))
      refine bodyPost_ret (v := .agg #[.slice aT m cT, .slice aA n cA, .slice (some ⟨p2, 0, none⟩) m c2]) ?_ rfl ⟨p2, c2, rfl, hB6, by rw [hsq.out]; exact hpl, b6⟩
      exact results_cell_row Try.results30 _ _ (q + 1) 52 _ (0, 0) _ rfl r6.out Try.underlying52 rfl sz_mind

end Go.Proofs.Ytjhalbifljnfjaa
