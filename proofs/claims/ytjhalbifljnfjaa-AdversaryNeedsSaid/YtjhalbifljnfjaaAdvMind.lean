/-
  Contracts: mindOf, Can, Knows.
-/
import Derived.Test.YtjhalbifljnfjaaAdvTold
import Derived.Test.YtjhalbifljnfjaaAdvOnce
namespace Go.Proofs.Ytjhalbifljnfjaa
open Go.RowKit
set_option linter.unusedVariables false

def noneB : Nat → Bool := fun _ => false
/-- What is marked of terms each once is what was told of places. -/
theorem know_at {K : Nds} {n : Nat} (h : Wf K n) (f : Nat → Int) (k : Nat) {i : Nat} (hi : i < n) : clB (onceN K) (cnt K n) (markZ (atN K) n f noneB k) (atN K i) = knB K n (inZ f k) i := by
  rw [clB_once h _ hi]
  apply bool_eq_of
  rw [knB_iff, knB_iff]
  constructor
  · rintro ⟨_, hk⟩
    refine ⟨hi, hk.again fun j hj hm => ?_⟩
    rcases (markZ_iff _ _ _ _ _ _).1 hm with h0 | ⟨q, hq, hz, e⟩
    · cases h0
    · exact (Kn.clo K n (inZ f k)).same q j hq hj ((atN_same K q j).1 e) (Kn.base hq hz)
  · rintro ⟨_, hk⟩
    exact ⟨hi, hk.mono fun j hj hz => (markZ_iff _ _ _ _ _ _).2 (.inr ⟨j, hj, hz, rfl⟩)⟩
/-- One more place told. -/
theorem know_more {K : Nds} {n : Nat} (h : Wf K n) (f : Nat → Int) (k : Nat) {p : Nat} (hp : p < n) {i : Nat} (hi : i < n) :
    clB (onceN K) (cnt K n) (markZ (atN K) n (fun _ => (p : Int)) (clB (onceN K) (cnt K n) (markZ (atN K) n f noneB k)) 1) (atN K i) = knB K n (fun j => inZ f k j ∨ j = p) i := by
  rw [clB_once h _ hi]
  apply bool_eq_of
  rw [knB_iff, knB_iff]
  constructor
  · rintro ⟨_, hk⟩
    refine ⟨hi, hk.again fun j hj hm => ?_⟩
    rcases (markZ_iff _ _ _ _ _ _).1 hm with h0 | ⟨q, hq, ⟨_, _, ez⟩, e⟩
    · rw [know_at h f k hj, knB_iff] at h0
      exact h0.2.mono fun _ _ => .inl
    · have ez' : (p : Int) = (q : Int) := ez
      have : q = p := by omega
      subst this
      exact (Kn.clo K n _).same q j hq hj ((atN_same K q j).1 e) (Kn.base hq (.inr rfl))
  · rintro ⟨_, hk⟩
    refine ⟨hi, hk.mono fun j hj hz => ?_⟩
    rcases hz with hz | rfl
    · refine (markZ_iff _ _ _ _ _ _).2 (.inl ?_)
      rw [know_at h f k hj, knB_iff]
      exact ⟨hj, Kn.base hj hz⟩
    · exact (markZ_iff _ _ _ _ _ _).2 (.inr ⟨j, hj, ⟨0, by omega, rfl⟩, rfl⟩)

/-- What mindOf comes to, of a list that may be: what is known of terms each once. -/
noncomputable def mindX (K : Nds) (n : Nat) (f : Nat → Int) (k : Nat) : Nat → Bool := clB (onceN K) (cnt K n) (markZ (atN K) n f noneB k)
def MindAt (K : Nds) (n : Nat) (aT : Option Addr) (aA : Option Addr) (p : Nat) (X : Nat → Bool) (w : World) : Prop :=
  SeesN w aT (cnt K n) (onceN K) ∧ (∀ ad, aT = some ad → ad.block < w.heap.size) ∧ SeesI w aA n (atN K) ∧ SeesB w (some ⟨p, 0, none⟩) (cnt K n) X
theorem MindAt.after {K : Nds} {n : Nat} {aT aA : Option Addr} {p : Nat} {X : Nat → Bool} {w w' : World} (h : MindAt K n aT aA p X w) (hb : Below w.heap.size w w') : MindAt K n aT aA p X w' :=
  ⟨h.1.after hb, fun ad e => Nat.lt_of_lt_of_le (h.2.1 ad e) hb.size, h.2.2.1.after hb, h.2.2.2.after hb⟩
def MindEnd (K : Nds) (n : Nat) (X : Nat → Bool) (w : World) (e : Ending) (w' : World) : Prop :=
  ∃ aT cT aA cA p c, e = .returned (.agg #[.slice aT (cnt K n) cT, .slice aA n cA, .slice (some ⟨p, 0, none⟩) (cnt K n) c]) ∧ Hid (MindAt K n aT aA p X w') ∧ Below w.heap.size w w'

set_option maxHeartbeats 1000000 in
set_option maxRecDepth 8000 in
theorem mindOf_no (K : Nds) (n : Nat) (a ak : Option Addr) (c k ck : Nat) (hc : n ≤ c) (hm : mayB K n = false) (w : World) (hs : Hid (SeesN w a n K)) :
    Calls Try.prog 23 #[.slice a n c, .slice ak k ck] w fun e w' => e = .returned (.agg #[.slice none 0 0, .slice none 0 0, .slice none 0 0]) ∧ Below w.heap.size w w' := by
  have b0 : Below w.heap.size w (w.alloc (.cells #[.slice none 0 0, .slice none 0 0, .slice none 0 0] 52)) := (Below.refl w.heap.size w).alloc (Nat.le_refl _) _
  have q0 := Lib.hid (RowAt.new w 52 #[.slice none 0 0, .slice none 0 0, .slice none 0 0])
  have M := may_any K n a c hc _ (Lib.hid (hs.out.after b0))
  rw [hm] at M
  replace M := Lib.hid M
  go_enter Try.func23, Try.ntmps23
  go_wp2_with fail
  refine M.out.mono ?_
  rintro e w1 ⟨rfl, hb1⟩
  have b1 := b0.trans (hb1.mono b0.size)
  have r1 := Lib.hid (q0.out.below hb1 q0.out.lt)
  have ap : Hid (Apart w.heap.size w1 (w1.setRow w.heap.size #[.slice none 0 0, .slice none 0 0, .slice none 0 0])) := (Apart.refl _ _).setRow _
  have b2 := b1.trans (ap.out.under (Nat.le_refl _) b1.size)
  have r2 := Lib.hid (r1.out.setRow #[.slice none 0 0, .slice none 0 0, .slice none 0 0])
  clear M hb1 q0 b0 b1 ap
  go_wp2_with (first | (refine wpList_store_row rfl 52 _ _ rfl w.heap.size #[.slice none 0 0, .slice none 0 0, .slice none 0 0] rfl rfl 52 _ r1.out sz_mind rfl (mind_cells _ _ _ _ _ _ _ _ _) ?_))
  refine bodyPost_ret (v := .agg #[.slice none 0 0, .slice none 0 0, .slice none 0 0]) ?_ rfl ⟨rfl, b2⟩
  exact results_cell_row Try.results23 _ _ w.heap.size 52 _ (0, 0) _ rfl r2.out Try.underlying52 rfl sz_mind

set_option maxHeartbeats 2000000 in
set_option maxRecDepth 8000 in
theorem mindOf_yes (K : Nds) (n : Nat) (a ak : Option Addr) (c k ck : Nat) (hc : n ≤ c) (hk : k ≤ 1000000) (f : Nat → Int) (hm : mayB K n = true) (w : World) (hs : Hid (SeesN w a n K)) (hf : Hid (SeesZ w ak k f)) :
    Calls Try.prog 23 #[.slice a n c, .slice ak k ck] w (MindEnd K n (mindX K n f k) w) := by
  obtain ⟨hn, hK⟩ := (mayB_iff K n).1 hm
  have b0 : Below w.heap.size w (w.alloc (.cells #[.slice none 0 0, .slice none 0 0, .slice none 0 0] 52)) := (Below.refl w.heap.size w).alloc (Nat.le_refl _) _
  have q0 := Lib.hid (RowAt.new w 52 #[.slice none 0 0, .slice none 0 0, .slice none 0 0])
  have M := may_any K n a c hc _ (Lib.hid (hs.out.after b0))
  rw [hm] at M
  replace M := Lib.hid M
  replace hK := Lib.hid hK
  clear hm
  go_enter Try.func23, Try.ntmps23
  go_wp2_with fail
  refine M.out.mono ?_
  rintro e w1 ⟨rfl, hb1⟩
  have b1 := b0.trans (hb1.mono b0.size)
  have r1 := Lib.hid (q0.out.below hb1 q0.out.lt)
  have E := Lib.hid (eachOnce_any K n hn hK a c w1 (Lib.hid (hs.out.after b1)))
  clear M hb1 q0 b0
  go_wp2_with fail
  refine E.out.mono ?_
  rintro e w2 ⟨v, v', rfl, hT, hA, hb2⟩
  have b2 := b1.trans (hb2.mono b1.size)
  have r2 := Lib.hid (r1.out.below hb2 r1.out.lt)
  obtain ⟨aT, cT, rfl, sT, _, _, oT⟩ := own_nodes hT.out
  obtain ⟨aA, cA, rfl, sA, _, _, oA⟩ := own_ints hA.out
  have offT : Hid (Off aT w.heap.size) := fun ad e => by have := (oT ad e).1; have := r1.out.lt; omega
  have offA : Hid (Off aA w.heap.size) := fun ad e => by have := (oA ad e).1; have := r1.out.lt; omega
  have lT : Hid (∀ ad, aT = some ad → ad.block < w2.heap.size) := fun ad e => (hT.out.lt ad.block (oT ad e).2.1).2
  replace sT := Lib.hid sT
  replace sA := Lib.hid sA
  have hcn := cnt_le K n
  have hP := Lib.hid (once_parts hK.out)
  have hlt : Hid (∀ j, j < n → atN K j < cnt K n) := fun j hj => atN_lt hj
  have ex : Hid (mindX K n f k = clB (onceN K) (cnt K n) (markZ (atN K) n f noneB k)) := rfl
  generalize mindX K n f k = Z at *
  obtain ⟨m, em⟩ : ∃ m, cnt K n = m := ⟨_, rfl⟩
  have em' := Lib.hid em
  simp only [em] at hP hlt sT hcn ex ⊢
  have b3 : Below w2.heap.size w2 (w2.alloc (.cells (rowOf m (boolV fun _ => false)) 4)) := (Below.refl _ _).alloc (Nat.le_refl _) _
  have b4 := b3.alloc b3.size (.cells #[.slice aT m cT, .slice aA n cA, .slice (some ⟨w2.heap.size, 0, none⟩) m m] 52)
  have hB : Hid (BRow ((w2.alloc (.cells (rowOf m (boolV fun _ => false)) 4)).alloc (.cells #[.slice aT m cT, .slice aA n cA, .slice (some ⟨w2.heap.size, 0, none⟩) m m] 52)) w2.heap.size m noneB) := ⟨_, (RowAt.new w2 4 (rowOf m (boolV fun _ => false))).alloc _, fun j hj => rowOf_get m _ j hj⟩
  have q4 := RowAt.new (w2.alloc (.cells (rowOf m (boolV fun _ => false)) 4)) 52 #[.slice aT m cT, .slice aA n cA, .slice (some ⟨w2.heap.size, 0, none⟩) m m]
  rw [World.size_alloc] at q4
  replace q4 := Lib.hid q4
  have sT4 := Lib.hid (sT.out.after b4)
  have sA4 := Lib.hid (sA.out.after b4)
  have r4 := Lib.hid (r2.out.below b4 r2.out.lt)
  have b5 := b2.trans (b4.mono b2.size)
  have lT4 : Hid (∀ ad, aT = some ad → ad.block < ((w2.alloc (.cells (rowOf m (boolV fun _ => false)) 4)).alloc (.cells #[.slice aT m cT, .slice aA n cA, .slice (some ⟨w2.heap.size, 0, none⟩) m m] 52)).heap.size) := fun ad e => Nat.lt_of_lt_of_le (lT.out ad e) b4.size
  have TT := Lib.hid (told_any (onceN K) (atN K) aT aA ak m cT n cA w2.heap.size m k ck noneB f hP (by omega) hk hlt.out _ sT4 lT4.out sA4 hB.out.sees (Lib.hid (hf.out.after b5)))
  clear E hb2 r1 r2 b1 b2 b3 b4 hT hA oT oA sT sA lT
  have hm6 : m ≤ 1000000 := by omega
  go_wp2_with (first | (refine wpList_make_bools rfl _ _ rfl m _ rfl rfl rfl hm6 ?_) | (refine wpList_load_row rfl 52 _ rfl (w2.heap.size + 1) rfl 52 #[.slice aT m cT, .slice aA n cA, .slice (some ⟨w2.heap.size, 0, none⟩) m m] (0, 0) _ q4.out Try.underlying52 rfl sz_mind ?_))
  refine TT.out.mono ?_
  rintro e w5 ⟨p, c5, rfl, hB5, hp5, hb5⟩
  have r5 := Lib.hid (r4.out.below hb5 r4.out.lt)
  have b6 := b5.trans (hb5.mono b5.size)
  have hne : Hid (p ≠ w.heap.size) := fun e => by have := r4.out.lt; omega
  have ap : Hid (Apart w.heap.size w5 (w5.setRow w.heap.size #[.slice aT m cT, .slice aA n cA, .slice (some ⟨p, 0, none⟩) m c5])) := (Apart.refl _ _).setRow _
  have b7 := b6.trans (ap.out.under (Nat.le_refl _) b6.size)
  have hB6 := Lib.hid (hB5.out.apart ap.out hne.out)
  have sT6 := Lib.hid ((sT4.out.after hb5).apart ap.out offT.out)
  have sA6 := Lib.hid ((sA4.out.after hb5).apart ap.out offA.out)
  have lT6 : Hid (∀ ad, aT = some ad → ad.block < (w5.setRow w.heap.size #[.slice aT m cT, .slice aA n cA, .slice (some ⟨p, 0, none⟩) m c5]).heap.size) := fun ad e => Nat.lt_of_lt_of_le (lT4.out ad e) (Nat.le_trans hb5.size ap.out.size)
  have r6 := Lib.hid (r5.out.setRow #[.slice aT m cT, .slice aA n cA, .slice (some ⟨p, 0, none⟩) m c5])
  rw [← ex.out] at hB6
  have E6 : Hid (MindAt K n aT aA p Z (w5.setRow w.heap.size #[.slice aT m cT, .slice aA n cA, .slice (some ⟨p, 0, none⟩) m c5])) := by
    unfold Hid MindAt
    rw [em'.out]
    exact ⟨sT6.out, lT6.out, sA6.out, hB6.out.sees⟩
  clear TT hB5 hb5 sT4 sA4 lT4 r4 q4 hB ap hp5 sT6 sA6 lT6 hB6 b5 b6
  go_wp2_with (first | (refine wpList_store_row rfl 52 _ _ rfl w.heap.size #[.slice aT m cT, .slice aA n cA, .slice (some ⟨p, 0, none⟩) m c5] rfl rfl 52 _ r5.out sz_mind rfl (mind_cells _ _ _ _ _ _ _ _ _) ?_))
  refine bodyPost_ret (v := .agg #[.slice aT m cT, .slice aA n cA, .slice (some ⟨p, 0, none⟩) m c5]) ?_ rfl ⟨aT, cT, aA, cA, p, c5, by rw [em'.out], E6, b7⟩
  exact results_cell_row Try.results23 _ _ w.heap.size 52 _ (0, 0) _ rfl r6.out Try.underlying52 rfl sz_mind

/-- What Can answers. -/
noncomputable def canB (K : Nds) (n : Nat) (S : Nat → Prop) (z : Int) : Bool := mayB K n && (inB n z && knB K n S z.toNat)

set_option maxHeartbeats 1000000 in
set_option maxRecDepth 8000 in
theorem advCan_any (K : Nds) (n : Nat) (a ak : Option Addr) (c k ck : Nat) (hc : n ≤ c) (hk : k ≤ 1000000) (f : Nat → Int) (z : Int) (w : World) (hs : Hid (SeesN w a n K)) (hf : Hid (SeesZ w ak k f)) :
    Calls Try.prog 14 #[.slice a n c, .slice ak k ck, .int .i64 z] w fun e w' => e = .returned (.bool (canB K n (inZ f k) z)) ∧ Below w.heap.size w w' := by
  cases hm : mayB K n
  · have M := Lib.hid (mindOf_no K n a ak c k ck hc hm w hs)
    have ec : Hid (canB K n (inZ f k) z = false) := by unfold Hid canB; rw [hm]; rfl
    clear hm
    go_enter Try.func14, Try.ntmps14
    go_wp2_with fail
    refine M.out.mono ?_
    rintro e w1 ⟨rfl, hb1⟩
    have C := Lib.hid (can_no none none none 0 0 0 0 0 0 z (by unfold inB; simp) w1)
    clear M
    go_wp2_with fail
    refine C.out.mono ?_
    rintro e w2 ⟨rfl, hb2⟩
    have b2 := hb1.trans (hb2.mono hb1.size)
    clear C hb1 hb2
    go_wp2
    go_ret
    exact ⟨by rw [ec.out]; rfl, b2⟩
  · have M := Lib.hid (mindOf_yes K n a ak c k ck hc hk f hm w hs hf)
    obtain ⟨hn, hK⟩ := (mayB_iff K n).1 hm
    have ec : Hid (canB K n (inZ f k) z = (inB n z && mindX K n f k (atN K z.toNat))) := by
      unfold Hid canB
      rw [hm, Bool.true_and]
      cases hi : inB n z
      · rfl
      · obtain ⟨i, hi', rfl⟩ := inB_nat hi
        rw [Int.toNat_natCast, Bool.true_and, Bool.true_and]
        exact (know_at hK f k hi').symm
    clear hm hK
    go_enter Try.func14, Try.ntmps14
    go_wp2_with fail
    refine M.out.mono ?_
    rintro e w1 ⟨aT, cT, aA, cA, p, c1, rfl, hM, hb1⟩
    have C := Lib.hid (can_any aT aA (cnt K n) cT n cA p c1 (atN K) (mindX K n f k) z (fun j hj => atN_lt hj) w1 hM.out.2.2.1 hM.out.2.2.2)
    rw [← ec.out] at C
    clear M
    go_wp2_with fail
    refine C.out.mono ?_
    rintro e w2 ⟨rfl, hb2⟩
    have b2 := hb1.trans (hb2.mono hb1.size)
    clear C hb1 hb2
    go_wp2
    go_ret
    exact ⟨rfl, b2⟩

/-- A bool appended. -/
theorem wpList_append_bool {ops : Array Oper} {rest : List Oper} {o : Oper} {a : Act} {w : World} {Q : Exit → Act → World → Prop} (hgd : o.guard = none) (s x : Operand)
    (ho : o.op = .call { callee := .builtin .append, args := #[s, x], argTypes := #[28, 28] }) (base : Nat) (v : Value) (n : Nat) (X : Nat → Bool) (z : Bool) (hz : z = X n) (hs : a.eval s = v) (w0 : World) (hown : w0.ownsRow base 4 1 v n (cellL n (boolV X)))
    (hw : w = w0.alloc (.cells #[.bool z] 4)) {g : Nat} (hx : a.eval x = .slice (some ⟨g, 0, none⟩) 1 1) (hgs : g = w0.heap.size) (hn : n ≤ 1000000) (hbase : base ≤ w0.heap.size)
    (h : ∀ v' w', Hid (w'.ownsRow base 4 1 v' (n + 1) (cellL (n + 1) (boolV X))) → Hid (w0.grownBy w' v.ownBlock) → Hid (Below base w0 w') → wpList Try.prog ops Q rest (a.put o.dst v') w') : wpList Try.prog ops Q (o :: rest) a w := by
  subst hz
  refine wpList_append_cs Try.underlying28 Try.infoBool rfl (by decide) (by decide) hgd s x ho base v n _ [.bool (X n)] hs w0 hown hw hx hgs rfl (fun u hu => by simp at hu; subst hu; rfl) hn hbase ?_
  intro v' w' h1
  have e : cellL n (boolV X) ++ [.bool (X n)] = cellL (n + 1) (boolV X) := cellL_succ n (boolV X)
  rw [e] at h1
  exact h v' w' h1

/-- How many answers Knows has. -/
def knN (K : Nds) (n : Nat) : Nat := if mayB K n = true then n else 0

set_option maxHeartbeats 2000000 in
set_option maxRecDepth 8000 in
theorem advKnows_any (K : Nds) (n : Nat) (a ak : Option Addr) (c k ck : Nat) (hc : n ≤ c) (hk : k ≤ 1000000) (f : Nat → Int) (w : World) (hs : Hid (SeesN w a n K)) (hf : Hid (SeesZ w ak k f)) :
    Calls Try.prog 12 #[.slice a n c, .slice ak k ck] w fun e w' => ∃ v, e = .returned v ∧ Hid (w'.ownsRow w.heap.size 4 1 v (knN K n) (cellL (knN K n) (boolV (knB K n (inZ f k))))) ∧ Below w.heap.size w w' := by
  cases hm : mayB K n
  · have M := Lib.hid (mindOf_no K n a ak c k ck hc hm w hs)
    have ec : knN K n = 0 := by unfold knN; rw [hm]; rfl
    rw [ec]
    clear hm ec
    go_enter Try.func12, Try.ntmps12
    go_wp2_with fail
    refine M.out.mono ?_
    rintro e w1 ⟨rfl, hb1⟩
    have b2 := hb1.alloc hb1.size (.cells #[.slice none 0 0, .slice none 0 0, .slice none 0 0] 52)
    clear M hb1
    go_wp2
    go_loopw [6, 14] (fun v c wr => v = .slice none 0 0 ∧ c = .int .i64 0 ∧ Below w.heap.size w wr) (fun _ _ _ => 0)
    case atStart => exact ⟨rfl, rfl, b2⟩
    case round =>
      obtain ⟨rfl, rfl, hb⟩ := hrel
      go_wp2
      go_ret
      exact ⟨_, rfl, World.ownsRow_nil _ _ _ _, hb⟩
  · have M := Lib.hid (mindOf_yes K n a ak c k ck hc hk f hm w hs hf)
    obtain ⟨hn, hK⟩ := (mayB_iff K n).1 hm
    have ec : knN K n = n := by unfold knN; rw [hm]; rfl
    rw [ec]
    have hX : Hid (∀ i, i < n → mindX K n f k (atN K i) = knB K n (inZ f k) i) := fun i hi => know_at hK f k hi
    clear hm ec hK
    go_enter Try.func12, Try.ntmps12
    go_wp2_with fail
    refine M.out.mono ?_
    rintro e w1 ⟨aT, cT, aA, cA, p, c1, rfl, hM, hb1⟩
    have al : Below w1.heap.size w1 (w1.alloc (.cells #[.slice aT (cnt K n) cT, .slice aA n cA, .slice (some ⟨p, 0, none⟩) (cnt K n) c1] 52)) := (Below.refl _ _).alloc (Nat.le_refl _) _
    have b2 := hb1.trans (al.mono hb1.size)
    have hM2 := Lib.hid (hM.out.after al)
    have r2 := Lib.hid (RowAt.new w1 52 #[.slice aT (cnt K n) cT, .slice aA n cA, .slice (some ⟨p, 0, none⟩) (cnt K n) c1])
    have hql : Hid (w.heap.size ≤ w1.heap.size) := hb1.size
    clear M hM al hb1
    have r2' := r2.out.lt
    go_wp2
    generalize w1.heap.size = q at *
    generalize w1.alloc _ = w2 at *
    have hql2 : Hid (w.heap.size ≤ w2.heap.size) := b2.size
    go_loopw [6, 14] (fun v c wr => ∃ j : Nat, j ≤ n ∧ c = .int .i64 (j : Int) ∧ Hid (wr.ownsRow w2.heap.size 4 1 v j (cellL j (boolV (knB K n (inZ f k))))) ∧ Below w2.heap.size w2 wr) (fun _ c _ => n - (intOf c).toNat)
    case atStart => exact ⟨0, Nat.zero_le _, rfl, World.ownsRow_nil _ _ _ _, Below.refl _ _⟩
    case round =>
      obtain ⟨j, hj, rfl, hown, hb⟩ := hrel
      by_cases hlt : j < n
      · have lj : (j : Int) < (n : Int) := by omega
        have hM3 := Lib.hid (hM2.out.after hb)
        have r3 := Lib.hid (r2.out.below hb r2.out.lt)
        have C := can_any aT aA (cnt K n) cT n cA p c1 (atN K) (mindX K n f k) (j : Int) (fun j hj => atN_lt hj) wr hM3.out.2.2.1 hM3.out.2.2.2
        rw [show (inB n (j : Int) && mindX K n f k (atN K (j : Int).toNat)) = knB K n (inZ f k) j by rw [Int.toNat_natCast, hX.out j hlt, show inB n (j : Int) = true by unfold inB; simp; omega, Bool.true_and]] at C
        replace C := Lib.hid C
        go_wp2_with (first | (refine wpList_load_row rfl 52 _ rfl q rfl 52 #[.slice aT (cnt K n) cT, .slice aA n cA, .slice (some ⟨p, 0, none⟩) (cnt K n) c1] (0, 0) _ r3.out Try.underlying52 rfl sz_mind ?_))
        refine C.out.mono ?_
        rintro e w5 ⟨rfl, hb5⟩
        have own5 := Lib.hid (own_onto hown.out hb5)
        have b5 := hb.trans (hb5.mono hb.size)
        clear C hb5 hb hown hM3 r3
        go_wp2_with (at_builtin; refine wpList_append_bool rfl _ _ rfl w2.heap.size _ j (knB K n (inZ f k)) _ rfl rfl w5 own5.out rfl rfl rfl (by omega) b5.size ?_; intro v9 w9 own9 g9 b9)
        have b10 := b5.trans b9.out
        go_roundw
        case rel => exact ⟨j + 1, by omega, by go_num, own9, b10⟩
        case measure => simp [intOf]; omega
      · have lj : ¬ (j : Int) < (n : Int) := by omega
        obtain rfl : j = n := by omega
        have own9 := Lib.hid (own_from hown.out hql2.out)
        have b10 := b2.trans (hb.mono hql2.out)
        clear hown hb
        go_wp2
        go_ret
        exact ⟨_, rfl, own9, b10⟩

end Go.Proofs.Ytjhalbifljnfjaa
