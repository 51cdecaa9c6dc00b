/-
  A region that draws its order, makes memory, and ends in stores that wait for all the rest: the rest in any order (as in XRely), then the stores, in a row.
-/
import Derived.Test.YtcglbbkphgdnmaaDoorRelyCells
import Derived.StillTail
namespace Go.Proofs.YtcglbbkphgdnmaaDoor
open Go.RowKit

/-- The first n done, the others not. -/
def headDone (n g : Nat) : Array Bool := (List.replicate n true ++ List.replicate g false).toArray

def relyTailB (ops : Array Oper) (n : Nat) : Bool :=
  relyB ops && decide (n < ops.size) && Region.sinkB .any ops n && Region.chainB .any ops n && Region.seqB .any ops (ops.size - n) n (headDone n (ops.size - n))

section
variable {P : Program} {ops : Array Oper} {C : World → Prop} {R : List Pred} {a0 : Act}

/-- What the walk over the first n shows, at all values at once. -/
theorem rely_head {n : Nat} (hn : n ≤ ops.size) {Q : Act → World → Prop} (vals : Nat → Value) : ∀ (l : List Oper) (rs : List Pred) (k : Nat), l = (ops.toList.take n).drop k → rs = R.drop k →
    wpRely P ops C R Q l rs (factsTo R vals k) (actTo ops a0 vals k) →
    (∀ j o, k ≤ j → j < n → ops[j]? = some o → ∀ w, C w → (∀ d ∈ depsOf o, predAt R d (vals d) w) → growsAt P ops o (actTo ops a0 vals j) w fun v w' => C w' ∧ predAt R j v w' ∧ Keeps R w w') ∧
    (k ≤ n → ∀ w, C w → (∀ i, i < n → predAt R i (vals i) w) → Q (actTo ops a0 vals n) w)
  | [], [], k, hl, _, h => by
    have hk : n ≤ k := by
      have := congrArg List.length hl
      simp at this
      omega
    refine ⟨fun j o hj hjn ho => by omega, fun hk2 w hw hall => ?_⟩
    have : k = n := by omega
    subst this
    exact h w hw (factsAll_of _ fun f hf => by
      unfold factsTo at hf
      simp only [List.mem_map, List.mem_range] at hf
      obtain ⟨i, hi, rfl⟩ := hf
      exact hall i hi)
  | o :: l, r :: rs, k, hl, hr, h => by
    obtain ⟨h1, h2⟩ := h
    have hkn : k < n := by
      have := congrArg List.length hl
      simp at this
      omega
    have hok : ops[k]? = some o := by
      have : ((ops.toList.take n).drop k)[0]? = some o := by rw [← hl]; rfl
      rw [List.getElem?_drop, Nat.add_zero, List.getElem?_take, if_pos hkn] at this
      simpa using this
    have hrk : predAt R k = r := by
      have : (R.drop k)[0]? = some r := by rw [← hr]; rfl
      unfold predAt
      rw [List.getElem?_drop] at this
      simp only [Nat.add_zero] at this
      rw [List.getD_eq_getElem?_getD, this]
      rfl
    have hl' : l = (ops.toList.take n).drop (k + 1) := by rw [← List.tail_drop, ← hl]; rfl
    have hr' : rs = R.drop (k + 1) := by rw [← List.tail_drop, ← hr]; rfl
    have h3 := h2 (vals k)
    rw [← hrk, ← factsTo_succ] at h3
    have h4 : (actTo ops a0 vals k).put o.dst (vals k) = actTo ops a0 vals (k + 1) := by
      show _ = (actTo ops a0 vals k).put (dstAt ops k) (vals k)
      unfold dstAt
      rw [hok]
      rfl
    rw [h4] at h3
    obtain ⟨i1, i2⟩ := rely_head hn vals l rs (k + 1) hl' hr' h3
    refine ⟨fun j o' hj hjn ho' w hw hd => ?_, fun _ => i2 (by omega)⟩
    by_cases e : j = k
    · subst e
      obtain rfl : o = o' := Option.some.inj (hok.symm.trans ho')
      rw [hrk]
      exact h1 w hw (factsOf_of _ fun d hu => hd d (usesOf_deps hu))
    · exact i1 j o' (by omega) hjn ho' w hw hd
  | [], _ :: _, _, _, _, h => by cases h
  | _ :: _, [], _, _, _, h => by cases h

theorem HeadInv.down {n : Nat} {L : Array Bool} (inv : HeadInv .any ops n L) : ∀ k o, ops[k]? = some o → L.getD k true = true → ∀ d ∈ depsOf o, L.getD d true = true := by
  intro k o ho hk d hd
  have hks : k < L.size := by rw [inv.size]; exact (Array.getElem?_eq_some_iff.1 ho).1
  have h1 : L.getD k false = true := by
    rw [Array.getD_eq_getD_getElem?, Array.getElem?_eq_getElem hks] at hk ⊢
    exact hk
  unfold depsOf at hd
  obtain ⟨e, he, rfl⟩ := List.mem_map.1 hd
  obtain ⟨he1, he2⟩ := List.mem_filter.1 he
  have := inv.closed k o ho h1 e (by simpa using he1) he2
  rw [Array.getD_eq_getD_getElem?] at this ⊢
  cases hx : L[e.on]? with
  | none => rfl
  | some b => rw [hx] at this; exact this

theorem actOf_head {L : Array Bool} {vals : Nat → Value} {n : Nat} (h1 : ∀ i, i < n → L.getD i true = true) : ∀ k, k ≤ n → actOf ops a0 L vals k = actTo ops a0 vals k
  | 0, _ => rfl
  | k + 1, hk => by
    show (if L.getD k true = true then _ else _) = _
    rw [if_pos (h1 k (by omega)), actOf_head h1 k (by omega)]
    rfl
theorem actOf_rest {L : Array Bool} {vals : Nat → Value} {n m : Nat} (h2 : ∀ i, n ≤ i → i < m → L.getD i true = false) : ∀ k, n + k ≤ m → actOf ops a0 L vals (n + k) = actOf ops a0 L vals n
  | 0, _ => rfl
  | k + 1, hk => by
    show (if L.getD (n + k) true = true then _ else _) = _
    rw [if_neg (by rw [h2 (n + k) (by omega) (by omega)]; simp)]
    exact actOf_rest h2 k (by omega)

theorem count_take {L : Array Bool} {n j : Nat} (hj : j < n) (hs : j < L.size) (hun : L.getD j true = false) : ((L.setIfInBounds j true).toList.take n).count false + 1 = (L.toList.take n).count false := by
  have hj1 : (L.toList.take n)[j]? = some false := by
    rw [List.getElem?_take, if_pos hj, Array.getElem?_toList, Array.getElem?_eq_getElem hs]
    simp [hs] at hun
    rw [hun]
  rw [Array.toList_setIfInBounds, List.take_set]
  have : ∀ (l : List Bool) (j : Nat), l[j]? = some false → (l.set j true).count false + 1 = l.count false := by
    intro l
    induction l with
    | nil => intro j h; simp at h
    | cons b l ih =>
      intro j h
      cases j with
      | zero => simp at h; subst h; simp
      | succ j =>
        have := ih j (by simpa using h)
        simp only [List.set_cons_succ, List.count_cons]
        omega
  exact this _ _ hj1

theorem wpAny_rely_tail {n : Nat} {Q : Exit → Act → World → Prop} (hB : relyTailB ops n = true) (h : wpRely P ops C R (fun a w => wpList P ops Q (ops.toList.drop n) a w) (ops.toList.take n) R [] a0) :
    ∀ (f : Nat) (L : Array Bool) (vals : Nat → Value) (w : World), HeadInv .any ops n L → (L.toList.take n).count false = f → C w → (∀ i, i < n → L.getD i true = true → predAt R i (vals i) w) →
      wpAny P .any ops Q (f + (ops.size - n)) L (actOf ops a0 L vals ops.size) w := by
  unfold relyTailB at hB
  simp only [Bool.and_eq_true, decide_eq_true_eq] at hB
  obtain ⟨⟨⟨⟨hB, hn⟩, hs⟩, hc⟩, hq⟩ := hB
  intro f
  induction f with
  | zero =>
    intro L vals w inv hcount hC hR
    have hall : ∀ i, i < n → L.getD i true = true := by
      intro i hi
      cases hv : L.getD i true with
      | true => rfl
      | false =>
        have := count_take (n := n) hi (by rw [inv.size]; omega) hv
        omega
    have hL : L = headDone n (ops.size - n) := by
      apply Array.ext
      · rw [inv.size]
        unfold headDone
        simp
        omega
      · intro i h1 h2
        have hi : i < ops.size := by rw [← inv.size]; exact h1
        have hx : ∀ b, (List.replicate n true ++ List.replicate (ops.size - n) false)[i]? = some b → (headDone n (ops.size - n))[i] = b := by
          intro b hb
          have e : (headDone n (ops.size - n))[i]? = some b := by
            unfold headDone
            rw [List.getElem?_toArray]
            exact hb
          rw [Array.getElem?_eq_getElem h2] at e
          exact Option.some.inj e
        by_cases hin : i < n
        · have := hall i hin
          rw [Array.getD_eq_getD_getElem?, Array.getElem?_eq_getElem h1] at this
          rw [hx true (by rw [List.getElem?_append_left (by simpa using hin)]; simp [hin])]
          exact this
        · have := inv.tail i (by omega) hi
          rw [Array.getD_eq_getD_getElem?, Array.getElem?_eq_getElem h1] at this
          rw [hx false (by rw [List.getElem?_append_right (by simpa using Nat.le_of_not_lt hin), List.getElem?_replicate, if_pos (by simp only [List.length_replicate]; omega)])]
          exact this
    have hact : actOf ops a0 L vals ops.size = actTo ops a0 vals n := by
      have e1 := actOf_rest (ops := ops) (a0 := a0) (vals := vals) (fun i h1 h2 => inv.tail i h1 h2) (ops.size - n) (by omega)
      rw [show n + (ops.size - n) = ops.size by omega] at e1
      rw [e1, actOf_head hall n (Nat.le_refl _)]
    rw [hact, Nat.zero_add]
    have hw := (rely_head (by omega) (a0 := a0) vals (ops.toList.take n) R 0 (by simp) (by simp) h).2 (Nat.zero_le _) w hC (fun i hi => hR i hi (hall i hi))
    have hlen : (ops.toList.drop n).length = ops.size - n := by simp
    have := wpAny_of_seq (P := P) (md := .any) (ops := ops) (Q' := Q) (ops.toList.drop n) n L (actTo ops a0 vals n) w (fun j => by simp [List.getElem?_drop]) (by rw [hlen, hL]; exact hq) hw
    rw [hlen] at this
    exact this
  | succ f ih =>
    intro L vals w inv hcount hC hR
    have hdown := HeadInv.down inv
    have hex : ∃ i, i < n ∧ L.getD i true = false := by
      refine Classical.byContradiction fun hne => ?_
      have : ∀ b ∈ L.toList.take n, b = true := by
        intro b hb
        obtain ⟨i, hi, rfl⟩ := List.getElem_of_mem hb
        have hi1 : i < n := by simp at hi; omega
        have hi2 : i < L.size := by simp at hi; omega
        rw [List.getElem_take]
        cases hv : L.getD i true with
        | true =>
          rw [Array.getD_eq_getD_getElem?, Array.getElem?_eq_getElem hi2] at hv
          simpa using hv
        | false => exact absurd ⟨i, hi1, hv⟩ hne
      have : (L.toList.take n).count false = 0 := List.count_eq_zero.2 fun hf => by cases this _ hf
      omega
    have hready : ∀ j ∈ Region.ready .any ops L, j < n := by
      intro j hj
      obtain ⟨i, hi, hun⟩ := hex
      refine Nat.lt_of_not_le fun hnj => ?_
      exact tail_waits hs hc hn inv (n - i) i rfl hi hun j hnj hj
    rw [show f + 1 + (ops.size - n) = (f + (ops.size - n)) + 1 by omega]
    refine ⟨fun hr => ?_, fun j hj => ?_⟩
    · exfalso
      obtain ⟨i, hi, hun⟩ := hex
      have : ∀ m i, i ≤ m → i < n → L.getD i true = true := by
        intro m
        induction m with
        | zero =>
          intro i him hi
          cases hv : L.getD i true with
          | true => rfl
          | false =>
            exfalso
            have hkk : ops[i]? = some ops[i] := Array.getElem?_eq_getElem (by omega)
            have : i ∈ Region.ready .any ops L := mem_ready.2 ⟨hv, _, hkk, fun e he hb => by
              have := relyB_deps hB hkk (d := e.on) (by unfold depsOf; exact List.mem_map.2 ⟨e, List.mem_filter.2 ⟨by simpa using he, hb⟩, rfl⟩)
              omega⟩
            rw [hr] at this
            cases this
        | succ m ihm =>
          intro i him hi
          cases hv : L.getD i true with
          | true => rfl
          | false =>
            exfalso
            have hkk : ops[i]? = some ops[i] := Array.getElem?_eq_getElem (by omega)
            have : i ∈ Region.ready .any ops L := mem_ready.2 ⟨hv, _, hkk, fun e he hb => by
              have hlt := relyB_deps hB hkk (d := e.on) (by unfold depsOf; exact List.mem_map.2 ⟨e, List.mem_filter.2 ⟨by simpa using he, hb⟩, rfl⟩)
              have := ihm e.on (by omega) (by omega)
              rw [Array.getD_eq_getD_getElem?] at this ⊢
              rw [Array.getElem?_eq_getElem (by rw [inv.size]; omega)] at this ⊢
              exact this⟩
            rw [hr] at this
            cases this
      rw [this i i (Nat.le_refl _) hi] at hun
      cases hun
    · obtain ⟨hun, o, ho, hall⟩ := mem_ready.1 hj
      have hjn := hready j hj
      have hjs : j < ops.size := by omega
      have hrd : ∀ d ∈ depsOf o, L.getD d true = true := fun d hd => by
        unfold depsOf at hd
        obtain ⟨e, he, rfl⟩ := List.mem_map.1 hd
        obtain ⟨he1, he2⟩ := List.mem_filter.1 he
        have := hall e (by simpa using he1) he2
        rw [Array.getD_eq_getD_getElem?] at this ⊢
        cases hx : L[e.on]? with
        | none => rfl
        | some b => rw [hx] at this; exact this
      have hdlt : ∀ d ∈ depsOf o, d < n := fun d hd => Nat.lt_trans (relyB_deps hB ho hd) hjn
      have hg := (rely_head (by omega) (a0 := a0) vals (ops.toList.take n) R 0 (by simp) (by simp) h).1 j o (Nat.zero_le _) hjn ho w hC (fun d hd => hR d (hdlt d hd) (hrd d hd))
      have hsame : ∀ d ∈ o.looksAt ops, (actOf ops a0 L vals ops.size).tmps[d]? = (actTo ops a0 vals j).tmps[d]? := fun d hd => look_same hB hdown ho hun hrd hd ops.size (by omega) (Nat.le_refl _)
      have hsel := Region.noSelect_spec (ops := ops) (by unfold relyB at hB; simp only [Bool.and_eq_true] at hB; exact hB.1)
      have hg' : growsAt P ops o (actOf ops a0 L vals ops.size) w fun v w' => C w' ∧ predAt R j v w' ∧ Keeps R w w' := by
        unfold growsAt at hg ⊢
        rw [wanted_look hsame, execOp_look (fun cs b => hsel j o cs b ho) hsame]
        exact hg
      refine wpOp_of_grows ho hg' fun v w' ⟨hC', hr', hk'⟩ => ?_
      have hput := actOf_put (a0 := a0) (vals := vals) hB hdown ho hun v ops.size (Nat.le_refl _)
      rw [if_pos hjs] at hput
      have hd : dstAt ops j = o.dst := by unfold dstAt; rw [ho]; rfl
      rw [hd] at hput
      rw [← hput]
      refine ih _ _ w' (inv.set hj hjn) ?_ hC' ?_
      · have := count_take (n := n) hjn (by rw [inv.size]; omega) hun
        omega
      · intro i hi hLi
        by_cases e : i = j
        · subst e
          simp only [if_pos]
          exact hr'
        · rw [if_neg e]
          rw [getD_set_ne true (fun h => e h.symm)] at hLi
          exact hk' i _ (hR i hi hLi)

/-- **One walk over the first n, in the order of the text, then the rest in a row, serves every order.** -/
theorem wp_region_rely_tail {id : Nat} {Q : Exit → Act → World → Prop} {w : World} {l : List Oper} (n : Nat) (C : World → Prop) (rs : List Pred) (hm : P.follows .mixedOrders = true) (hB : relyTailB l.toArray n = true) (hC : C w.drew) (hst : Steady rs)
    (h : ∀ R, Steady R → wpRely P l.toArray C R (fun a w => wpList P l.toArray Q (l.drop n) a w) (l.take n) rs [] a0) : (Code.region id l.toArray true).wp P Q a0 w := by
  refine wp_region_any hm ?_
  have inv0 : HeadInv .any l.toArray n (Array.replicate l.toArray.size false) :=
    ⟨by simp, fun j oj _ hl => (by rw [getD_replicate_false] at hl; cases hl), fun t _ ht => getD_in (by simpa using ht) (getD_replicate_false _ _)⟩
  have hn : n < l.toArray.size := by
    unfold relyTailB at hB
    simp only [Bool.and_eq_true, decide_eq_true_eq] at hB
    exact hB.1.1.1.2
  have hcount : ((Array.replicate l.toArray.size false).toList.take n).count false = n := by
    have : n < l.length := by simpa using hn
    simp
    omega
  have hno : ∀ k, k < l.toArray.size → (Array.replicate l.toArray.size false).getD k true = false := fun k hk => by
    rw [Array.getD_eq_getD_getElem?, Array.getElem?_replicate, if_pos hk]
    rfl
  have := wpAny_rely_tail (P := P) (ops := l.toArray) (C := C) (R := rs) (a0 := a0) (Q := Q) hB (by simpa using h rs hst) n (Array.replicate l.toArray.size false) (fun _ => undef) w.drew inv0 hcount hC
    (fun i hi hk => by rw [hno i (by omega)] at hk; cases hk)
  have he : actOf l.toArray a0 (Array.replicate l.toArray.size false) (fun _ => undef) l.toArray.size = a0 := by
    have := actOf_rest (ops := l.toArray) (a0 := a0) (vals := fun _ => undef) (n := 0) (m := l.toArray.size) (fun i _ hi => hno i hi) l.toArray.size (by omega)
    rw [Nat.zero_add] at this
    exact this
  rw [he, show n + (l.toArray.size - n) = l.toArray.size by omega] at this
  exact this

end

end Go.Proofs.YtcglbbkphgdnmaaDoor
