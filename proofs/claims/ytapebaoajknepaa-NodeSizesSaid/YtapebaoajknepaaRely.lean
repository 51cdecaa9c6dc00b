/-
  A region that draws its order and makes memory: every operation is held to what it waits for, and keeps what has been reached; then every order ends alike.
-/
import Derived.Test.YtapebaoajknepaaBytes
import Derived.Orders
namespace Go.Proofs.Ytapebaoajknepaa
open Go.RowKit

/-- What an operation waits for. -/
def depsOf (o : Oper) : List Nat := (o.after.toList.filter (Region.binds .any)).map (·.on)

/-- Those of them whose values it looks at. -/
def usesOf (ops : Array Oper) (o : Oper) : List Nat :=
  (List.range ops.size).filter fun d => (depsOf o).contains d && match (ops[d]?).bind (·.dst) with
    | some t => (o.looksAt ops).contains t
    | none => false

theorem usesOf_deps {ops : Array Oper} {o : Oper} {d : Nat} (h : d ∈ usesOf ops o) : d ∈ depsOf o := by
  unfold usesOf at h
  have := (List.mem_filter.1 h).2
  simp only [Bool.and_eq_true] at this
  simpa using this.1

/-- Of the facts reached so far: those of these places. -/
def factsOf (F : List (World → Prop)) (w : World) : List Nat → Prop
  | [] => True
  | d :: ds => (F.getD d (fun _ => True)) w ∧ factsOf F w ds

/-- All facts. -/
def factsAll (w : World) : List (World → Prop) → Prop
  | [] => True
  | f :: F => f w ∧ factsAll w F

/-- What is asked once an operation has yielded. -/
def growUpon (P : Program) (Post : Value → World → Prop) : Result Next → Prop
  | .ok (.value u) w' => Post u w'
  | .ok .skip w' => Post undef w'
  | .ok (.enter f args) w' => Calls P f args w' (fun e w'' => ∃ v, e = .returned v ∧ Post v w'')
  | _ => False

def growsAt (P : Program) (ops : Array Oper) (o : Oper) (a : Act) (w : World) (Post : Value → World → Prop) : Prop :=
  if Region.wanted o (yielded ops a.tmps) = true then growUpon P Post ((execOp a.eval o).run P w) else Post undef w

abbrev Pred := Value → World → Prop

/-- What is told of number i's value. -/
def predAt (R : List Pred) (i : Nat) : Pred := R.getD i (fun _ _ => True)

/-- What has been reached is kept. -/
def Keeps (R : List Pred) (w w' : World) : Prop := ∀ i v, predAt R i v w → predAt R i v w'

/-- The walk, in the order of the text: the values are letters; what an operation may use of them is what is told of those that it waits for. -/
def wpRely (P : Program) (ops : Array Oper) (C : World → Prop) (R : List Pred) (Q : Act → World → Prop) : List Oper → List Pred → List (World → Prop) → Act → Prop
  | o :: l, r :: rs, F, a => (∀ w, C w → factsOf F w (usesOf ops o) → growsAt P ops o a w fun v w' => C w' ∧ r v w' ∧ Keeps R w w') ∧ ∀ v, wpRely P ops C R Q l rs (F ++ [r v]) (a.put o.dst v)
  | [], [], F, a => ∀ w, C w → factsAll w F → Q a w
  | _, _, _, _ => False

def dstAt (ops : Array Oper) (k : Nat) : Option Tmp := (ops[k]?).bind (·.dst)

/-- The frame with the first k values laid. -/
def actTo (ops : Array Oper) (a0 : Act) (vals : Nat → Value) : Nat → Act
  | 0 => a0
  | k + 1 => (actTo ops a0 vals k).put (dstAt ops k) (vals k)

/-- The frame with those of the first k values laid that have come up. -/
def actOf (ops : Array Oper) (a0 : Act) (L : Array Bool) (vals : Nat → Value) : Nat → Act
  | 0 => a0
  | k + 1 => if L.getD k true = true then (actOf ops a0 L vals k).put (dstAt ops k) (vals k) else actOf ops a0 L vals k

/-- Each pair is apart, or the later one waits for the earlier one; nobody waits for a later one. -/
def relyB (ops : Array Oper) : Bool :=
  Region.noSelect ops && (List.range ops.size).all fun j => match ops[j]? with
    | none => true
    | some oj => (depsOf oj).all (fun d => decide (d < j)) && (List.range j).all fun k => (depsOf oj).contains k || match ops[k]? with
      | none => true
      | some ok => ok.apart ops oj

theorem relyB_deps {ops : Array Oper} (h : relyB ops = true) {j : Nat} {o : Oper} (ho : ops[j]? = some o) {d : Nat} (hd : d ∈ depsOf o) : d < j := by
  unfold relyB at h
  simp only [Bool.and_eq_true] at h
  have hj : j < ops.size := (Array.getElem?_eq_some_iff.1 ho).1
  have h2 := List.all_eq_true.1 h.2 j (by simpa using hj)
  simp only [ho, Bool.and_eq_true] at h2
  have := List.all_eq_true.1 h2.1 d hd
  simpa using this

theorem relyB_pair {ops : Array Oper} (h : relyB ops = true) {j k : Nat} {oj ok : Oper} (hj : ops[j]? = some oj) (hk : ops[k]? = some ok) (hkj : k < j) (hn : k ∉ depsOf oj) : ok.apart ops oj = true := by
  unfold relyB at h
  simp only [Bool.and_eq_true] at h
  have hjs : j < ops.size := (Array.getElem?_eq_some_iff.1 hj).1
  have h2 := List.all_eq_true.1 h.2 j (by simpa using hjs)
  simp only [hj, Bool.and_eq_true] at h2
  have h3 := List.all_eq_true.1 h2.2 k (by simpa using hkj)
  simp only [hk, Bool.or_eq_true] at h3
  rcases h3 with h3 | h3
  · exact absurd (by simpa using h3) hn
  · exact h3

theorem put_look {a : Act} {dst : Option Tmp} {v : Value} {d : Nat} (h : dst ≠ some d) : (a.put dst v).tmps[d]? = a.tmps[d]? := by
  cases dst with
  | none => rfl
  | some t =>
    have : t ≠ d := fun e => h (by rw [e])
    simp [Act.put, Array.getElem?_setIfInBounds_ne this]

theorem put_same {a a' : Act} {dst : Option Tmp} {v : Value} {d : Nat} (h : a.tmps[d]? = a'.tmps[d]?) : (a.put dst v).tmps[d]? = (a'.put dst v).tmps[d]? := by
  cases dst with
  | none => exact h
  | some t =>
    by_cases e : t = d
    · subst e
      simp only [Act.put, Array.getElem?_setIfInBounds_self]
      by_cases h1 : t < a.tmps.size
      · have h2 : t < a'.tmps.size := by
          rw [Array.getElem?_eq_getElem h1] at h
          exact (Array.getElem?_eq_some_iff.1 h.symm).1
        rw [if_pos h1, if_pos h2]
      · have h2 : ¬ t < a'.tmps.size := fun h3 => by
          rw [Array.getElem?_eq_getElem h3] at h
          exact h1 (Array.getElem?_eq_some_iff.1 h).1
        rw [if_neg h1, if_neg h2]
    · rw [put_look (by simpa using e), put_look (by simpa using e), h]

section
variable {P : Program} {ops : Array Oper} {C : World → Prop} {R : List Pred} {a0 : Act}

/-- The facts on the first k values. -/
def factsTo (R : List Pred) (vals : Nat → Value) (k : Nat) : List (World → Prop) := (List.range k).map fun i => predAt R i (vals i)

theorem factsTo_succ (vals : Nat → Value) (k : Nat) : factsTo R vals (k + 1) = factsTo R vals k ++ [predAt R k (vals k)] := by
  unfold factsTo
  rw [List.range_succ, List.map_append]
  rfl

theorem factsOf_of {vals : Nat → Value} {w : World} {k : Nat} : ∀ (ds : List Nat), (∀ d ∈ ds, predAt R d (vals d) w) → factsOf (factsTo R vals k) w ds
  | [], _ => trivial
  | d :: ds, h => by
    refine ⟨?_, factsOf_of ds fun d' hd' => h d' (List.mem_cons_of_mem _ hd')⟩
    unfold factsTo
    by_cases hd : d < k
    · simp [List.getD_eq_getElem?_getD, hd]
      exact h d (List.mem_cons_self ..)
    · simp [List.getD_eq_getElem?_getD, List.getElem?_eq_none (show ((List.range k).map fun i => predAt R i (vals i)).length ≤ d by simp; omega)]

theorem factsAll_of {w : World} : ∀ (F : List (World → Prop)), (∀ f ∈ F, f w) → factsAll w F
  | [], _ => trivial
  | f :: F, h => ⟨h f (List.mem_cons_self ..), factsAll_of F fun g hg => h g (List.mem_cons_of_mem _ hg)⟩

/-- What the walk shows, at all values at once. -/
theorem rely_all {Q : Act → World → Prop} (vals : Nat → Value) : ∀ (l : List Oper) (rs : List Pred) (k : Nat), l = ops.toList.drop k → rs = R.drop k →
    wpRely P ops C R Q l rs (factsTo R vals k) (actTo ops a0 vals k) →
    (∀ j o, k ≤ j → ops[j]? = some o → ∀ w, C w → (∀ d ∈ depsOf o, predAt R d (vals d) w) → growsAt P ops o (actTo ops a0 vals j) w fun v w' => C w' ∧ predAt R j v w' ∧ Keeps R w w') ∧
    (k ≤ ops.size → ∀ w, C w → (∀ i, i < ops.size → predAt R i (vals i) w) → Q (actTo ops a0 vals ops.size) w)
  | [], [], k, hl, _, h => by
    have hk : ops.size ≤ k := by
      have := congrArg List.length hl
      simp at this
      omega
    refine ⟨fun j o hj ho => ?_, fun hk2 w hw hall => ?_⟩
    · have := (Array.getElem?_eq_some_iff.1 ho).1
      omega
    · have : k = ops.size := by omega
      subst this
      exact h w hw (factsAll_of _ fun f hf => by
        unfold factsTo at hf
        simp only [List.mem_map, List.mem_range] at hf
        obtain ⟨i, hi, rfl⟩ := hf
        exact hall i hi)
  | o :: l, r :: rs, k, hl, hr, h => by
    obtain ⟨h1, h2⟩ := h
    have hok : ops[k]? = some o := by
      have : (ops.toList.drop k)[0]? = some o := by rw [← hl]; rfl
      simpa using this
    have hrk : predAt R k = r := by
      have : (R.drop k)[0]? = some r := by rw [← hr]; rfl
      unfold predAt
      rw [List.getElem?_drop] at this
      simp only [Nat.add_zero] at this
      rw [List.getD_eq_getElem?_getD, this]
      rfl
    have hl' : l = ops.toList.drop (k + 1) := by rw [← List.tail_drop, ← hl]; rfl
    have hr' : rs = R.drop (k + 1) := by rw [← List.tail_drop, ← hr]; rfl
    have h3 := h2 (vals k)
    rw [← hrk, ← factsTo_succ] at h3
    have h4 : (actTo ops a0 vals k).put o.dst (vals k) = actTo ops a0 vals (k + 1) := by
      show _ = (actTo ops a0 vals k).put (dstAt ops k) (vals k)
      unfold dstAt
      rw [hok]
      rfl
    rw [h4] at h3
    obtain ⟨i1, i2⟩ := rely_all vals l rs (k + 1) hl' hr' h3
    have hks : k < ops.size := (Array.getElem?_eq_some_iff.1 hok).1
    refine ⟨fun j o' hj ho' w hw hd => ?_, fun _ => i2 (by omega)⟩
    by_cases e : j = k
    · subst e
      obtain rfl : o = o' := Option.some.inj (hok.symm.trans ho')
      rw [hrk]
      exact h1 w hw (factsOf_of _ fun d hu => hd d (usesOf_deps hu))
    · exact i1 j o' (by omega) ho' w hw hd
  | [], _ :: _, _, _, _, h => by cases h
  | _ :: _, [], _, _, _, h => by cases h

/-- An operation that may come up looks at what it waits for, and at what was there before. -/
theorem look_same (hB : relyB ops = true) {L : Array Bool} {vals : Nat → Value} (hdown : ∀ k o, ops[k]? = some o → L.getD k true = true → ∀ d ∈ depsOf o, L.getD d true = true) {j : Nat} {o : Oper} (ho : ops[j]? = some o)
    (hun : L.getD j true = false) (hrd : ∀ d ∈ depsOf o, L.getD d true = true) {d : Nat} (hd : d ∈ o.looksAt ops) : ∀ n, j ≤ n → n ≤ ops.size → (actOf ops a0 L vals n).tmps[d]? = (actTo ops a0 vals j).tmps[d]? := by
  have one : ∀ m, m ≤ j → (actOf ops a0 L vals m).tmps[d]? = (actTo ops a0 vals m).tmps[d]? := by
    intro m
    induction m with
    | zero => intro _; rfl
    | succ k ih =>
      intro hk
      have ihk := ih (by omega)
      show (if L.getD k true = true then (actOf ops a0 L vals k).put (dstAt ops k) (vals k) else actOf ops a0 L vals k).tmps[d]? = ((actTo ops a0 vals k).put (dstAt ops k) (vals k)).tmps[d]?
      by_cases hL : L.getD k true = true
      · rw [if_pos hL]
        exact put_same ihk
      · rw [if_neg hL, put_look, ihk]
        intro hdst
        have hjs : j < ops.size := (Array.getElem?_eq_some_iff.1 ho).1
        have hkk : ops[k]? = some ops[k] := Array.getElem?_eq_getElem (by omega)
        have hap := relyB_pair hB ho hkk (by omega) (fun hm => hL (hrd k hm))
        unfold dstAt at hdst
        rw [hkk] at hdst
        exact (Oper.apart_spec hap).1 d hdst hd
  intro n hn
  induction n with
  | zero =>
    intro _
    have : j = 0 := by omega
    subst this
    rfl
  | succ k ih =>
    intro hks
    by_cases e : j = k + 1
    · subst e; exact one _ (Nat.le_refl _)
    · have ihk := ih (by omega) (by omega)
      show (if L.getD k true = true then (actOf ops a0 L vals k).put (dstAt ops k) (vals k) else actOf ops a0 L vals k).tmps[d]? = _
      by_cases hL : L.getD k true = true
      · rw [if_pos hL, put_look, ihk]
        intro hdst
        have hkk : ops[k]? = some ops[k] := Array.getElem?_eq_getElem (by omega)
        have hjk : j ≠ k := fun e => by subst e; rw [hun] at hL; cases hL
        have hap := relyB_pair hB hkk ho (by omega) (fun hm => by have := hdown k _ hkk hL j hm; rw [hun] at this; cases this)
        unfold dstAt at hdst
        rw [hkk] at hdst
        exact (Oper.apart_spec hap).2.2 d hdst hd
      · rw [if_neg hL]; exact ihk

theorem upd_ne {vals : Nat → Value} {j k : Nat} {v : Value} (h : k ≠ j) : (fun i => if i = j then v else vals i) k = vals k := if_neg h

theorem actOf_put (hB : relyB ops = true) {L : Array Bool} {vals : Nat → Value} (hdown : ∀ k o, ops[k]? = some o → L.getD k true = true → ∀ d ∈ depsOf o, L.getD d true = true) {j : Nat} {o : Oper} (ho : ops[j]? = some o)
    (hun : L.getD j true = false) (v : Value) : ∀ n, n ≤ ops.size → actOf ops a0 (L.setIfInBounds j true) (fun i => if i = j then v else vals i) n = if j < n then (actOf ops a0 L vals n).put (dstAt ops j) v else actOf ops a0 L vals n := by
  have hjs : j < ops.size := (Array.getElem?_eq_some_iff.1 ho).1
  intro n
  induction n with
  | zero => intro _; rfl
  | succ k ih =>
    intro hk
    have ihk := ih (by omega)
    show (if (L.setIfInBounds j true).getD k true = true then (actOf ops a0 (L.setIfInBounds j true) _ k).put (dstAt ops k) _ else actOf ops a0 (L.setIfInBounds j true) _ k) = _
    rw [ihk]
    show _ = if j < k + 1 then (if L.getD k true = true then (actOf ops a0 L vals k).put (dstAt ops k) (vals k) else actOf ops a0 L vals k).put (dstAt ops j) v else if L.getD k true = true then (actOf ops a0 L vals k).put (dstAt ops k) (vals k) else actOf ops a0 L vals k
    by_cases e : k = j
    · subst e
      have h1 : (L.setIfInBounds k true).getD k true = true := by
        simp
      rw [if_pos h1, if_neg (by omega), if_pos (by omega), if_neg (by rw [hun]; simp)]
      simp
    · have h1 : (L.setIfInBounds j true).getD k true = L.getD k true := getD_set_ne true (fun h => e h.symm)
      rw [h1]
      by_cases hL : L.getD k true = true
      · rw [if_pos hL, if_pos hL, upd_ne e]
        by_cases hjk : j < k
        · rw [if_pos hjk, if_pos (by omega)]
          have hkk : ops[k]? = some ops[k] := Array.getElem?_eq_getElem (by omega)
          have hap := relyB_pair hB hkk ho hjk (fun hm => by have := hdown k _ hkk hL j hm; rw [hun] at this; cases this)
          refine Act.put_comm _ _ _ fun d hd => ?_
          have h2 := (Oper.apart_spec hap).2.1 d
          unfold dstAt at hd ⊢
          rw [ho] at hd
          rw [hkk]
          exact h2 hd
        · rw [if_neg hjk, if_neg (by omega)]
      · rw [if_neg hL, if_neg hL]
        by_cases hjk : j < k
        · rw [if_pos hjk, if_pos (by omega)]
        · rw [if_neg hjk, if_neg (by omega)]

theorem actOf_all {L : Array Bool} {vals : Nat → Value} (h : ∀ k, L.getD k true = true) : ∀ n, actOf ops a0 L vals n = actTo ops a0 vals n
  | 0 => rfl
  | k + 1 => by
    show (if L.getD k true = true then _ else _) = _
    rw [if_pos (h k), actOf_all h k]
    rfl

theorem looks_tmp {o : Oper} {t : Tmp} (h : .tmp t ∈ o.op.operands) : t ∈ o.looksAt ops :=
  List.mem_append_left _ (List.mem_filterMap.2 ⟨.tmp t, by simpa using h, rfl⟩)

theorem execOp_look {o : Oper} (hs : ∀ cs b, o.op ≠ .select cs b) {a a' : Act} (h : ∀ d ∈ o.looksAt ops, a.tmps[d]? = a'.tmps[d]?) : execOp a.eval o = execOp a'.eval o :=
  execOp_congr o hs fun x hx => by
    cases x with
    | tmp t => simp only [Act.eval, Array.getD_eq_getD_getElem?, h t (looks_tmp hx)]
    | _ => rfl

theorem wanted_look {o : Oper} {a a' : Act} (h : ∀ d ∈ o.looksAt ops, a.tmps[d]? = a'.tmps[d]?) : Region.wanted o (yielded ops a.tmps) = Region.wanted o (yielded ops a'.tmps) := by
  unfold Region.wanted
  cases hg : o.guard with
  | none => rfl
  | some gw =>
    obtain ⟨g, want⟩ := gw
    have hy : yielded ops a.tmps g = yielded ops a'.tmps g := by
      unfold yielded
      cases ht : (ops[g]?).bind (·.dst) with
      | none => rfl
      | some t => simp only [Option.bind_some]; rw [h t (by simp [Oper.looksAt, hg, ht])]
    simp only [hy]

theorem wpOp_of_grows {Q : Exit → Act → World → Prop} {i : Nat} {o : Oper} {a : Act} {w : World} {Post : Value → World → Prop} {K : Act → World → Prop} (ho : ops[i]? = some o) (h : growsAt P ops o a w Post) (hK : ∀ v w', Post v w' → K (a.put o.dst v) w') : wpOp P ops Q i K a w := by
  unfold wpOp
  simp only [ho]
  unfold growsAt at h
  split
  · rename_i hw
    rw [if_pos hw] at h
    refine .inl ?_
    unfold Oper.wp
    generalize (execOp a.eval o).run P w = r at *
    cases r with
    | ok n w' =>
      cases n <;> simp only [growUpon] at h <;> simp only [Oper.upon]
      case value u => exact hK _ _ h
      case skip => exact hK _ _ h
      case enter f args => exact h.mono fun e w'' ⟨v, he, hp⟩ => by subst he; exact hK _ _ hp
    | halt x w' => simp only [growUpon] at h
  · rename_i hw
    rw [if_neg hw] at h
    exact hK _ _ h

/-- How many have not come up. -/
theorem count_set {L : Array Bool} {j : Nat} (h : j < L.size) (hun : L.getD j true = false) : (L.setIfInBounds j true).toList.count false + 1 = L.toList.count false := by
  have hj : L.toList[j]? = some false := by
    rw [Array.getElem?_toList, Array.getElem?_eq_getElem h]
    simp [h] at hun
    rw [hun]
  rw [Array.toList_setIfInBounds]
  have : ∀ (l : List Bool) (j : Nat), l[j]? = some false → (l.set j true).count false + 1 = l.count false := by
    intro l
    induction l with
    | nil => intro j h; simp at h
    | cons b l ih =>
      intro j h
      cases j with
      | zero => simp at h; subst h; simp
      | succ j =>
        have := ih j (by simpa using h)
        simp only [List.set_cons_succ, List.count_cons]
        omega
  exact this _ _ hj

theorem wpAny_rely {Q : Exit → Act → World → Prop} (hB : relyB ops = true) (h : wpRely P ops C R (fun a w => Q .normal a w) ops.toList R [] a0) :
    ∀ (fuel : Nat) (L : Array Bool) (vals : Nat → Value) (w : World), L.size = ops.size → L.toList.count false ≤ fuel → C w →
      (∀ k o, ops[k]? = some o → L.getD k true = true → ∀ d ∈ depsOf o, L.getD d true = true) → (∀ i, i < ops.size → L.getD i true = true → predAt R i (vals i) w) →
      wpAny P .any ops Q fuel L (actOf ops a0 L vals ops.size) w := by
  have fin : ∀ (L : Array Bool) (vals : Nat → Value) (w : World), C w → (∀ k, L.getD k true = true) → (∀ i, i < ops.size → L.getD i true = true → predAt R i (vals i) w) → Q .normal (actOf ops a0 L vals ops.size) w := by
    intro L vals w hC hall hR
    rw [actOf_all hall]
    exact (rely_all (a0 := a0) vals ops.toList R 0 (by simp) (by simp) h).2 (Nat.zero_le _) w hC (fun i hi => hR i hi (hall i))
  intro fuel
  induction fuel with
  | zero =>
    intro L vals w hLs hc hC hdown hR
    have hall : ∀ k, L.getD k true = true := by
      intro k
      by_cases hk : k < L.size
      · cases hv : L.getD k true with
        | true => rfl
        | false => have := count_set hk hv; omega
      · simp [Array.getElem?_eq_none (show L.size ≤ k by omega)]
    refine ⟨?_, fin L vals w hC hall hR⟩
    rw [List.eq_nil_iff_forall_not_mem]
    intro j hj
    have := (mem_ready.1 hj).1
    rw [hall j] at this
    cases this
  | succ fuel ih =>
    intro L vals w hLs hc hC hdown hR
    refine ⟨fun hr => fin L vals w hC ?_ hR, fun j hj => ?_⟩
    · intro k
      by_cases hk : k < ops.size
      · have : ∀ n k, k ≤ n → k < ops.size → L.getD k true = true := by
          intro n
          induction n with
          | zero =>
            intro k hkn hk
            cases hv : L.getD k true with
            | true => rfl
            | false =>
              exfalso
              have hkk : ops[k]? = some ops[k] := Array.getElem?_eq_getElem hk
              have : k ∈ Region.ready .any ops L := mem_ready.2 ⟨hv, _, hkk, fun e he hb => by
                have := relyB_deps hB hkk (d := e.on) (by unfold depsOf; exact List.mem_map.2 ⟨e, List.mem_filter.2 ⟨by simpa using he, hb⟩, rfl⟩)
                omega⟩
              rw [hr] at this
              cases this
          | succ n ihn =>
            intro k hkn hk
            cases hv : L.getD k true with
            | true => rfl
            | false =>
              exfalso
              have hkk : ops[k]? = some ops[k] := Array.getElem?_eq_getElem hk
              have : k ∈ Region.ready .any ops L := mem_ready.2 ⟨hv, _, hkk, fun e he hb => by
                have hlt := relyB_deps hB hkk (d := e.on) (by unfold depsOf; exact List.mem_map.2 ⟨e, List.mem_filter.2 ⟨by simpa using he, hb⟩, rfl⟩)
                have := ihn e.on (by omega) (by omega)
                rw [Array.getD_eq_getD_getElem?] at this ⊢
                rw [Array.getElem?_eq_getElem (by omega)] at this ⊢
                exact this⟩
              rw [hr] at this
              cases this
        exact this k k (Nat.le_refl _) hk
      · rw [Array.getD_eq_getD_getElem?, Array.getElem?_eq_none (by omega)]
        rfl
    · obtain ⟨hun, o, ho, hall⟩ := mem_ready.1 hj
      have hjs : j < ops.size := (Array.getElem?_eq_some_iff.1 ho).1
      have hrd : ∀ d ∈ depsOf o, L.getD d true = true := fun d hd => by
        unfold depsOf at hd
        obtain ⟨e, he, rfl⟩ := List.mem_map.1 hd
        obtain ⟨he1, he2⟩ := List.mem_filter.1 he
        have := hall e (by simpa using he1) he2
        rw [Array.getD_eq_getD_getElem?] at this ⊢
        cases hx : L[e.on]? with
        | none => rfl
        | some b => rw [hx] at this; exact this
      have hdlt : ∀ d ∈ depsOf o, d < ops.size := fun d hd => Nat.lt_trans (relyB_deps hB ho hd) hjs
      have hg := (rely_all (a0 := a0) vals ops.toList R 0 (by simp) (by simp) h).1 j o (Nat.zero_le _) ho w hC (fun d hd => hR d (hdlt d hd) (hrd d hd))
      have hsame : ∀ d ∈ o.looksAt ops, (actOf ops a0 L vals ops.size).tmps[d]? = (actTo ops a0 vals j).tmps[d]? := fun d hd => look_same hB hdown ho hun hrd hd ops.size (by omega) (Nat.le_refl _)
      have hsel := Region.noSelect_spec (ops := ops) (by unfold relyB at hB; simp only [Bool.and_eq_true] at hB; exact hB.1)
      have hg' : growsAt P ops o (actOf ops a0 L vals ops.size) w fun v w' => C w' ∧ predAt R j v w' ∧ Keeps R w w' := by
        unfold growsAt at hg ⊢
        rw [wanted_look hsame, execOp_look (fun cs b => hsel j o cs b ho) hsame]
        exact hg
      refine wpOp_of_grows ho hg' fun v w' ⟨hC', hr', hk'⟩ => ?_
      have hput := actOf_put (a0 := a0) (vals := vals) hB hdown ho hun v ops.size (Nat.le_refl _)
      rw [if_pos hjs] at hput
      have hd : dstAt ops j = o.dst := by unfold dstAt; rw [ho]; rfl
      rw [hd] at hput
      rw [← hput]
      refine ih _ _ w' (by simpa using hLs) ?_ hC' ?_ ?_
      · have := count_set (show j < L.size by omega) hun
        omega
      · intro k ok hkk hLk d hdk
        by_cases e : k = j
        · subst e
          obtain rfl : o = ok := Option.some.inj (ho.symm.trans hkk)
          have hne : k ≠ d := fun e => by have := relyB_deps hB ho hdk; omega
          rw [getD_set_ne true hne]
          exact hrd d hdk
        · rw [getD_set_ne true (fun h => e h.symm)] at hLk
          have := hdown k ok hkk hLk d hdk
          by_cases e2 : d = j
          · subst e2; rw [hun] at this; cases this
          · rw [getD_set_ne true (fun h => e2 h.symm)]; exact this
      · intro i hi hLi
        by_cases e : i = j
        · subst e
          simp only [if_pos]
          exact hr'
        · rw [if_neg e]
          rw [getD_set_ne true (fun h => e h.symm)] at hLi
          exact hk' i _ (hR i hi hLi)

/-- **One walk, in the order of the text, serves every order.** -/
theorem wp_region_rely {id : Nat} {Q : Exit → Act → World → Prop} {w : World} {l : List Oper} (C : World → Prop) (R : List Pred) (hm : P.follows .mixedOrders = true) (hB : relyB l.toArray = true) (hC : C w.drew)
    (h : wpRely P l.toArray C R (fun a w => Q .normal a w) l R [] a0) : (Code.region id l.toArray true).wp P Q a0 w := by
  refine wp_region_any hm ?_
  have hn : ∀ k, (Array.replicate l.toArray.size false).getD k true = true → ¬ k < l.toArray.size := fun k hk hlt => by
    rw [Array.getD_eq_getD_getElem?, Array.getElem?_replicate, if_pos hlt] at hk
    cases hk
  have := wpAny_rely (P := P) (ops := l.toArray) (C := C) (R := R) (a0 := a0) (Q := Q) hB (by simpa using h) l.toArray.size (Array.replicate l.toArray.size false) (fun _ => undef) w.drew (by simp) (by simp) hC
    (fun k o ho hk => absurd (Array.getElem?_eq_some_iff.1 ho).1 (hn k hk)) (fun i hi hk => absurd hi (hn i hk))
  have he : ∀ n, n ≤ l.toArray.size → actOf l.toArray a0 (Array.replicate l.toArray.size false) (fun _ => undef) n = a0 := by
    intro n
    induction n with
    | zero => intro _; rfl
    | succ k ih =>
      intro hk
      show (if _ then _ else _) = a0
      rw [if_neg (fun h => hn k h (by omega)), ih (by omega)]
  rw [he _ (Nat.le_refl _)] at this
  exact this

/-! ### The steps of a walk -/

theorem wpRely_cons {Q : Act → World → Prop} {o : Oper} {l : List Oper} {r : Pred} {rs : List Pred} {F : List (World → Prop)} {a : Act} (h1 : ∀ w, C w → factsOf F w (usesOf ops o) → growsAt P ops o a w fun v w' => C w' ∧ r v w' ∧ Keeps R w w')
    (h2 : ∀ v, wpRely P ops C R Q l rs (F ++ [r v]) (a.put o.dst v)) : wpRely P ops C R Q (o :: l) (r :: rs) F a := ⟨h1, h2⟩
theorem wpRely_nil {Q : Act → World → Prop} {F : List (World → Prop)} {a : Act} (h : ∀ w, C w → factsAll w F → Q a w) : wpRely P ops C R Q [] [] F a := h

/-- This very value. -/
def eqv (V : Value) : Pred := fun v _ => v = V

/-- Told of every world that goes on from a world. -/
def Steady (R : List Pred) : Prop := ∀ i v w w', Below w.heap.size w w' → predAt R i v w → predAt R i v w'

theorem Steady.nil : Steady [] := fun i v w w' _ h => by cases i <;> exact h
theorem Steady.cons {r : Pred} {R : List Pred} (h : ∀ v w w', Below w.heap.size w w' → r v w → r v w') (hR : Steady R) : Steady (r :: R) := fun i v w w' hb hr => by
  cases i with
  | zero => exact h v w w' hb hr
  | succ i => exact hR i v w w' hb hr
theorem steady_eqv (V : Value) : ∀ v w w', Below w.heap.size w w' → eqv V v w → eqv V v w' := fun _ _ _ _ h => h

theorem Keeps.same (R : List Pred) (w : World) : Keeps R w w := fun _ _ h => h

/-- The list of what is told, behind a letter. -/
theorem wp_region_steady {id : Nat} {Q : Exit → Act → World → Prop} {w : World} {l : List Oper} (C : World → Prop) (rs : List Pred) (hm : P.follows .mixedOrders = true) (hB : relyB l.toArray = true) (hC : C w.drew) (hst : Steady rs)
    (h : ∀ R, Steady R → wpRely P l.toArray C R (fun a w => Q .normal a w) l rs [] a0) : (Code.region id l.toArray true).wp P Q a0 w :=
  wp_region_rely C rs hm hB hC (h rs hst)

/-- An operation that yields a value and leaves the world as it is. -/
theorem grows_val {o : Oper} {a : Act} {w : World} {r : Pred} {v : Value} (hw : Region.wanted o (yielded ops a.tmps) = true) (hv : (execOp a.eval o).run P w = .ok (.value v) w) (hr : r v w) (hC : C w) :
    growsAt P ops o a w fun v w' => C w' ∧ r v w' ∧ Keeps R w w' := by
  unfold growsAt
  rw [if_pos hw, hv]
  exact ⟨hC, hr, Keeps.same R w⟩

/-- The same, the value told. -/
theorem grows_eqv {o : Oper} {a : Act} {w : World} {V : Value} (hw : Region.wanted o (yielded ops a.tmps) = true) (hC : C w) (hv : (execOp a.eval o).run P w = .ok (.value V) w) :
    growsAt P ops o a w fun v w' => C w' ∧ eqv V v w' ∧ Keeps R w w' := grows_val hw hv rfl hC

/-- An operation that yields a value in a new world. -/
theorem grows_new {o : Oper} {a : Act} {w w' : World} {r : Pred} {v : Value} (hw : Region.wanted o (yielded ops a.tmps) = true) (hv : (execOp a.eval o).run P w = .ok (.value v) w') (hr : r v w') (hC : C w') (hk : Keeps R w w') :
    growsAt P ops o a w fun v w' => C w' ∧ r v w' ∧ Keeps R w w' := by
  unfold growsAt
  rw [if_pos hw, hv]
  exact ⟨hC, hr, hk⟩

/-- An operation that yields nothing, in a new world. -/
theorem grows_skip {o : Oper} {a : Act} {w w' : World} {r : Pred} (hw : Region.wanted o (yielded ops a.tmps) = true) (hv : (execOp a.eval o).run P w = .ok .skip w') (hr : r undef w') (hC : C w') (hk : Keeps R w w') :
    growsAt P ops o a w fun v w' => C w' ∧ r v w' ∧ Keeps R w w' := by
  unfold growsAt
  rw [if_pos hw, hv]
  exact ⟨hC, hr, hk⟩

/-- A call. -/
theorem grows_call {o : Oper} {a : Act} {w : World} {r : Pred} {f : FuncId} {args : Array Value} (hw : Region.wanted o (yielded ops a.tmps) = true) (hv : (execOp a.eval o).run P w = .ok (.enter f args) w)
    (hc : Calls P f args w fun e w' => ∃ v, e = .returned v ∧ C w' ∧ r v w' ∧ Keeps R w w') : growsAt P ops o a w fun v w' => C w' ∧ r v w' ∧ Keeps R w w' := by
  unfold growsAt
  rw [if_pos hw, hv]
  exact hc

/-- A call that hands back this value and leaves the rest above. -/
theorem grows_calls {o : Oper} {a : Act} {w : World} {V : Value} {f : FuncId} {args : Array Value} (hR : Steady R) (hCs : ∀ w w', Below w.heap.size w w' → C w → C w') (hC : C w) (hw : Region.wanted o (yielded ops a.tmps) = true) (hv : (execOp a.eval o).run P w = .ok (.enter f args) w)
    (hc : Calls P f args w fun e w' => e = .returned V ∧ Below w.heap.size w w') : growsAt P ops o a w fun v w' => C w' ∧ eqv V v w' ∧ Keeps R w w' :=
  grows_call hw hv (hc.mono fun _ w' ⟨he, hb⟩ => ⟨V, he, hCs _ _ hb hC, rfl, fun i v h => hR i v w w' hb h⟩)

/-- An operation that is passed over. -/
theorem grows_none {o : Oper} {a : Act} {w : World} {r : Pred} (hw : Region.wanted o (yielded ops a.tmps) = false) (hC : C w) (hr : r undef w) : growsAt P ops o a w fun v w' => C w' ∧ r v w' ∧ Keeps R w w' := by
  unfold growsAt
  rw [if_neg (by rw [hw]; simp)]
  exact ⟨hC, hr, Keeps.same R w⟩

end

end Go.Proofs.Ytapebaoajknepaa
