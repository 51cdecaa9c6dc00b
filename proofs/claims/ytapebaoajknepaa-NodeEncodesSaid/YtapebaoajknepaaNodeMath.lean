/-
  Nodes and their bytes: plain mathematics.
-/
import Derived.Test.YtapebaoajknepaaKeys
import Derived.Test.YtapebaoajknepaaListB
import Derived.Test.YtapebaoajknepaaTakeOne
namespace Go.Proofs.Ytapebaoajknepaa
open Go.RowKit
set_option linter.unusedVariables false

/-- A child; a node. -/
structure Chd where
  h : Bool
  s : Int
  p : Int
  k : Nat → Nat
  x : Nat
  v : Nat
structure Nod where
  l : Bool
  c : Nat → Chd
def noChd : Chd := ⟨false, 0, 0, zeroN, 0, 0⟩
def noNod : Nod := ⟨false, fun _ => noChd⟩

/-- Their cells. -/
def chF (c : Chd) : Nat → Value := fun j => if j = 0 then .bool c.h else if j = 1 then .int .i64 c.s else if j = 2 then .int .i64 c.p else if j < 19 then .int .u8 (c.k (j - 3) : Nat) else if j = 19 then .int .u64 (c.x : Nat) else .int .u64 (c.v : Nat)
def nF (N : Nod) : Nat → Value := fun j => if j = 0 then .bool N.l else chF (N.c ((j - 1) / 21)) ((j - 1) % 21)

theorem chF_one (c : Chd) (j : Nat) : (chF c j).oneCell' = true := by
  unfold chF
  repeat (first | rfl | split)
theorem nF_one (N : Nod) (j : Nat) : (nF N j).oneCell' = true := by
  unfold nF
  split
  · rfl
  · exact chF_one _ _
theorem nF_at (N : Nod) (i j : Nat) (hj : j < 21) : nF N (1 + i * 21 + j) = chF (N.c i) j := by
  unfold nF
  rw [if_neg (by omega), show (1 + i * 21 + j - 1) / 21 = i by omega, show (1 + i * 21 + j - 1) % 21 = j by omega]

/-- Another child. -/
def Nod.put (N : Nod) (i : Nat) (x : Chd) : Nod := ⟨N.l, fun j => if j = i then x else N.c j⟩
theorem Nod.put_l (N : Nod) (i : Nat) (x : Chd) : (N.put i x).l = N.l := rfl
theorem Nod.put_here (N : Nod) (i : Nat) (x : Chd) : (N.put i x).c i = x := if_pos rfl
theorem Nod.put_other (N : Nod) (i j : Nat) (x : Chd) (h : j ≠ i) : (N.put i x).c j = N.c j := if_neg h
theorem nF_set (N : Nod) (i : Nat) (x : Chd) : rowOf 85 (laidV (nF N) (chF x) (1 + i * 21) 21) = rowOf 85 (nF (N.put i x)) := rowOf_congr fun j hj => by
  unfold laidV
  by_cases h : 1 + i * 21 ≤ j ∧ j < 1 + i * 21 + 21
  · rw [if_pos h]
    unfold nF
    rw [if_neg (by omega), show (j - 1) / 21 = i by omega, Nod.put_here]
    congr 1
    omega
  · rw [if_neg h]
    unfold nF
    by_cases h0 : j = 0
    · rw [if_pos h0, if_pos h0]
      rfl
    · rw [if_neg h0, if_neg h0, Nod.put_other _ _ _ _ (by omega)]

/-- Children, nodes that are the same. -/
def sameC (a b : Chd) : Bool := (a.h == b.h) && ((a.s == b.s) && ((a.p == b.p) && (sameK a.k b.k && ((a.x == b.x) && (a.v == b.v)))))
def sameN (a b : Nod) : Bool := (a.l == b.l) && (sameC (a.c 0) (b.c 0) && (sameC (a.c 1) (b.c 1) && (sameC (a.c 2) (b.c 2) && sameC (a.c 3) (b.c 3))))
theorem sameC_iff (a b : Chd) : sameC a b = true ↔ a.h = b.h ∧ a.s = b.s ∧ a.p = b.p ∧ (∀ j, j < 16 → a.k j = b.k j) ∧ a.x = b.x ∧ a.v = b.v := by
  unfold sameC
  simp only [Bool.and_eq_true, beq_iff_eq, sameK_iff]
theorem sameC_rfl (a : Chd) : sameC a a = true := (sameC_iff a a).2 ⟨rfl, rfl, rfl, fun _ _ => rfl, rfl, rfl⟩
theorem sameN_iff (a b : Nod) : sameN a b = true ↔ a.l = b.l ∧ ∀ i, i < 4 → sameC (a.c i) (b.c i) = true := by
  unfold sameN
  simp only [Bool.and_eq_true, beq_iff_eq]
  constructor
  · rintro ⟨h, h0, h1, h2, h3⟩
    refine ⟨h, fun i hi => ?_⟩
    match i, hi with
    | 0, _ => exact h0
    | 1, _ => exact h1
    | 2, _ => exact h2
    | 3, _ => exact h3
  · rintro ⟨h, hc⟩
    exact ⟨h, hc 0 (by decide), hc 1 (by decide), hc 2 (by decide), hc 3 (by decide)⟩
theorem sameN_rfl (a : Nod) : sameN a a = true := (sameN_iff a a).2 ⟨rfl, fun i _ => sameC_rfl _⟩
theorem sameC_symm {a b : Chd} (h : sameC a b = true) : sameC b a = true := by
  obtain ⟨h1, h2, h3, h4, h5, h6⟩ := (sameC_iff a b).1 h
  exact (sameC_iff b a).2 ⟨h1.symm, h2.symm, h3.symm, fun j hj => (h4 j hj).symm, h5.symm, h6.symm⟩
theorem sameN_symm {a b : Nod} (h : sameN a b = true) : sameN b a = true := by
  obtain ⟨h1, h2⟩ := (sameN_iff a b).1 h
  exact (sameN_iff b a).2 ⟨h1.symm, fun i hi => sameC_symm (h2 i hi)⟩
theorem sameC_trans {a b c : Chd} (h : sameC a b = true) (g : sameC b c = true) : sameC a c = true := by
  obtain ⟨h1, h2, h3, h4, h5, h6⟩ := (sameC_iff a b).1 h
  obtain ⟨g1, g2, g3, g4, g5, g6⟩ := (sameC_iff b c).1 g
  exact (sameC_iff a c).2 ⟨h1.trans g1, h2.trans g2, h3.trans g3, fun j hj => (h4 j hj).trans (g4 j hj), h5.trans g5, h6.trans g6⟩
theorem sameN_trans {a b c : Nod} (h : sameN a b = true) (g : sameN b c = true) : sameN a c = true := by
  obtain ⟨h1, h2⟩ := (sameN_iff a b).1 h
  obtain ⟨g1, g2⟩ := (sameN_iff b c).1 g
  exact (sameN_iff a c).2 ⟨h1.trans g1, fun i hi => sameC_trans (h2 i hi) (g2 i hi)⟩

/-- Whether they may be; whether one is empty. -/
def mayC (c : Chd) (l : Bool) : Bool := if c.h = false then sameC c noChd else (l || (decide (c.x = 0) && decide (c.v = 0))) && ((decide (0 ≤ c.s) && decide (c.s < 64)) && (decide (0 ≤ c.p) && decide (c.p < 16)))
def mayN (N : Nod) : Bool := mayC (N.c 0) N.l && (mayC (N.c 1) N.l && (mayC (N.c 2) N.l && mayC (N.c 3) N.l))
def emptyN (N : Nod) : Bool := !(N.c 0).h && (!(N.c 1).h && (!(N.c 2).h && !(N.c 3).h))
theorem mayN_iff (N : Nod) : mayN N = true ↔ ∀ i, i < 4 → mayC (N.c i) N.l = true := by
  unfold mayN
  simp only [Bool.and_eq_true]
  constructor
  · rintro ⟨h0, h1, h2, h3⟩ i hi
    match i, hi with
    | 0, _ => exact h0
    | 1, _ => exact h1
    | 2, _ => exact h2
    | 3, _ => exact h3
  · exact fun hc => ⟨hc 0 (by decide), hc 1 (by decide), hc 2 (by decide), hc 3 (by decide)⟩
theorem mayN_no {N : Nod} {i : Nat} (hi : i < 4) (h : mayC (N.c i) N.l = false) : mayN N = false := by
  cases e : mayN N
  · rfl
  · rw [(mayN_iff N).1 e i hi] at h
    cases h
theorem emptyN_iff (N : Nod) : emptyN N = true ↔ ∀ i, i < 4 → (N.c i).h = false := by
  unfold emptyN
  simp only [Bool.and_eq_true, Bool.not_eq_true']
  constructor
  · rintro ⟨h0, h1, h2, h3⟩ i hi
    match i, hi with
    | 0, _ => exact h0
    | 1, _ => exact h1
    | 2, _ => exact h2
    | 3, _ => exact h3
  · exact fun hc => ⟨hc 0 (by decide), hc 1 (by decide), hc 2 (by decide), hc 3 (by decide)⟩
theorem emptyN_no {N : Nod} {i : Nat} (hi : i < 4) (h : (N.c i).h = true) : emptyN N = false := by
  cases e : emptyN N
  · rfl
  · rw [(emptyN_iff N).1 e i hi] at h
    cases h
theorem mayC_no {c : Chd} {l : Bool} (h : mayC c l = true) (hh : c.h = false) : sameC c noChd = true := by
  unfold mayC at h
  rwa [if_pos hh] at h
theorem mayC_has {c : Chd} {l : Bool} (h : mayC c l = true) (hh : c.h = true) : (l = false → c.x = 0 ∧ c.v = 0) ∧ 0 ≤ c.s ∧ c.s < 64 ∧ 0 ≤ c.p ∧ c.p < 16 := by
  unfold mayC at h
  rw [if_neg (by rw [hh]; decide)] at h
  simp only [Bool.and_eq_true, Bool.or_eq_true, decide_eq_true_eq] at h
  refine ⟨fun hl => ?_, h.2.1.1, h.2.1.2, h.2.2.1, h.2.2.2⟩
  rcases h.1 with h1 | h1
  · rw [hl] at h1
    cases h1
  · exact h1

/-- The bytes of a child, of what is ahead of child i, of a node. -/
def flagB (b : Bool) : List UInt8 := numB 1 (if b = true then 1 else 0)
def bodyB (c : Chd) : List UInt8 := numB 1 c.s.toNat ++ (numB 1 c.p.toNat ++ listB 16 c.k)
def tailB (c : Chd) : List UInt8 := numB 8 c.x ++ numB 8 c.v
def encC (l : Bool) (c : Chd) : List UInt8 := flagB c.h ++ (if c.h = true then bodyB c ++ (if l = true then tailB c else []) else [])
def encU (N : Nod) : Nat → List UInt8
  | 0 => flagB N.l
  | i + 1 => encU N i ++ encC N.l (N.c i)
def encN (N : Nod) : List UInt8 := encU N 4

theorem flagB_length (b : Bool) : (flagB b).length = 1 := numB_length _ _
theorem bodyB_length (c : Chd) : (bodyB c).length = 18 := by unfold bodyB; simp [numB_length, listB_length]
theorem tailB_length (c : Chd) : (tailB c).length = 16 := by unfold tailB; simp [numB_length]
theorem encC_length (l : Bool) (c : Chd) : (encC l c).length = 1 + (if c.h = true then (if l = true then 34 else 18) else 0) := by
  unfold encC
  rw [List.length_append, flagB_length]
  cases c.h <;> cases l <;> simp [bodyB_length, tailB_length]
theorem encU_le (N : Nod) : ∀ i, (encU N i).length ≤ 1 + 35 * i
  | 0 => by show (flagB N.l).length ≤ _; rw [flagB_length]; decide
  | i + 1 => by
    show (encU N i ++ encC N.l (N.c i)).length ≤ _
    have := encU_le N i
    rw [List.length_append, encC_length]
    split
    · split <;> omega
    · omega
theorem encN_le (N : Nod) : (encN N).length ≤ 141 := encU_le N 4

/-- Readers: the error, or what is read and what is left. -/
def rdB (b : Nat) : List UInt8 → Except Nat (Nat × List UInt8)
  | [] => .error 10
  | x :: R => if x.toNat < b then .ok (x.toNat, R) else .error 1
def rdN (k : Nat) (L : List UInt8) : Except Nat (Nat × List UInt8) := if L.length < k then .error 10 else .ok (numV (L.take k), L.drop k)
def keyL (L : List UInt8) : Nat → Nat := fun j => ((L.take 16).getD j 0).toNat
/-- Behind the key: a leaf has two numbers. -/
def rdT (l : Bool) (c : Chd) (L : List UInt8) : Except Nat (Chd × List UInt8) :=
  if l = true then
    match rdN 8 L with
    | .error e => .error e
    | .ok (x, L1) => match rdN 8 L1 with
      | .error e => .error e
      | .ok (v, L2) => .ok ({ c with x := x, v := v }, L2)
  else .ok (c, L)
def rdK (l : Bool) (s p : Nat) (L : List UInt8) : Except Nat (Chd × List UInt8) :=
  if L.length < 16 then .error 10 else rdT l ⟨true, s, p, keyL L, 0, 0⟩ (L.drop 16)
def rdP (l : Bool) (s : Nat) (L : List UInt8) : Except Nat (Chd × List UInt8) :=
  match rdB 16 L with
  | .error e => .error e
  | .ok (p, L1) => rdK l s p L1
def rdS (l : Bool) (L : List UInt8) : Except Nat (Chd × List UInt8) :=
  match rdB 64 L with
  | .error e => .error e
  | .ok (s, L1) => rdP l s L1
def rdC (l : Bool) (L : List UInt8) : Except Nat (Chd × List UInt8) :=
  match rdB 2 L with
  | .error e => .error e
  | .ok (h, L1) => if h = 1 then rdS l L1 else .ok (noChd, L1)
/-- The first i children. -/
def rdU (N : Nod) (L : List UInt8) : Nat → Except Nat (Nod × List UInt8)
  | 0 => .ok (N, L)
  | i + 1 => match rdU N L i with
    | .error e => .error e
    | .ok (M, L1) => match rdC M.l L1 with
      | .error e => .error e
      | .ok (c, L2) => .ok (M.put i c, L2)
def rdA (L : List UInt8) : Except Nat (Nod × List UInt8) :=
  match rdB 2 L with
  | .error e => .error e
  | .ok (h, L1) => rdU ⟨decide (h = 1), fun _ => noChd⟩ L1 4
def decN (L : List UInt8) : Except Nat Nod :=
  match rdA L with
  | .error e => .error e
  | .ok (N, L1) => if L1 = [] then .ok N else .error 12

/-- What is read from what was written. -/
theorem rdB_num {b n : Nat} (hn : n < b) (hb : b ≤ 256) (R : List UInt8) : rdB b (numB 1 n ++ R) = .ok (n, R) := by
  show rdB b (UInt8.ofNat n :: R) = _
  have : (UInt8.ofNat n).toNat = n := by rw [UInt8.toNat_ofNat']; omega
  show (if (UInt8.ofNat n).toNat < b then (.ok ((UInt8.ofNat n).toNat, R) : Except Nat (Nat × List UInt8)) else .error 1) = _
  rw [this, if_pos hn]
theorem rdB_flag (h : Bool) (R : List UInt8) : rdB 2 (flagB h ++ R) = .ok ((if h = true then 1 else 0), R) := by
  unfold flagB
  cases h
  · exact rdB_num (by decide) (by decide) R
  · exact rdB_num (by decide) (by decide) R
theorem rdN_num {k n : Nat} (hn : n < 256 ^ k) (R : List UInt8) : rdN k (numB k n ++ R) = .ok (n, R) := by
  unfold rdN
  rw [if_neg (by rw [List.length_append, numB_length]; omega), List.take_left' (numB_length k n), List.drop_left' (numB_length k n), numV_numB k n hn]
theorem keyL_list {f : Nat → Nat} (hf : ∀ j, j < 16 → f j < 256) (R : List UInt8) : ∀ j, j < 16 → keyL (listB 16 f ++ R) j = f j := fun j hj => by
  unfold keyL
  rw [List.take_left' (listB_length 16 f), List.getD_eq_getElem?_getD, listB_get 16 f j hj]
  show (UInt8.ofNat (f j)).toNat = f j
  rw [UInt8.toNat_ofNat']
  have := hf j hj
  omega
/-- What bounds the numbers of a child. -/
def BndC (c : Chd) : Prop := (∀ j, j < 16 → c.k j < 256) ∧ c.x < 18446744073709551616 ∧ c.v < 18446744073709551616
theorem BndC.no : BndC noChd := ⟨fun _ _ => Nat.zero_lt_succ _, by decide, by decide⟩
theorem rdC_enc {c : Chd} {l : Bool} (hb : BndC c) (h : mayC c l = true) (R : List UInt8) : ∃ d, rdC l (encC l c ++ R) = .ok (d, R) ∧ sameC d c = true := by
  cases hh : c.h
  · refine ⟨noChd, ?_, sameC_symm (mayC_no h hh)⟩
    unfold rdC encC
    rw [hh, List.append_assoc, rdB_flag]
    simp
  · obtain ⟨h1, h2, h3, h4, h5⟩ := mayC_has h hh
    obtain ⟨b1, b2, b3⟩ := hb
    unfold rdC encC
    rw [hh, List.append_assoc, rdB_flag]
    simp only [if_true]
    unfold rdS bodyB
    rw [List.append_assoc, List.append_assoc, rdB_num (by omega) (by decide)]
    simp only []
    unfold rdP
    rw [List.append_assoc, rdB_num (by omega) (by decide)]
    simp only []
    unfold rdK
    rw [if_neg (by rw [List.length_append, listB_length]; omega), List.drop_left' (listB_length 16 c.k)]
    unfold rdT
    cases l
    · obtain ⟨hx, hv⟩ := h1 rfl
      refine ⟨_, rfl, (sameC_iff _ _).2 ⟨hh.symm, by show ((c.s.toNat : Nat) : Int) = c.s; omega, by show ((c.p.toNat : Nat) : Int) = c.p; omega, fun j hj => keyL_list b1 _ j hj, hx.symm, hv.symm⟩⟩
    · have e8 : (256 : Nat) ^ 8 = 18446744073709551616 := by decide
      simp only [if_true]
      unfold tailB
      rw [List.append_assoc, rdN_num (by rw [e8]; exact b2)]
      simp only []
      rw [rdN_num (by rw [e8]; exact b3)]
      exact ⟨_, rfl, (sameC_iff _ _).2 ⟨hh.symm, by show ((c.s.toNat : Nat) : Int) = c.s; omega, by show ((c.p.toNat : Nat) : Int) = c.p; omega, fun j hj => keyL_list b1 _ j hj, rfl, rfl⟩⟩
/-- What is behind the first i children. -/
def restU (N : Nod) : Nat → List UInt8
  | 0 => []
  | i + 1 => encC N.l (N.c (3 - i)) ++ restU N i
theorem encN_rest (N : Nod) : encN N = flagB N.l ++ (encC N.l (N.c 0) ++ (encC N.l (N.c 1) ++ (encC N.l (N.c 2) ++ (encC N.l (N.c 3) ++ [])))) := by
  show ((((flagB N.l ++ _) ++ _) ++ _) ++ _) = _
  simp only [List.append_assoc, List.append_nil]
theorem rdU_step {N M : Nod} {L L1 L2 : List UInt8} {i : Nat} {c : Chd} (h : rdU N L i = .ok (M, L1)) (hc : rdC M.l L1 = .ok (c, L2)) : rdU N L (i + 1) = .ok (M.put i c, L2) := by
  show (match rdU N L i with | .error e => _ | .ok (M, L1) => _) = _
  rw [h]
  simp only [hc]
theorem rdU_l {N : Nod} {L : List UInt8} : ∀ {i : Nat} {M : Nod} {L1 : List UInt8}, rdU N L i = .ok (M, L1) → M.l = N.l
  | 0, M, L1, h => by cases h; rfl
  | i + 1, M, L1, h => by
    have h' : (match rdU N L i with | .error e => (Except.error e : Except Nat (Nod × List UInt8)) | .ok (M, L1) => match rdC M.l L1 with | .error e => .error e | .ok (c, L2) => .ok (M.put i c, L2)) = .ok (M, L1) := h
    cases e : rdU N L i with
    | error n => rw [e] at h'; cases h'
    | ok a =>
      obtain ⟨M0, L0⟩ := a
      rw [e] at h'
      simp only at h'
      cases e2 : rdC M0.l L0 with
      | error n => rw [e2] at h'; cases h'
      | ok b =>
        rw [e2] at h'
        cases h'
        exact (rdU_l e : M0.l = N.l)
theorem decN_enc {N : Nod} (hb : ∀ i, i < 4 → BndC (N.c i)) (h : mayN N = true) : ∃ M, decN (encN N) = .ok M ∧ sameN M N = true := by
  have hm := (mayN_iff N).1 h
  rw [encN_rest]
  obtain ⟨c0, e0, s0⟩ := rdC_enc (hb 0 (by decide)) (hm 0 (by decide)) (encC N.l (N.c 1) ++ (encC N.l (N.c 2) ++ (encC N.l (N.c 3) ++ [])))
  obtain ⟨c1, e1, s1⟩ := rdC_enc (hb 1 (by decide)) (hm 1 (by decide)) (encC N.l (N.c 2) ++ (encC N.l (N.c 3) ++ []))
  obtain ⟨c2, e2, s2⟩ := rdC_enc (hb 2 (by decide)) (hm 2 (by decide)) (encC N.l (N.c 3) ++ [])
  obtain ⟨c3, e3, s3⟩ := rdC_enc (hb 3 (by decide)) (hm 3 (by decide)) []
  unfold decN rdA
  rw [rdB_flag]
  have el : decide ((if N.l = true then 1 else 0) = 1) = N.l := by cases N.l <;> rfl
  simp only [el]
  generalize encC N.l (N.c 0) ++ (encC N.l (N.c 1) ++ (encC N.l (N.c 2) ++ (encC N.l (N.c 3) ++ []))) = L0 at *
  have u1 := rdU_step (i := 0) (N := ⟨N.l, fun _ => noChd⟩) (L := L0) rfl e0
  have u2 := rdU_step u1 e1
  have u3 := rdU_step u2 e2
  have u4 := rdU_step u3 e3
  rw [u4]
  refine ⟨_, rfl, (sameN_iff _ _).2 ⟨rfl, fun i hi => ?_⟩⟩
  match i, hi with
  | 0, _ => exact s0
  | 1, _ => exact s1
  | 2, _ => exact s2
  | 3, _ => exact s3

/-- What was read is what would be written. -/
theorem rdB_ok {b n : Nat} {L R : List UInt8} (h : rdB b L = .ok (n, R)) : L = numB 1 n ++ R ∧ n < b := by
  cases L with
  | nil => cases h
  | cons x t =>
    replace h : (if x.toNat < b then (.ok (x.toNat, t) : Except Nat (Nat × List UInt8)) else .error 1) = .ok (n, R) := h
    by_cases hx : x.toNat < b
    · rw [if_pos hx] at h
      cases h
      refine ⟨?_, hx⟩
      show x :: R = UInt8.ofNat x.toNat :: R
      rw [UInt8.ofNat_toNat]
    · rw [if_neg hx] at h
      cases h
theorem rdN_ok {k n : Nat} {L R : List UInt8} (h : rdN k L = .ok (n, R)) : L = numB k n ++ R ∧ n < 256 ^ k := by
  unfold rdN at h
  by_cases hl : L.length < k
  · rw [if_pos hl] at h
    cases h
  · rw [if_neg hl] at h
    cases h
    have e : (L.take k).length = k := by rw [List.length_take]; omega
    constructor
    · have := numB_numV (L.take k)
      rw [e] at this
      rw [this, List.take_append_drop]
    · have := numV_lt (L.take k)
      rwa [e] at this
theorem keyL_back {L : List UInt8} (h : ¬ L.length < 16) : listB 16 (keyL L) ++ L.drop 16 = L := by
  have : listB 16 (keyL L) = L.take 16 := by
    apply List.ext_getElem?
    intro j
    by_cases hj : j < 16
    · rw [listB_get _ _ _ hj]
      have h2 : j < (L.take 16).length := by rw [List.length_take]; omega
      rw [List.getElem?_eq_getElem h2]
      unfold keyL
      rw [List.getD_eq_getElem?_getD, List.getElem?_eq_getElem h2, Option.getD_some, UInt8.ofNat_toNat]
    · rw [List.getElem?_eq_none (by rw [listB_length]; omega), List.getElem?_eq_none (by rw [List.length_take]; omega)]
  rw [this, List.take_append_drop]
theorem keyL_lt (L : List UInt8) (j : Nat) : keyL L j < 256 := UInt8.toNat_lt _

theorem rdT_ok {l : Bool} {c d : Chd} {L R : List UInt8} (hx : c.x = 0) (hv : c.v = 0) (h : rdT l c L = .ok (d, R)) : L = (if l = true then tailB d else []) ++ R ∧ d.h = c.h ∧ d.s = c.s ∧ d.p = c.p ∧ d.k = c.k ∧ (l = false → d.x = 0 ∧ d.v = 0) ∧ d.x < 18446744073709551616 ∧ d.v < 18446744073709551616 := by
  unfold rdT at h
  cases l
  · cases h
    exact ⟨rfl, rfl, rfl, rfl, rfl, fun _ => ⟨hx, hv⟩, by omega, by omega⟩
  · simp only [if_true] at h
    cases e1 : rdN 8 L with
    | error n => rw [e1] at h; cases h
    | ok a =>
      obtain ⟨x, L1⟩ := a
      rw [e1] at h
      simp only at h
      cases e2 : rdN 8 L1 with
      | error n => rw [e2] at h; cases h
      | ok a =>
        obtain ⟨v, L2⟩ := a
        rw [e2] at h
        cases h
        obtain ⟨f1, g1⟩ := rdN_ok e1
        obtain ⟨f2, g2⟩ := rdN_ok e2
        refine ⟨?_, rfl, rfl, rfl, rfl, (fun h => by cases h), g1, g2⟩
        unfold tailB
        simp only [if_true]
        rw [f1, f2, List.append_assoc]
theorem rdC_ok {l : Bool} {d : Chd} {L R : List UInt8} (h : rdC l L = .ok (d, R)) : L = encC l d ++ R ∧ mayC d l = true ∧ BndC d := by
  unfold rdC at h
  cases e1 : rdB 2 L with
  | error n => rw [e1] at h; cases h
  | ok a =>
    obtain ⟨b, L1⟩ := a
    rw [e1] at h
    obtain ⟨f1, g1⟩ := rdB_ok e1
    simp only at h
    by_cases hb : b = 1
    · rw [if_pos hb] at h
      subst hb
      unfold rdS at h
      cases e2 : rdB 64 L1 with
      | error n => rw [e2] at h; cases h
      | ok a =>
        obtain ⟨s, L2⟩ := a
        rw [e2] at h
        obtain ⟨f2, g2⟩ := rdB_ok e2
        simp only at h
        unfold rdP at h
        cases e3 : rdB 16 L2 with
        | error n => rw [e3] at h; cases h
        | ok a =>
          obtain ⟨p, L3⟩ := a
          rw [e3] at h
          obtain ⟨f3, g3⟩ := rdB_ok e3
          simp only at h
          unfold rdK at h
          by_cases hk : L3.length < 16
          · rw [if_pos hk] at h
            cases h
          · rw [if_neg hk] at h
            obtain ⟨f4, dh, ds, dp, dk, dx, bx, bv⟩ := rdT_ok rfl rfl h
            have f5 := keyL_back hk
            refine ⟨?_, ?_, ?_⟩
            · unfold encC flagB bodyB
              rw [dh, ds, dp, dk]
              simp only [if_true, List.append_assoc, Int.toNat_natCast]
              rw [f1, f2, f3, ← f4, f5]
            · unfold mayC
              rw [dh, ds, dp, if_neg (by simp)]
              simp only [Bool.and_eq_true, Bool.or_eq_true, decide_eq_true_eq]
              refine ⟨?_, ⟨by omega, by omega⟩, by omega, by omega⟩
              cases l
              · exact .inr (dx rfl)
              · exact .inl rfl
            · exact ⟨fun j _ => by rw [dk]; exact keyL_lt _ _, bx, bv⟩
    · rw [if_neg hb] at h
      cases h
      have : b = 0 := by omega
      subst this
      refine ⟨?_, by cases l <;> rfl, BndC.no⟩
      rw [f1]
      rfl
theorem rdU_ok {N : Nod} {L : List UInt8} : ∀ {i : Nat} {M : Nod} {R : List UInt8}, rdU N L i = .ok (M, R) → (∀ j, j < i → mayC (M.c j) N.l = true ∧ BndC (M.c j)) ∧ M.l = N.l ∧ ∃ T, L = T ++ R ∧ encU M i = flagB N.l ++ T
  | 0, M, R, h => by
    cases h
    exact ⟨fun j hj => by omega, rfl, [], rfl, by show flagB N.l = _; rw [List.append_nil]⟩
  | i + 1, M, R, h => by
    have h' : (match rdU N L i with | .error e => (Except.error e : Except Nat (Nod × List UInt8)) | .ok (M, L1) => match rdC M.l L1 with | .error e => .error e | .ok (c, L2) => .ok (M.put i c, L2)) = .ok (M, R) := h
    cases e : rdU N L i with
    | error n => rw [e] at h'; cases h'
    | ok a =>
      obtain ⟨M0, L0⟩ := a
      rw [e] at h'
      simp only at h'
      cases e2 : rdC M0.l L0 with
      | error n => rw [e2] at h'; cases h'
      | ok b =>
        obtain ⟨c, L2⟩ := b
        rw [e2] at h'
        cases h'
        obtain ⟨h1, h2, T, h3, h4⟩ := rdU_ok e
        obtain ⟨g1, g2, g3⟩ := rdC_ok e2
        refine ⟨fun j hj => ?_, h2, T ++ encC M0.l c, ?_, ?_⟩
        · by_cases hji : j = i
          · subst hji
            rw [Nod.put_here, ← h2]
            exact ⟨g2, g3⟩
          · rw [Nod.put_other _ _ _ _ hji]
            exact h1 j (by omega)
        · rw [h3, g1, List.append_assoc]
        · have eq : ∀ m, m ≤ i → encU (M0.put i c) m = encU M0 m := by
            intro m
            induction m with
            | zero => intro _; rfl
            | succ m ih =>
              intro hm
              show encU (M0.put i c) m ++ encC M0.l ((M0.put i c).c m) = encU M0 m ++ encC M0.l (M0.c m)
              rw [ih (by omega), Nod.put_other _ _ _ _ (by omega)]
          show encU (M0.put i c) i ++ encC M0.l ((M0.put i c).c i) = _
          rw [eq i (Nat.le_refl _), h4, Nod.put_here, List.append_assoc]
theorem decN_ok {L : List UInt8} {M : Nod} (h : decN L = .ok M) : mayN M = true ∧ encN M = L ∧ ∀ i, i < 4 → BndC (M.c i) := by
  unfold decN rdA at h
  cases e1 : rdB 2 L with
  | error n => rw [e1] at h; cases h
  | ok a =>
    obtain ⟨b, L1⟩ := a
    rw [e1] at h
    simp only at h
    cases e2 : rdU ⟨decide (b = 1), fun _ => noChd⟩ L1 4 with
    | error n => rw [e2] at h; cases h
    | ok a =>
      obtain ⟨N, L2⟩ := a
      rw [e2] at h
      simp only at h
      by_cases hL : L2 = []
      · rw [if_pos hL] at h
        cases h
        subst hL
        obtain ⟨f1, g1⟩ := rdB_ok e1
        obtain ⟨h1, h2, T, h3, h4⟩ := rdU_ok e2
        refine ⟨(mayN_iff _).2 fun i hi => by rw [h2]; exact (h1 i hi).1, ?_, fun i hi => (h1 i hi).2⟩
        show encU M 4 = L
        rw [h4, f1, h3, List.append_nil]
        congr 1
        unfold flagB
        congr 1
        have : b = 0 ∨ b = 1 := by omega
        rcases this with rfl | rfl <;> rfl
      · rw [if_neg hL] at h
        cases h

/-- Of the same nodes the bytes are the same. -/
theorem encC_same {l : Bool} {a b : Chd} (h : sameC a b = true) : encC l a = encC l b := by
  obtain ⟨h1, h2, h3, h4, h5, h6⟩ := (sameC_iff a b).1 h
  unfold encC bodyB tailB
  rw [h1, h2, h3, h5, h6, listB_congr h4]
theorem encN_same {a b : Nod} (h : sameN a b = true) : encN a = encN b := by
  obtain ⟨h1, h2⟩ := (sameN_iff a b).1 h
  rw [encN_rest, encN_rest, h1, encC_same (h2 0 (by decide)), encC_same (h2 1 (by decide)), encC_same (h2 2 (by decide)), encC_same (h2 3 (by decide))]
theorem mayC_same {l : Bool} {a b : Chd} (h : sameC a b = true) : mayC a l = mayC b l := by
  obtain ⟨h1, h2, h3, h4, h5, h6⟩ := (sameC_iff a b).1 h
  unfold mayC
  rw [h1, h2, h3, h5, h6]
  split
  · rw [Bool.eq_iff_iff]
    exact ⟨fun h' => sameC_trans (sameC_symm h) h', fun h' => sameC_trans h h'⟩
  · rfl
theorem enc_once {a b : Nod} (ha : mayN a = true) (hb : mayN b = true) (ba : ∀ i, i < 4 → BndC (a.c i)) (bb : ∀ i, i < 4 → BndC (b.c i)) : decide (encN a = encN b) = sameN a b := by
  rw [Bool.eq_iff_iff, decide_eq_true_eq]
  refine ⟨fun h => ?_, encN_same⟩
  obtain ⟨M1, e1, s1⟩ := decN_enc ba ha
  obtain ⟨M2, e2, s2⟩ := decN_enc bb hb
  rw [h, e2] at e1
  cases e1
  exact sameN_trans (sameN_symm s1) s2

/-- Same nodes have the same cells. -/
theorem chF_same {a b : Chd} (h : sameC a b = true) : rowOf 21 (chF a) = rowOf 21 (chF b) := rowOf_congr fun j hj => by
  obtain ⟨h1, h2, h3, h4, h5, h6⟩ := (sameC_iff a b).1 h
  unfold chF
  rw [h1, h2, h3, h5, h6]
  by_cases hj2 : 3 ≤ j ∧ j < 19
  · rw [h4 (j - 3) (by omega)]
  · by_cases h0 : j = 0
    · rw [if_pos h0, if_pos h0]
    · rw [if_neg h0, if_neg h0]
      by_cases h10 : j = 1
      · rw [if_pos h10, if_pos h10]
      · rw [if_neg h10, if_neg h10]
        by_cases h20 : j = 2
        · rw [if_pos h20, if_pos h20]
        · rw [if_neg h20, if_neg h20, if_neg (c := j < 19) (by omega), if_neg (c := j < 19) (by omega)]

/-- How many bytes a node has. -/
def sizeU (N : Nod) : Nat → Nat
  | 0 => 5
  | i + 1 => sizeU N i + (if (N.c i).h = true then (if N.l = true then 34 else 18) else 0)
theorem encU_size (N : Nod) : ∀ i, i ≤ 4 → (encU N i).length + 4 = sizeU N i + i
  | 0, _ => by show (flagB N.l).length + 4 = _; rw [flagB_length]; rfl
  | i + 1, h => by
    show (encU N i ++ encC N.l (N.c i)).length + 4 = sizeU N i + (if (N.c i).h = true then (if N.l = true then 34 else 18) else 0) + (i + 1)
    have := encU_size N i (by omega)
    rw [List.length_append, encC_length]
    omega
theorem encN_size (N : Nod) : (encN N).length = sizeU N 4 := by have := encU_size N 4 (Nat.le_refl _); unfold encN; omega

end Go.Proofs.Ytapebaoajknepaa
