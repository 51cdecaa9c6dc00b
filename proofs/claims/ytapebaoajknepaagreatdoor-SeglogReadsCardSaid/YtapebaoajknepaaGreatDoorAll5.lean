/-
  Texts 5 of 8, merged.
-/
import Derived.Test.YtapebaoajknepaaGreatDoorAll4
import Derived.Lib.Strings
import Derived.RangeFuncNested
import Derived.StillTail
/-
  Contracts of the functions of package field that take numbers.
-/
namespace Go.Proofs.YtapebaoajknepaaGreatDoor
open Go.RowKit

theorem or_step (a b j : Nat) (hj : j ≤ 7) (ha : a < 256 ^ j) (hb : b < 256) :
    bits BinOp.or IntKind.u64 (a : Int) (IntKind.u64.wrap (IntKind.u64.wrap (b : Int) * 2 ^ (8 * j))) = ((a + 256 ^ j * b : Nat) : Int) := by
  have hp : 256 ^ j ≤ 256 ^ 7 := Nat.pow_le_pow_right (by decide) hj
  have h7 : (256 : Nat) ^ 7 = 72057594037927936 := by decide
  have hbp : b * 256 ^ j ≤ 255 * 256 ^ 7 := Nat.mul_le_mul (by omega) hp
  have h0 : 0 ≤ b * 256 ^ j := Nat.zero_le _
  have e1 : IntKind.u64.wrap (b : Int) = (b : Int) := IntWalk.u64_in _ (by omega)
  have e2 : (b : Int) * 2 ^ (8 * j) = ((b * 256 ^ j : Nat) : Int) := by rw [pow2_8, Int.natCast_mul]
  have e3 : IntKind.u64.wrap ((b * 256 ^ j : Nat) : Int) = ((b * 256 ^ j : Nat) : Int) := IntWalk.u64_in _ ⟨by omega, by omega⟩
  rw [e1, e2, e3, u64_or_nat _ _ (by omega) (by omega)]
  congr 1
  have e4 : (256 : Nat) ^ j = 2 ^ (8 * j) := by rw [Nat.pow_mul]
  rw [e4] at ha ⊢
  rw [Nat.mul_comm b, Nat.or_comm, ← Nat.two_pow_add_eq_or_of_lt ha, Nat.add_comm]

/-- What the closure of TakeNumber leaves. -/
def KeptNum (base p q : Nat) (w : World) (a sh : Nat) (e : Ending) (w' : World) : Prop :=
  e = .returned (.tuple #[]) ∧ w'.heap[p]? = some (.cells #[.int .u64 (a : Int)] 37 (0, 0)) ∧ w'.heap[q]? = some (.cells #[.int .i64 (sh : Int)] 3 (0, 0)) ∧ Below base w w'

set_option maxHeartbeats 400000 in
theorem keepNum (base p q : Nat) (b a sh j : Nat) (w : World) (hsh : Hid (sh = 8 * j)) (hs2 : sh ≤ 56) (ha : Hid (a < 256 ^ j)) (hb : b < 256)
    (hp : w.heap[p]? = some (.cells #[.int .u64 (a : Int)] 37 (0, 0))) (hq : w.heap[q]? = some (.cells #[.int .i64 (sh : Int)] 3 (0, 0))) (hbp : base ≤ p) (hbq : base ≤ q) (hpq : p ≠ q) :
    Calls Tryz.prog 94 #[.int .u8 b, .pointer (some ⟨p, 0, none⟩), .pointer (some ⟨q, 0, none⟩)] w (KeptNum base p q w (a + 256 ^ j * b) (sh + 8)) := by
  have cp := cell_of_one hp
  have cq := cell_of_one hq
  have fp := free_of_one hp
  have fq := free_of_one hq
  have HP := Lib.hid hp
  have HQ := Lib.hid hq
  clear hp hq
  go_enter Tryz.func94, Tryz.ntmps94
  go_wp2
  go_region
  go_wp2
  go_end0
  have hj : j ≤ 7 := by have := hsh.out; omega
  have hstep := or_step a b j hj ha.out hb
  have e1 : IntKind.u64.wrap (b : Int) = (b : Int) := IntWalk.u64_in _ (by omega)
  rw [e1, ← hsh.out] at hstep
  rw [hstep]
  refine ⟨rfl, ?_, ?_, ?_⟩
  · show (((w.setCell _ _).setCell _ _)).heap[p]? = _
    rw [Below.heap_setCell _ _ _ _ (by simpa using hpq)]
    exact one_setCell HP.out
  · show (((w.setCell _ _).setCell _ _)).heap[q]? = _
    rw [one_setCell (v := .int .i64 (sh : Int)) (t := 3)]
    · rfl
    · rw [Below.heap_setCell _ _ _ _ (by simpa using hpq.symm)]
      exact HQ.out
  · exact (((Below.refl _ _).setCell hbp _).setCell hbq _).drew

/-- What takeEach over TakeNumber's closure leaves. -/
def EachNum (base p : Nat) (w : World) (a : Nat) (r : ByteArray) (e : Ending) (w' : World) : Prop :=
  e = .returned (.tuple #[.string r, .int .i64 0]) ∧ w'.heap[p]? = some (.cells #[.int .u64 (a : Int)] 37 (0, 0)) ∧ Below base w w'

set_option maxHeartbeats 400000 in
theorem eachNum_yes (base p q : Nat) (s : ByteArray) (k : Nat) (w : World) (hk8 : k ≤ 8) (hks : Hid (k ≤ s.data.toList.length))
    (hp : w.heap[p]? = some (.cells #[.int .u64 0] 37 (0, 0))) (hq : w.heap[q]? = some (.cells #[.int .i64 0] 3 (0, 0))) (hbp : base ≤ p) (hbq : base ≤ q) (hpq : p ≠ q) :
    Calls Tryz.prog 92 #[.string s, .int .i64 (k : Int), .func (.func 93) #[] #[], .func (.func 94) #[] #[.pointer (some ⟨p, 0, none⟩), .pointer (some ⟨q, 0, none⟩)]] w
      (EachNum base p w (numV (s.data.toList.take k)) (bs (s.data.toList.drop k))) := by
  have HP := Lib.hid hp
  have HQ := Lib.hid hq
  clear hp hq
  go_enter Tryz.func92, Tryz.ntmps92
  go_wp2
  go_loopw [0, 14] (fun t i wr => ∃ (j a sh : Nat) (tk : List UInt8) (r : ByteArray), j ≤ k ∧ i = .int .i64 j ∧ t = .string r ∧ Hid (s.data.toList = tk ++ r.data.toList) ∧ Hid (tk.length = j) ∧ Hid (sh = 8 * j) ∧ Hid (a = numV tk) ∧
      Hid (wr.heap[p]? = some (.cells #[.int .u64 (a : Int)] 37 (0, 0))) ∧ Hid (wr.heap[q]? = some (.cells #[.int .i64 (sh : Int)] 3 (0, 0))) ∧ Below base w wr)
    (fun _ i _ => k - (intOf i).toNat)
  case atStart => exact ⟨0, 0, 0, [], s, by omega, rfl, rfl, rfl, rfl, rfl, rfl, HP, HQ, Below.refl _ _⟩
  case round =>
    obtain ⟨j, a, sh, tk, r, hj, rfl, rfl, hs, htk, hsh, ha, hp, hq, hbl⟩ := hrel
    by_cases hlt : j < k
    · obtain ⟨b, r1, hr1⟩ := list_more hs.out htk.out hlt hks.out
      have hb : Hid (r.data.toList = b :: (bs r1).data.toList) := hr1
      have hs1 : Hid (s.data.toList = (tk ++ [b]) ++ (bs r1).data.toList) := by unfold Hid; rw [hs.out, hr1]; simp [bs]
      have htk1 : Hid ((tk ++ [b]).length = j + 1) := by unfold Hid; rw [← htk.out]; simp
      have haN : Hid (a < 256 ^ j) := by unfold Hid; rw [ha.out, ← htk.out]; exact numV_lt tk
      have ha1 : Hid (a + 256 ^ j * b.toNat = numV (tk ++ [b])) := by unfold Hid; rw [numV_snoc, ha.out, htk.out]
      have hs56 : sh ≤ 56 := by have := hsh.out; omega
      have hsh1 : Hid (sh + 8 = 8 * (j + 1)) := by unfold Hid; rw [hsh.out]; omega
      have hb256 : b.toNat < 256 := b.toNat_lt
      clear hr1
      go_wp2_with fail
      refine (takeByte_yes r (bs r1) b hb _).mono ?_
      rintro e w' ⟨rfl, n, rfl⟩
      go_wp2_with fail
      refine (keepNum base p q b.toNat a sh j (wr.drewN n) hsh hs56 haN hb256 hp.out hq.out hbp hbq hpq).mono ?_
      rintro e w' ⟨rfl, hp', hq', hbl'⟩
      have hp2 := Lib.hid hp'; clear hp'
      have hq2 := Lib.hid hq'; clear hq'
      have hbl2 : Below base w w' := (below_drewN hbl n).trans hbl'
      clear hbl'
      go_wp2
      go_roundw
      case rel => exact ⟨j + 1, _, _, tk ++ [b], bs r1, by omega, by go_num, rfl, hs1, htk1, hsh1, ha1, hp2, hq2, hbl2⟩
      case measure => simp [intOf]; omega
    · have : j = k := by omega
      subst this
      have E := list_end hs.out htk.out
      have E1 := Lib.hid E.1
      have E2 := Lib.hid E.2
      clear E
      go_wp2
      go_ret2
      refine ⟨?_, ?_, hbl⟩
      · rw [← E2.out, bs_data]; rfl
      · rw [← E1.out, ← ha.out]; exact hp.out

set_option maxHeartbeats 400000 in
theorem eachNum_no (base p q : Nat) (s : ByteArray) (k : Nat) (w : World) (hk8 : k ≤ 8) (hks : Hid (s.data.toList.length < k))
    (hp : w.heap[p]? = some (.cells #[.int .u64 0] 37 (0, 0))) (hq : w.heap[q]? = some (.cells #[.int .i64 0] 3 (0, 0))) (hbp : base ≤ p) (hbq : base ≤ q) (hpq : p ≠ q) :
    Calls Tryz.prog 92 #[.string s, .int .i64 (k : Int), .func (.func 93) #[] #[], .func (.func 94) #[] #[.pointer (some ⟨p, 0, none⟩), .pointer (some ⟨q, 0, none⟩)]] w
      (EachShort base w) := by
  have HP := Lib.hid hp
  have HQ := Lib.hid hq
  clear hp hq
  go_enter Tryz.func92, Tryz.ntmps92
  go_wp2
  go_loopw [0, 14] (fun t i wr => ∃ (j a sh : Nat) (tk : List UInt8) (r : ByteArray), j < k ∧ i = .int .i64 j ∧ t = .string r ∧ Hid (s.data.toList = tk ++ r.data.toList) ∧ Hid (tk.length = j) ∧ Hid (sh = 8 * j) ∧ Hid (a = numV tk) ∧
      Hid (wr.heap[p]? = some (.cells #[.int .u64 (a : Int)] 37 (0, 0))) ∧ Hid (wr.heap[q]? = some (.cells #[.int .i64 (sh : Int)] 3 (0, 0))) ∧ Below base w wr)
    (fun _ i _ => k - (intOf i).toNat)
  case atStart => exact ⟨0, 0, 0, [], s, by have := hks.out; omega, rfl, rfl, rfl, rfl, rfl, rfl, HP, HQ, Below.refl _ _⟩
  case round =>
    obtain ⟨j, a, sh, tk, r, hlt, rfl, rfl, hs, htk, hsh, ha, hp, hq, hbl⟩ := hrel
    rcases hr1 : r.data.toList with _ | ⟨b, r1⟩
    · have h0 : Hid (r.size = 0) := by unfold Hid; rw [← ba_size, hr1]; rfl
      clear hr1
      go_wp2_with fail
      refine (takeByte_no r h0.out _).mono ?_
      rintro e w' ⟨rfl, rfl⟩
      go_wp2
      go_ret2
      exact ⟨rfl, hbl⟩
    · have hb : Hid (r.data.toList = b :: (bs r1).data.toList) := hr1
      have hs1 : Hid (s.data.toList = (tk ++ [b]) ++ (bs r1).data.toList) := by unfold Hid; rw [hs.out, hr1]; simp [bs]
      have htk1 : Hid ((tk ++ [b]).length = j + 1) := by unfold Hid; rw [← htk.out]; simp
      have haN : Hid (a < 256 ^ j) := by unfold Hid; rw [ha.out, ← htk.out]; exact numV_lt tk
      have ha1 : Hid (a + 256 ^ j * b.toNat = numV (tk ++ [b])) := by unfold Hid; rw [numV_snoc, ha.out, htk.out]
      have hs56 : sh ≤ 56 := by have := hsh.out; omega
      have hsh1 : Hid (sh + 8 = 8 * (j + 1)) := by unfold Hid; rw [hsh.out]; omega
      have hb256 : b.toNat < 256 := b.toNat_lt
      have hj1 : j + 1 < k := by
        have h1 := hks.out
        have h2 := congrArg List.length hs1.out
        rw [List.length_append, htk1.out] at h2
        omega
      clear hr1
      go_wp2_with fail
      refine (takeByte_yes r (bs r1) b hb _).mono ?_
      rintro e w' ⟨rfl, n, rfl⟩
      go_wp2_with fail
      refine (keepNum base p q b.toNat a sh j (wr.drewN n) hsh hs56 haN hb256 hp.out hq.out hbp hbq hpq).mono ?_
      rintro e w' ⟨rfl, hp', hq', hbl'⟩
      have hp2 := Lib.hid hp'; clear hp'
      have hq2 := Lib.hid hq'; clear hq'
      have hbl2 : Below base w w' := (below_drewN hbl n).trans hbl'
      clear hbl'
      go_wp2
      go_roundw
      case rel => exact ⟨j + 1, _, _, tk ++ [b], bs r1, hj1, by go_num, rfl, hs1, htk1, hsh1, ha1, hp2, hq2, hbl2⟩
      case measure => simp [intOf]; omega

set_option maxHeartbeats 400000 in
theorem takeNumber_yes (s : ByteArray) (k : Int) (h1 : 1 ≤ k) (h2 : k ≤ 8) (hks : Hid (k.toNat ≤ s.data.toList.length)) (w : World) :
    Calls Tryz.prog 78 #[.string s, .int .i64 k] w fun e w' => e = .returned (.tuple #[.int .u64 (numV (s.data.toList.take k.toNat) : Int), .string (bs (s.data.toList.drop k.toNat)), .int .i64 0]) ∧ Below w.heap.size w w' := by
  obtain ⟨k, rfl⟩ := Int.eq_ofNat_of_zero_le (show 0 ≤ k by omega)
  simp only [Int.toNat_natCast] at hks ⊢
  go_enter Tryz.func78, Tryz.ntmps78
  go_wp2_with fail
  refine (isWidth_yes k h1 h2 _).mono ?_
  rintro e w' ⟨rfl, rfl⟩
  go_wp2_with fail
  refine (eachNum_yes w.heap.size w.heap.size (w.heap.size + 1) s k _ (by omega) hks ?hp ?hq (Nat.le_refl _) (by omega) (by omega)).mono ?_
  case hp => exact (Below.heap_alloc _ _ _ (by simp)).trans (heap_alloc_new w _)
  case hq => exact heap_new2 w _ _
  rintro e w1 ⟨rfl, hp, hbl⟩
  have hc := cell_of_one hp
  clear hp
  have hb2 : Below w.heap.size w w1 := (((Below.refl _ _).alloc (Nat.le_refl _) _).alloc (by simp) _).trans hbl
  clear hbl
  go_wp2
  go_ret3
  exact ⟨rfl, hb2⟩

set_option maxHeartbeats 400000 in
theorem takeNumber_short (s : ByteArray) (k : Int) (h1 : 1 ≤ k) (h2 : k ≤ 8) (hks : Hid (s.data.toList.length < k.toNat)) (w : World) :
    Calls Tryz.prog 78 #[.string s, .int .i64 k] w fun e w' => e = .returned (.tuple #[.int .u64 0, .string (bs []), .int .i64 10]) ∧ Below w.heap.size w w' := by
  obtain ⟨k, rfl⟩ := Int.eq_ofNat_of_zero_le (show 0 ≤ k by omega)
  simp only [Int.toNat_natCast] at hks ⊢
  go_enter Tryz.func78, Tryz.ntmps78
  go_wp2_with fail
  refine (isWidth_yes k h1 h2 _).mono ?_
  rintro e w' ⟨rfl, rfl⟩
  go_wp2_with fail
  refine (eachNum_no w.heap.size w.heap.size (w.heap.size + 1) s k _ (by omega) hks ?hp ?hq (Nat.le_refl _) (by omega) (by omega)).mono ?_
  case hp => exact (Below.heap_alloc _ _ _ (by simp)).trans (heap_alloc_new w _)
  case hq => exact heap_new2 w _ _
  rintro e w1 ⟨rfl, hbl⟩
  have hb2 : Below w.heap.size w w1 := (((Below.refl _ _).alloc (Nat.le_refl _) _).alloc (by simp) _).trans hbl
  clear hbl
  go_wp2
  go_ret3
  exact ⟨rfl, hb2⟩

set_option maxHeartbeats 400000 in
theorem takeNumber_arg (s : ByteArray) (k : Int) (h : k < 1 ∨ 8 < k) (w : World) :
    Calls Tryz.prog 78 #[.string s, .int .i64 k] w fun e w' => e = .returned (.tuple #[.int .u64 0, .string (bs []), .int .i64 1]) ∧ Below w.heap.size w w' := by
  have H := Lib.hid h; clear h
  go_enter Tryz.func78, Tryz.ntmps78
  go_wp2_with fail
  refine (isWidth_no k H.out _).mono ?_
  rintro e w' ⟨rfl, rfl⟩
  go_wp2
  go_ret3
  exact ⟨rfl, Below.refl _ _⟩

/-- TakeNumber's answers: the number, what is behind it, the error. -/
def tnN (s : ByteArray) (k : Int) : Int := if k < 1 ∨ 8 < k then 0 else if s.data.toList.length < k.toNat then 0 else numV (s.data.toList.take k.toNat)
def tnR (s : ByteArray) (k : Int) : ByteArray := if k < 1 ∨ 8 < k then bs [] else if s.data.toList.length < k.toNat then bs [] else bs (s.data.toList.drop k.toNat)
def tnE (s : ByteArray) (k : Int) : Int := if k < 1 ∨ 8 < k then 1 else if s.data.toList.length < k.toNat then 10 else 0

theorem takeNumber_any (s : ByteArray) (k : Int) (w : World) :
    Calls Tryz.prog 78 #[.string s, .int .i64 k] w fun e w' => e = .returned (.tuple #[.int .u64 (tnN s k), .string (tnR s k), .int .i64 (tnE s k)]) ∧ Below w.heap.size w w' := by
  unfold tnN tnR tnE
  by_cases h : k < 1 ∨ 8 < k
  · rw [if_pos h, if_pos h, if_pos h]
    exact takeNumber_arg s k h w
  · rw [if_neg h, if_neg h, if_neg h]
    by_cases h2 : s.data.toList.length < k.toNat
    · rw [if_pos h2, if_pos h2, if_pos h2]
      exact takeNumber_short s k (by omega) (by omega) h2 w
    · rw [if_neg h2, if_neg h2, if_neg h2]
      exact takeNumber_yes s k (by omega) (by omega) (Nat.le_of_not_lt h2) w

end Go.Proofs.YtapebaoajknepaaGreatDoor
/-
  Contract: Same.
-/
namespace Go.Proofs.YtapebaoajknepaaGreatDoor
open Go.RowKit

/-- Are two texts the same? As the walk tells it. -/
theorem same_any (a b : ByteArray) (w : World) :
    Calls Tryz.prog 76 #[.string a, .string b] w fun e w' => e = .returned (.bool (a.toList == b.toList)) ∧ w' = w := by
  go_enter Tryz.func76, Tryz.ntmps76
  go_wp2
  go_ret
  exact ⟨rfl, rfl⟩

end Go.Proofs.YtapebaoajknepaaGreatDoor
/-
  One cell of a block, loaded.
-/
namespace Go.Proofs.YtapebaoajknepaaGreatDoor
open Go.RowKit

/-- One cell of a block. -/
theorem RowAt.one {w : World} {p : Nat} {t : TypeId} {cs : Array Value} (h : RowAt w p t cs) (j : Nat) {v : Value} (hv : cs[j]? = some v) : w.cell? ⟨p, j, none⟩ = some v := by
  rw [cell_of_row w p j cs t (0, 0) h, hv]

/-- One cell of a block, loaded. -/
theorem get_cell {P : Program} {w : World} {g j : Nat} {t T : TypeId} {cs : Array Value} {v : Value} {d : TypeDesc} (hr : RowAt w g t cs) (hc : cs[j]? = some v) (hd : (match d with | .struct _ | .array _ _ => false | _ => true) = true) (hu : P.underlying T = some d)
    {o : Oper} {a : Act} {x : Operand} (ho : o.op = .load T x) (hx : a.eval x = .pointer (some ⟨g, j, none⟩)) : (execOp a.eval o).run P w = .ok (.value v) w := by
  have hcell : w.cell? ⟨g, j, none⟩ = some v := by rw [cell_of_row w g j cs t (0, 0) hr, hc]
  have hagg : (isAgg T).run P w = .ok false w := by
    unfold isAgg
    rw [Sem.run_bind, run_underlying hu w]
    cases d <;> simp_all
  unfold execOp
  simp [ho, hx, Instr.loadAt, Instr.sureAddr, loadVar, Sem.run_bind, hagg, hcell]

end Go.Proofs.YtapebaoajknepaaGreatDoor
/-
  The parts that a page is read by, in memory, and takeAll.
-/
namespace Go.Proofs.YtapebaoajknepaaGreatDoor
open Go.RowKit
set_option linter.unusedVariables false

/-- What lies in memory while a page is read: the answer, the frame so far, the length, what the parts hold. -/
structure GW (w0 : World) (q K N : Nat) (T : ByteArray) (M : Nat) (w : World) : Prop where
  rest : Below q w0 w
  r : RowAt w (q) 41 #[.int .u8 0, .int .u64 0, .string ByteArray.empty]
  f : RowAt w (q + 1) 41 #[.int .u8 (K : Int), .int .u64 (N : Int), .string T]
  l : RowAt w (q + 2) 3 #[.int .i64 (M : Int)]
  s1 : RowAt w (q + 3) 3 #[.int .i64 1]
  k1 : RowAt w (q + 4) 99 #[.func (.func 46) #[] #[.pointer (some ⟨q + 1, 0, none⟩)]]
  s2 : RowAt w (q + 5) 3 #[.int .i64 8]
  k2 : RowAt w (q + 6) 99 #[.func (.func 47) #[] #[.pointer (some ⟨q + 1, 0, none⟩)]]
  s3 : RowAt w (q + 7) 3 #[.int .i64 2]
  k3 : RowAt w (q + 8) 99 #[.func (.func 48) #[] #[.pointer (some ⟨q + 2, 0, none⟩)]]
  ps : RowAt w (q + 9) 97 #[.func (.func 44) #[] #[], .func (.func 77) #[] #[.pointer (some ⟨q + 3, 0, none⟩), .pointer (some ⟨q + 4, 0, none⟩)], .func (.func 77) #[] #[.pointer (some ⟨q + 5, 0, none⟩), .pointer (some ⟨q + 6, 0, none⟩)], .func (.func 77) #[] #[.pointer (some ⟨q + 7, 0, none⟩), .pointer (some ⟨q + 8, 0, none⟩)], .func (.func 49) #[] #[.pointer (some ⟨q + 2, 0, none⟩), .pointer (some ⟨q + 1, 0, none⟩)], .func (.func 50) #[] #[]]

section
variable {w0 w w' : World} {q K N M : Nat} {T : ByteArray}
theorem GW.after (h : GW w0 q K N T M w) (hb : Below w.heap.size w w') : GW w0 q K N T M w' := ⟨h.rest.trans (hb.mono (by have := h.r.lt; omega)), h.r.below hb h.r.lt, h.f.below hb h.f.lt, h.l.below hb h.l.lt, h.s1.below hb h.s1.lt, h.k1.below hb h.k1.lt, h.s2.below hb h.s2.lt, h.k2.below hb h.k2.lt, h.s3.below hb h.s3.lt, h.k3.below hb h.k3.lt, h.ps.below hb h.ps.lt⟩
theorem GW.setK (h : GW w0 q K N T M w) (k : Nat) : GW w0 q k N T M (w.setCell ⟨q + 1, 0, none⟩ (.int .u8 (k : Int))) := ⟨h.rest.setCell (by show q ≤ q + 1; omega) _, h.r.setOther _ _ (by show _ ≠ q + 1; omega), h.f.set _ _, h.l.setOther _ _ (by show _ ≠ q + 1; omega), h.s1.setOther _ _ (by show _ ≠ q + 1; omega), h.k1.setOther _ _ (by show _ ≠ q + 1; omega), h.s2.setOther _ _ (by show _ ≠ q + 1; omega), h.k2.setOther _ _ (by show _ ≠ q + 1; omega), h.s3.setOther _ _ (by show _ ≠ q + 1; omega), h.k3.setOther _ _ (by show _ ≠ q + 1; omega), h.ps.setOther _ _ (by show _ ≠ q + 1; omega)⟩
theorem GW.setN (h : GW w0 q K N T M w) (k : Nat) : GW w0 q K k T M (w.setCell ⟨q + 1, 1, none⟩ (.int .u64 (k : Int))) := ⟨h.rest.setCell (by show q ≤ q + 1; omega) _, h.r.setOther _ _ (by show _ ≠ q + 1; omega), h.f.set _ _, h.l.setOther _ _ (by show _ ≠ q + 1; omega), h.s1.setOther _ _ (by show _ ≠ q + 1; omega), h.k1.setOther _ _ (by show _ ≠ q + 1; omega), h.s2.setOther _ _ (by show _ ≠ q + 1; omega), h.k2.setOther _ _ (by show _ ≠ q + 1; omega), h.s3.setOther _ _ (by show _ ≠ q + 1; omega), h.k3.setOther _ _ (by show _ ≠ q + 1; omega), h.ps.setOther _ _ (by show _ ≠ q + 1; omega)⟩
theorem GW.setT (h : GW w0 q K N T M w) (k : ByteArray) : GW w0 q K N k M (w.setCell ⟨q + 1, 2, none⟩ (.string k)) := ⟨h.rest.setCell (by show q ≤ q + 1; omega) _, h.r.setOther _ _ (by show _ ≠ q + 1; omega), h.f.set _ _, h.l.setOther _ _ (by show _ ≠ q + 1; omega), h.s1.setOther _ _ (by show _ ≠ q + 1; omega), h.k1.setOther _ _ (by show _ ≠ q + 1; omega), h.s2.setOther _ _ (by show _ ≠ q + 1; omega), h.k2.setOther _ _ (by show _ ≠ q + 1; omega), h.s3.setOther _ _ (by show _ ≠ q + 1; omega), h.k3.setOther _ _ (by show _ ≠ q + 1; omega), h.ps.setOther _ _ (by show _ ≠ q + 1; omega)⟩
theorem GW.setM (h : GW w0 q K N T M w) (k : Nat) : GW w0 q K N T k (w.setCell ⟨q + 2, 0, none⟩ (.int .i64 (k : Int))) := ⟨h.rest.setCell (by show q ≤ q + 2; omega) _, h.r.setOther _ _ (by show _ ≠ q + 2; omega), h.f.setOther _ _ (by show _ ≠ q + 2; omega), h.l.set _ _, h.s1.setOther _ _ (by show _ ≠ q + 2; omega), h.k1.setOther _ _ (by show _ ≠ q + 2; omega), h.s2.setOther _ _ (by show _ ≠ q + 2; omega), h.k2.setOther _ _ (by show _ ≠ q + 2; omega), h.s3.setOther _ _ (by show _ ≠ q + 2; omega), h.k3.setOther _ _ (by show _ ≠ q + 2; omega), h.ps.setOther _ _ (by show _ ≠ q + 2; omega)⟩
end

set_option maxHeartbeats 400000 in
set_option maxRecDepth 8000 in
theorem keepK (w0 : World) (q K N M : Nat) (T : ByteArray) (n : Nat) (hn : n < 256) (b : Bool) (hb : ((n : Int) != 0) = b) (w : World) (h : Hid (GW w0 q K N T M w)) :
    Calls Tryz.prog 46 #[.int .u64 (n : Int), .pointer (some ⟨q + 1, 0, none⟩)] w fun e w' => e = .returned (.bool b) ∧ GW w0 q n N T M w' := by
  have H := Lib.hid (h.out.setK n)
  have c := h.out.f.one 0 rfl
  have f := h.out.f.free 0
  clear h
  go_enter Tryz.func46, Tryz.ntmps46
  go_wp2
  go_ret
  exact ⟨rfl, H.out⟩

set_option maxHeartbeats 400000 in
set_option maxRecDepth 8000 in
theorem keepN (w0 : World) (q K N M : Nat) (T : ByteArray) (n : Nat) (hn : n < 18446744073709551616) (w : World) (h : Hid (GW w0 q K N T M w)) :
    Calls Tryz.prog 47 #[.int .u64 (n : Int), .pointer (some ⟨q + 1, 0, none⟩)] w fun e w' => e = .returned (.bool true) ∧ GW w0 q K n T M w' := by
  have H := Lib.hid (h.out.setN n)
  have c := h.out.f.one 1 rfl
  have f := h.out.f.free 1
  clear h
  go_enter Tryz.func47, Tryz.ntmps47
  go_wp2
  go_ret
  exact ⟨rfl, H.out⟩

set_option maxHeartbeats 400000 in
set_option maxRecDepth 8000 in
theorem keepM (w0 : World) (q K N M : Nat) (T : ByteArray) (n : Nat) (hn : n < 65536) (b : Bool) (hb : decide ((n : Int) ≤ 229) = b) (w : World) (h : Hid (GW w0 q K N T M w)) :
    Calls Tryz.prog 48 #[.int .u64 (n : Int), .pointer (some ⟨q + 2, 0, none⟩)] w fun e w' => e = .returned (.bool b) ∧ GW w0 q K N T n w' := by
  have H := Lib.hid (h.out.setM n)
  have c := h.out.l.one 0 rfl
  have f := h.out.l.free 0
  clear h
  go_enter Tryz.func48, Tryz.ntmps48
  go_wp2
  go_ret
  exact ⟨rfl, H.out⟩

set_option maxHeartbeats 400000 in
set_option maxRecDepth 8000 in
theorem partK (w0 : World) (q K N M : Nat) (T : ByteArray) (s : ByteArray) (hs : 1 ≤ s.size) (n : Nat) (hr : Hid (numV (s.data.toList.take 1) = n)) (b : Bool) (hb : ((n : Int) != 0) = b) (w : World) (h : Hid (GW w0 q K N T M w)) :
    Calls Tryz.prog 77 #[.string s, .pointer (some ⟨q + 3, 0, none⟩), .pointer (some ⟨q + 4, 0, none⟩)] w fun e w' => e = .returned (.tuple #[.string (bs (s.data.toList.drop 1)), .bool b]) ∧ GW w0 q n N T M w' := by
  have hn : n < 256 := by rw [← hr.out]; exact numV_le _ 1 (by simp; omega)
  have c := h.out.s1.one 0 rfl
  have C : Hid (Calls Tryz.prog 78 #[.string s, .int .i64 1] w fun e w' => e = .returned (.tuple #[.int .u64 (n : Int), .string (bs (s.data.toList.drop 1)), .int .i64 0]) ∧ Below w.heap.size w w') := by
    have := takeNumber_yes s 1 (by decide) (by decide) (by unfold Hid; show 1 ≤ _; rw [ba_size]; exact hs) w
    rw [← hr.out]
    exact this
  clear hr
  generalize bs (s.data.toList.drop 1) = R at *
  go_enter Tryz.func77, Tryz.ntmps77
  go_wp2_with fail
  refine C.out.mono ?_
  rintro e w1 ⟨rfl, hb1⟩
  replace h : Hid (GW w0 q K N T M w1) := h.out.after hb1
  have c2 := h.out.k1.one 0 rfl
  clear c C hb1
  go_wp2_with fail
  refine (keepK w0 q K N M T n hn b hb w1 h).mono ?_
  rintro e w2 ⟨rfl, h2⟩
  go_wp2
  go_ret2
  exact ⟨rfl, h2⟩

set_option maxHeartbeats 400000 in
set_option maxRecDepth 8000 in
theorem partN (w0 : World) (q K N M : Nat) (T : ByteArray) (s : ByteArray) (hs : 8 ≤ s.size) (n : Nat) (hr : Hid (numV (s.data.toList.take 8) = n)) (w : World) (h : Hid (GW w0 q K N T M w)) :
    Calls Tryz.prog 77 #[.string s, .pointer (some ⟨q + 5, 0, none⟩), .pointer (some ⟨q + 6, 0, none⟩)] w fun e w' => e = .returned (.tuple #[.string (bs (s.data.toList.drop 8)), .bool true]) ∧ GW w0 q K n T M w' := by
  have hn : n < 18446744073709551616 := by rw [← hr.out]; exact numV_le _ 8 (by simp; omega)
  have c := h.out.s2.one 0 rfl
  have C : Hid (Calls Tryz.prog 78 #[.string s, .int .i64 8] w fun e w' => e = .returned (.tuple #[.int .u64 (n : Int), .string (bs (s.data.toList.drop 8)), .int .i64 0]) ∧ Below w.heap.size w w') := by
    have := takeNumber_yes s 8 (by decide) (by decide) (by unfold Hid; show 8 ≤ _; rw [ba_size]; exact hs) w
    rw [← hr.out]
    exact this
  clear hr
  generalize bs (s.data.toList.drop 8) = R at *
  go_enter Tryz.func77, Tryz.ntmps77
  go_wp2_with fail
  refine C.out.mono ?_
  rintro e w1 ⟨rfl, hb1⟩
  replace h : Hid (GW w0 q K N T M w1) := h.out.after hb1
  have c2 := h.out.k2.one 0 rfl
  clear c C hb1
  go_wp2_with fail
  refine (keepN w0 q K N M T n hn w1 h).mono ?_
  rintro e w2 ⟨rfl, h2⟩
  go_wp2
  go_ret2
  exact ⟨rfl, h2⟩

set_option maxHeartbeats 400000 in
set_option maxRecDepth 8000 in
theorem partM (w0 : World) (q K N M : Nat) (T : ByteArray) (s : ByteArray) (hs : 2 ≤ s.size) (n : Nat) (hr : Hid (numV (s.data.toList.take 2) = n)) (b : Bool) (hb : decide ((n : Int) ≤ 229) = b) (w : World) (h : Hid (GW w0 q K N T M w)) :
    Calls Tryz.prog 77 #[.string s, .pointer (some ⟨q + 7, 0, none⟩), .pointer (some ⟨q + 8, 0, none⟩)] w fun e w' => e = .returned (.tuple #[.string (bs (s.data.toList.drop 2)), .bool b]) ∧ GW w0 q K N T n w' := by
  have hn : n < 65536 := by rw [← hr.out]; exact numV_le _ 2 (by simp; omega)
  have c := h.out.s3.one 0 rfl
  have C : Hid (Calls Tryz.prog 78 #[.string s, .int .i64 2] w fun e w' => e = .returned (.tuple #[.int .u64 (n : Int), .string (bs (s.data.toList.drop 2)), .int .i64 0]) ∧ Below w.heap.size w w') := by
    have := takeNumber_yes s 2 (by decide) (by decide) (by unfold Hid; show 2 ≤ _; rw [ba_size]; exact hs) w
    rw [← hr.out]
    exact this
  clear hr
  generalize bs (s.data.toList.drop 2) = R at *
  go_enter Tryz.func77, Tryz.ntmps77
  go_wp2_with fail
  refine C.out.mono ?_
  rintro e w1 ⟨rfl, hb1⟩
  replace h : Hid (GW w0 q K N T M w1) := h.out.after hb1
  have c2 := h.out.k3.one 0 rfl
  clear c C hb1
  go_wp2_with fail
  refine (keepM w0 q K N M T n hn b hb w1 h).mono ?_
  rintro e w2 ⟨rfl, h2⟩
  go_wp2
  go_ret2
  exact ⟨rfl, h2⟩

set_option maxHeartbeats 400000 in
set_option maxRecDepth 8000 in
theorem partT (w0 : World) (q K N M : Nat) (T : ByteArray) (s : ByteArray) (hs : s.size ≤ 100000) (hM : M ≤ s.size) (w : World) (h : Hid (GW w0 q K N T M w)) :
    Calls Tryz.prog 49 #[.string s, .pointer (some ⟨q + 2, 0, none⟩), .pointer (some ⟨q + 1, 0, none⟩)] w fun e w' => e = .returned (.tuple #[.string (bs (s.data.toList.drop M)), .bool true]) ∧ GW w0 q K N (bs (s.data.toList.take M)) M w' := by
  have E1 : Hid (s.extract 0 M = bs (s.data.toList.take M)) := Lib.extract_upto s M
  have E2 : Hid (s.extract M s.size = bs (s.data.toList.drop M)) := Lib.extract_from s M
  rw [← E1.out, ← E2.out]
  have H := Lib.hid (h.out.setT (s.extract 0 M))
  have c := h.out.f.one 2 rfl
  have f := h.out.f.free 2
  have c2 := h.out.l.one 0 rfl
  have c3 := H.out.l.one 0 rfl
  clear h
  go_enter Tryz.func49, Tryz.ntmps49
  go_wp2
  go_ret2
  exact ⟨rfl, H.out⟩

set_option maxHeartbeats 400000 in
set_option maxRecDepth 8000 in
theorem takeFilling_any (s : ByteArray) (hs : s.size ≤ 100000) (b : Bool) (hb : decide (s.data.toList = List.replicate s.size 0) = b) (w : World) :
    Calls Tryz.prog 50 #[.string s] w fun e w' => e = .returned (.tuple #[.string ByteArray.empty, .bool b]) ∧ Below w.heap.size w w' := by
  have e9 : Hid ((Lib.trimB s.data.toList 0).isEmpty = b) := by
    unfold Hid
    rw [← hb, Bool.eq_iff_iff, List.isEmpty_iff, decide_eq_true_iff, trimB_nil, ba_size]
  clear hb
  have C := Lib.hid (trim_any s 0 (by decide) w (by omega))
  go_enter Tryz.func50, Tryz.ntmps50
  go_wp2_with fail
  refine C.out.mono ?_
  rintro e w1 ⟨rfl, hb1⟩
  go_wp2
  go_ret2
  exact ⟨by rw [← e9.out]; rfl, hb1⟩

set_option maxHeartbeats 400000 in
set_option maxRecDepth 8000 in
theorem takeSum_no (s : ByteArray) (hs : s.size ≠ 256) (w : World) :
    Calls Tryz.prog 44 #[.string s] w fun e w' => e = .returned (.tuple #[.string ByteArray.empty, .bool false]) ∧ w' = w := by
  have d : ((s.size : Int) != 256) = true := by simp; omega
  go_enter Tryz.func44, Tryz.ntmps44
  go_wp2
  go_ret2
  exact ⟨rfl, rfl⟩

set_option maxHeartbeats 400000 in
set_option maxRecDepth 8000 in
theorem takeSum_yes (s : ByteArray) (hs : s.size = 256) (b : Bool) (hb : Hid (decide (s.data.toList.drop 240 = sumL (s.data.toList.take 240)) = b)) (w : World) (hk : Hid (KRow w)) :
    Calls Tryz.prog 44 #[.string s] w fun e w' => e = .returned (.tuple #[.string (bs (s.data.toList.take 240)), .bool b]) ∧ Below w.heap.size w w' := by
  have d : ((s.size : Int) != 256) = false := by simp; omega
  have E1 : Hid (s.extract 0 240 = bs (s.data.toList.take 240)) := Lib.extract_upto s 240
  have E2 : Hid (s.extract 240 256 = bs (s.data.toList.drop 240)) := by rw [← hs]; exact Lib.extract_from s 240
  have EB : Hid (((bs (s.data.toList.drop 240)).toList == (bs (sumL (s.data.toList.take 240))).toList) = b) := by
    unfold Hid
    rw [← hb.out, Bool.eq_iff_iff, beq_iff_eq, decide_eq_true_iff, ByteArray.toList_eq, ByteArray.toList_eq]
    exact Iff.rfl
  have S : Hid (∀ w', Below w.heap.size w w' → Calls Tryz.prog 33 #[.string (bs (s.data.toList.take 240))] w' fun e w'' => e = .returned (.string (bs (sumL (s.data.toList.take 240)))) ∧ Below w'.heap.size w' w'') := fun w' hw =>
    sumOf_any (bs (s.data.toList.take 240)) (by rw [bs_size, List.length_take, ba_size]; omega) w' (hk.out.below hw hk.out.1 hw.size)
  have S2 : Hid (∀ w', Calls Tryz.prog 76 #[.string (bs (s.data.toList.drop 240)), .string (bs (sumL (s.data.toList.take 240)))] w' fun e w'' => e = .returned (.bool b) ∧ w'' = w') := fun w' => by
    rw [← EB.out]
    exact same_any _ _ w'
  clear EB hb hk
  generalize bs (sumL (s.data.toList.take 240)) = B at *
  generalize bs (s.data.toList.take 240) = A at *
  generalize bs (s.data.toList.drop 240) = D at *
  go_enter Tryz.func44, Tryz.ntmps44
  go_wp2
  go_quiet (fail)
  rw [E1.out, E2.out]
  have b0 : Below w.heap.size w (w.drewN nq) := ⟨rfl, rfl, rfl, Nat.le_refl _, fun _ _ => rfl⟩
  generalize w.drewN nq = w1 at *
  go_wp2_with fail
  refine (S.out w1 b0).mono ?_
  rintro e w2 ⟨rfl, hb⟩
  replace b0 : Below w.heap.size w w2 := b0.trans (hb.mono b0.size)
  clear hb S
  go_wp2_with fail
  refine (S2.out w2).mono ?_
  rintro e w3 ⟨rfl, rfl⟩
  go_wp2
  go_ret2
  exact ⟨rfl, b0⟩

end Go.Proofs.YtapebaoajknepaaGreatDoor
/-
  Contract: takeAll, over the six parts of a page.
-/
namespace Go.Proofs.YtapebaoajknepaaGreatDoor
open Go.RowKit
set_option linter.unusedVariables false

theorem okB_iff (P : List UInt8) : okB P = true ↔ P.length = 256 ∧ kindL P ≠ 0 ∧ lenL P ≤ 229 ∧ P.drop 240 = sumL (P.take 240) ∧ (P.take 240).drop (11 + lenL P) = List.replicate (229 - lenL P) 0 := by
  unfold okB
  simp only [Bool.and_eq_true, decide_eq_true_eq, Bool.not_eq_true', decide_eq_false_iff_not]
  constructor
  · rintro ⟨h1, h2, h3, h4⟩
    exact ⟨h1, h2, h3, (page_iff h1 h3).1 h4⟩
  · rintro ⟨h1, h2, h3, h4⟩
    exact ⟨h1, h2, h3, (page_iff h1 h3).2 h4⟩
theorem okB_no {P : List UInt8} (h : okB P = true → False) : okB P = false := by
  cases hb : okB P
  · rfl
  · exact absurd hb h

theorem take_at (P : List UInt8) (a b : Nat) (h : a + b ≤ 240) : ((P.take 240).drop a).take b = (P.drop a).take b := by
  rw [List.drop_take, List.take_take, Nat.min_eq_left (by omega)]

/-- How far a page is read: what is left, how many parts were taken, what they gave. -/
inductive Ph (w0 : World) (q : Nat) (P : List UInt8) : Value → Value → World → Prop
  | p0 (w : World) (h : Hid (GW w0 q 0 0 ByteArray.empty 0 w)) : Ph w0 q P (.string (bs P)) (.int .i64 0) w
  | p1 (w : World) (hl : P.length = 256) (hs : Hid (P.drop 240 = sumL (P.take 240))) (h : Hid (GW w0 q 0 0 ByteArray.empty 0 w)) : Ph w0 q P (.string (bs (P.take 240))) (.int .i64 1) w
  | p2 (w : World) (hl : P.length = 256) (hs : Hid (P.drop 240 = sumL (P.take 240))) (hk : Hid (kindL P ≠ 0)) (h : Hid (GW w0 q (kindL P) 0 ByteArray.empty 0 w)) : Ph w0 q P (.string (bs ((P.take 240).drop 1))) (.int .i64 2) w
  | p3 (w : World) (hl : P.length = 256) (hs : Hid (P.drop 240 = sumL (P.take 240))) (hk : Hid (kindL P ≠ 0)) (h : Hid (GW w0 q (kindL P) (seqL P) ByteArray.empty 0 w)) : Ph w0 q P (.string (bs ((P.take 240).drop 9))) (.int .i64 3) w
  | p4 (w : World) (hl : P.length = 256) (hs : Hid (P.drop 240 = sumL (P.take 240))) (hk : Hid (kindL P ≠ 0)) (hm : lenL P ≤ 229) (h : Hid (GW w0 q (kindL P) (seqL P) ByteArray.empty (lenL P) w)) : Ph w0 q P (.string (bs ((P.take 240).drop 11))) (.int .i64 4) w
  | p5 (w : World) (hl : P.length = 256) (hs : Hid (P.drop 240 = sumL (P.take 240))) (hk : Hid (kindL P ≠ 0)) (hm : lenL P ≤ 229) (h : Hid (GW w0 q (kindL P) (seqL P) (bs (textL P)) (lenL P) w)) : Ph w0 q P (.string (bs ((P.take 240).drop (11 + lenL P)))) (.int .i64 5) w
  | p6 (w : World) (hok : Hid (okB P = true)) (h : Hid (GW w0 q (kindL P) (seqL P) (bs (textL P)) (lenL P) w)) : Ph w0 q P (.string ByteArray.empty) (.int .i64 6) w

/-- What takeAll leaves. -/
def TakeEnd (w0 : World) (q : Nat) (P : List UInt8) (e : Ending) (w' : World) : Prop :=
  e = .returned (.bool (okB P)) ∧ ∃ K N T M, GW w0 q K N T M w' ∧ (okB P = true → K = kindL P ∧ N = seqL P ∧ T = bs (textL P))

theorem TakeEnd.no {w0 w' : World} {q K N M : Nat} {T : ByteArray} {P : List UInt8} (h : GW w0 q K N T M w') (hn : okB P = false) : TakeEnd w0 q P (.returned (.bool false)) w' :=
  ⟨by rw [hn], _, _, _, _, h, fun hh => by rw [hn] at hh; cases hh⟩

set_option maxHeartbeats 1000000 in
set_option maxRecDepth 8000 in
theorem takeAll_any (w0 : World) (q : Nat) (P : List UInt8) (hP : P.length ≤ 100000) (w : World) (hk : Hid (KRow w0)) (hq : Hid (0 < q)) (h : Hid (GW w0 q 0 0 ByteArray.empty 0 w)) :
    Calls Tryz.prog 43 #[.string (bs P), .slice (some ⟨q + 9, 0, none⟩) 6 6] w (TakeEnd w0 q P) := by
  go_enter Tryz.func43, Tryz.ntmps43
  go_wp2
  go_loopw [5, 13] (fun t i wr => Ph w0 q P t i wr) (fun _ i _ => 6 - (Lib.intOf i).toNat)
  case atStart => exact Ph.p0 w h
  case round =>
    clear h
    cases hrel with
    | p0 _ h =>
      have c := h.out.ps.one 0 rfl
      have KR : Hid (KRow wr) := hk.out.below h.out.rest hq.out h.out.rest.size
      by_cases hl : P.length = 256
      · cases hb : decide (P.drop 240 = sumL (P.take 240)) with
        | false =>
          have hno : Hid (okB P = false) := okB_no fun ho => by
            have := ((okB_iff P).1 ho).2.2.2.1
            rw [decide_eq_false_iff_not] at hb
            exact hb this
          have C := Lib.hid (takeSum_yes (bs P) (by rw [bs_size]; exact hl) false hb wr KR)
          clear hb hl
          go_wp2_with fail
          refine C.out.mono ?_
          rintro e w1 ⟨rfl, hb1⟩
          have h2 := h.out.after hb1
          clear C h hb1 c KR
          go_wp2
          go_ret
          exact TakeEnd.no h2 hno.out
        | true =>
          have hs : Hid (P.drop 240 = sumL (P.take 240)) := by
            unfold Hid
            exact of_decide_eq_true hb
          have C := Lib.hid (takeSum_yes (bs P) (by rw [bs_size]; exact hl) true hb wr KR)
          clear hb
          have HL := Lib.hid hl
          clear hl
          go_wp2_with fail
          refine C.out.mono ?_
          rintro e w1 ⟨rfl, hb1⟩
          have h2 := h.out.after hb1
          clear C h hb1 c KR
          go_wp2
          go_roundw
          case rel => exact Ph.p1 _ HL.out hs h2
          case measure => simp [Lib.intOf]
      · have hno : Hid (okB P = false) := okB_no fun ho => hl ((okB_iff P).1 ho).1
        have C := Lib.hid (takeSum_no (bs P) (by rw [bs_size]; exact hl) wr)
        clear hl
        go_wp2_with fail
        refine C.out.mono ?_
        rintro e w1 ⟨rfl, rfl⟩
        have h2 := h.out
        clear C h c KR
        go_wp2
        go_ret
        exact TakeEnd.no h2 hno.out
    | p1 _ hl hs h =>
      have c := h.out.ps.one 1 rfl
      cases hb : ((kindL P : Int) != 0) with
      | false =>
        have hno : Hid (okB P = false) := okB_no fun ho => by
          have := ((okB_iff P).1 ho).2.1
          simp at hb
          exact this hb
        have C := Lib.hid (partK w0 q 0 0 0 ByteArray.empty (bs (P.take 240)) (by rw [bs_size, List.length_take]; omega) (kindL P) (by unfold Hid kindL; show numV ((P.take 240).take 1) = _; rw [List.take_take]; rfl) false hb wr h)
        clear hb hl
        go_wp2_with fail
        refine C.out.mono ?_
        rintro e w1 ⟨rfl, h2⟩
        clear C h c
        go_wp2
        go_ret
        exact TakeEnd.no h2 hno.out
      | true =>
        have hkd : Hid (kindL P ≠ 0) := by
          simp at hb
          exact hb
        have C := Lib.hid (partK w0 q 0 0 0 ByteArray.empty (bs (P.take 240)) (by rw [bs_size, List.length_take]; omega) (kindL P) (by unfold Hid kindL; show numV ((P.take 240).take 1) = _; rw [List.take_take]; rfl) true hb wr h)
        clear hb
        have HL := Lib.hid hl
        clear hl
        have E : Hid (bs ((bs (P.take 240)).data.toList.drop 1) = bs ((P.take 240).drop 1)) := rfl
        rw [E.out] at C
        clear E
        generalize hR : bs ((P.take 240).drop 1) = R at C
        have HR := Lib.hid hR
        clear hR
        go_wp2_with fail
        refine C.out.mono ?_
        rintro e w1 ⟨rfl, h2⟩
        clear C h c
        go_wp2
        go_roundw
        case rel => rw [← HR.out]; exact Ph.p2 _ HL.out hs hkd h2
        case measure => simp [Lib.intOf]
    | p2 _ hl hs hkd h =>
      have c := h.out.ps.one 2 rfl
      have C := Lib.hid (partN w0 q (kindL P) 0 0 ByteArray.empty (bs ((P.take 240).drop 1)) (by rw [bs_size, List.length_drop, List.length_take]; omega) (seqL P) (by unfold Hid seqL; show numV (((P.take 240).drop 1).take 8) = _; rw [take_at P 1 8 (by decide)]) wr h)
      have HL := Lib.hid hl
      clear hl
      have E : Hid (bs ((bs ((P.take 240).drop 1)).data.toList.drop 8) = bs ((P.take 240).drop 9)) := by
        unfold Hid
        show bs (((P.take 240).drop 1).drop 8) = _
        rw [List.drop_drop]
      rw [E.out] at C
      clear E
      generalize hR : bs ((P.take 240).drop 9) = R at C
      have HR := Lib.hid hR
      clear hR
      generalize bs ((P.take 240).drop 1) = Q at *
      go_wp2_with fail
      refine C.out.mono ?_
      rintro e w1 ⟨rfl, h2⟩
      clear C h c
      go_wp2
      go_roundw
      case rel => rw [← HR.out]; exact Ph.p3 _ HL.out hs hkd h2
      case measure => simp [Lib.intOf]
    | p3 _ hl hs hkd h =>
      have c := h.out.ps.one 3 rfl
      have C : Hid (∀ b, decide ((lenL P : Int) ≤ 229) = b → Calls Tryz.prog 77 #[.string (bs ((P.take 240).drop 9)), .pointer (some ⟨q + 7, 0, none⟩), .pointer (some ⟨q + 8, 0, none⟩)] wr fun e w' => e = .returned (.tuple #[.string (bs ((P.take 240).drop 11)), .bool b]) ∧ GW w0 q (kindL P) (seqL P) ByteArray.empty (lenL P) w') := fun b hb => by
        have := partM w0 q (kindL P) (seqL P) 0 ByteArray.empty (bs ((P.take 240).drop 9)) (by rw [bs_size, List.length_drop, List.length_take]; omega) (lenL P) (by unfold Hid lenL; show numV (((P.take 240).drop 9).take 2) = _; rw [take_at P 9 2 (by decide)]) b hb wr h
        rwa [show (bs ((P.take 240).drop 9)).data.toList.drop 2 = (P.take 240).drop 11 from by show ((P.take 240).drop 9).drop 2 = _; rw [List.drop_drop]] at this
      generalize hR : bs ((P.take 240).drop 11) = R at C
      have HR := Lib.hid hR
      clear hR
      generalize bs ((P.take 240).drop 9) = Q at *
      have HL := Lib.hid hl
      clear hl
      cases hb : decide ((lenL P : Int) ≤ 229) with
      | false =>
        have hno : Hid (okB P = false) := okB_no fun ho => by
          have := ((okB_iff P).1 ho).2.2.1
          rw [decide_eq_false_iff_not] at hb
          omega
        replace C := Lib.hid (C.out false hb)
        clear hb
        go_wp2_with fail
        refine C.out.mono ?_
        rintro e w1 ⟨rfl, h2⟩
        clear C h c
        go_wp2
        go_ret
        exact TakeEnd.no h2 hno.out
      | true =>
        have hm : Hid (lenL P ≤ 229) := by
          unfold Hid
          rw [decide_eq_true_iff] at hb
          omega
        replace C := Lib.hid (C.out true hb)
        clear hb
        go_wp2_with fail
        refine C.out.mono ?_
        rintro e w1 ⟨rfl, h2⟩
        clear C h c
        go_wp2
        go_roundw
        case rel => rw [← HR.out]; exact Ph.p4 _ HL.out hs hkd hm.out h2
        case measure => simp [Lib.intOf]
    | p4 _ hl hs hkd hm h =>
      have c := h.out.ps.one 4 rfl
      have C : Hid (Calls Tryz.prog 49 #[.string (bs ((P.take 240).drop 11)), .pointer (some ⟨q + 2, 0, none⟩), .pointer (some ⟨q + 1, 0, none⟩)] wr fun e w' => e = .returned (.tuple #[.string (bs ((P.take 240).drop (11 + lenL P))), .bool true]) ∧ GW w0 q (kindL P) (seqL P) (bs (textL P)) (lenL P) w') := by
        have := partT w0 q (kindL P) (seqL P) (lenL P) ByteArray.empty (bs ((P.take 240).drop 11)) (by rw [bs_size, List.length_drop, List.length_take]; omega) (by rw [bs_size, List.length_drop, List.length_take]; omega) wr h
        rw [show (bs ((P.take 240).drop 11)).data.toList.drop (lenL P) = (P.take 240).drop (11 + lenL P) from by show ((P.take 240).drop 11).drop (lenL P) = _; rw [List.drop_drop],
          show (bs ((P.take 240).drop 11)).data.toList.take (lenL P) = textL P from by show ((P.take 240).drop 11).take (lenL P) = _; rw [take_at P 11 _ (by omega)]; rfl] at this
        exact this
      generalize hR : bs ((P.take 240).drop (11 + lenL P)) = R at C
      have HR := Lib.hid hR
      clear hR
      generalize bs ((P.take 240).drop 11) = Q at *
      have HL := Lib.hid hl
      have HM := Lib.hid hm
      clear hl hm
      go_wp2_with fail
      refine C.out.mono ?_
      rintro e w1 ⟨rfl, h2⟩
      clear C h c
      go_wp2
      go_roundw
      case rel => rw [← HR.out]; exact Ph.p5 _ HL.out hs hkd HM.out h2
      case measure => simp [Lib.intOf]
    | p5 _ hl hs hkd hm h =>
      have c := h.out.ps.one 5 rfl
      have zl : ((P.take 240).drop (11 + lenL P)).length = 229 - lenL P := by rw [List.length_drop, List.length_take]; omega
      have C : Hid (∀ b, decide ((P.take 240).drop (11 + lenL P) = List.replicate (229 - lenL P) 0) = b → Calls Tryz.prog 50 #[.string (bs ((P.take 240).drop (11 + lenL P)))] wr fun e w' => e = .returned (.tuple #[.string ByteArray.empty, .bool b]) ∧ Below wr.heap.size wr w') := fun b hb =>
        takeFilling_any _ (by rw [bs_size, zl]; omega) b (by rw [bs_size, zl]; exact hb) wr
      have hok : Hid (okB P = decide ((P.take 240).drop (11 + lenL P) = List.replicate (229 - lenL P) 0)) := by
        unfold Hid
        rw [Bool.eq_iff_iff, okB_iff, decide_eq_true_iff]
        exact ⟨fun ho => ho.2.2.2.2, fun hz => ⟨hl, hkd.out, hm, hs.out, hz⟩⟩
      clear zl hl hm
      generalize bs ((P.take 240).drop (11 + lenL P)) = Q at *
      cases hb : decide ((P.take 240).drop (11 + lenL P) = List.replicate (229 - lenL P) 0) with
      | false =>
        have hno : Hid (okB P = false) := hok.out.trans hb
        replace C := Lib.hid (C.out false hb)
        clear hb hok
        go_wp2_with fail
        refine C.out.mono ?_
        rintro e w1 ⟨rfl, hb1⟩
        have h2 := h.out.after hb1
        clear C h c hb1
        go_wp2
        go_ret
        exact TakeEnd.no h2 hno.out
      | true =>
        have hyes : Hid (okB P = true) := hok.out.trans hb
        replace C := Lib.hid (C.out true hb)
        clear hb hok
        go_wp2_with fail
        refine C.out.mono ?_
        rintro e w1 ⟨rfl, hb1⟩
        have h2 := h.out.after hb1
        clear C h c hb1
        go_wp2
        go_roundw
        case rel => exact Ph.p6 _ hyes h2
        case measure => simp [Lib.intOf]
    | p6 _ hok h =>
      go_wp2
      go_ret
      exact ⟨by rw [hok.out]; rfl, _, _, _, _, h.out, fun _ => ⟨rfl, rfl, rfl⟩⟩

end Go.Proofs.YtapebaoajknepaaGreatDoor
/-
  Contract: Get.
-/
namespace Go.Proofs.YtapebaoajknepaaGreatDoor
open Go.RowKit
set_option linter.unusedVariables false

/-- What takeNumber makes: a part, with its size and its test. -/
def MadePart (k : Int) (v : Value) (w : World) (e : Ending) (w' : World) : Prop :=
  e = .returned (.func (.func 77) #[] #[.pointer (some ⟨w.heap.size, 0, none⟩), .pointer (some ⟨w.heap.size + 1, 0, none⟩)]) ∧ w'.heap.size = w.heap.size + 2 ∧
    RowAt w' w.heap.size 3 #[.int .i64 k] ∧ RowAt w' (w.heap.size + 1) 99 #[v] ∧ Below w.heap.size w w'

set_option maxHeartbeats 400000 in
set_option maxRecDepth 8000 in
theorem takeNumber_make (k : Int) (F : Nat) (cs : Array Value) (w : World) :
    Calls Tryz.prog 45 #[.int .i64 k, .func (.func F) #[] cs] w (MadePart k (.func (.func F) #[] cs) w) := by
  have r1 := Lib.hid (RowAt.new w 3 #[.int .i64 k])
  have r2 := Lib.hid (RowAt.new (w.alloc (.cells #[.int .i64 k] 3)) 99 #[.func (.func F) #[] cs])
  go_enter Tryz.func45, Tryz.ntmps45
  go_wp2
  go_ret
  refine ⟨rfl, by simp, r1.out.alloc _, ?_, ((Below.refl _ _).alloc (Nat.le_refl _) _).alloc (by simp) _⟩
  have := r2.out
  simpa using this

/-- Get's answers. -/
def gotV (P : List UInt8) : Value := if okB P = true then .agg #[.int .u8 (kindL P : Int), .int .u64 (seqL P : Int), .string (bs (textL P))] else .agg #[.int .u8 0, .int .u64 0, .string ByteArray.empty]
def gotE (P : List UInt8) : Int := if okB P = true then 0 else 120

theorem size_frame (cs : Array Value) (h : cs.size = 3) : (Tryz.prog.info? 41).map (·.size) = some cs.size := by rw [h]; kernel_rfl

set_option maxHeartbeats 1000000 in
set_option maxRecDepth 8000 in
theorem get_list (P : List UInt8) (hs : P.length ≤ 100000) (w : World) (hk : Hid (KRow w)) :
    Calls Tryz.prog 23 #[.string (bs P)] w fun e w' => e = .returned (.tuple #[gotV P, .int .i64 (gotE P)]) ∧ Below w.heap.size w w' := by
  obtain ⟨w3, hw3⟩ : ∃ w3, ((w.alloc (.cells #[.int .u8 0, .int .u64 0, .string ByteArray.empty] 41)).alloc (.cells #[.int .u8 0, .int .u64 0, .string ByteArray.empty] 41)).alloc (.cells #[.int .i64 0] 3) = w3 := ⟨_, rfl⟩
  have z3 : w3.heap.size = w.heap.size + 3 := by rw [← hw3]; simp
  have b3 : Below w.heap.size w w3 := by rw [← hw3]; exact (((Below.refl _ _).alloc (Nat.le_refl _) _).alloc (by simp) _).alloc (by simp; omega) _
  have r : RowAt w3 w.heap.size 41 #[.int .u8 0, .int .u64 0, .string ByteArray.empty] := by rw [← hw3]; exact ((RowAt.new _ _ _).alloc _).alloc _
  have f : RowAt w3 (w.heap.size + 1) 41 #[.int .u8 0, .int .u64 0, .string ByteArray.empty] := by
    have := (RowAt.new (w.alloc (.cells #[.int .u8 0, .int .u64 0, .string ByteArray.empty] 41)) 41 #[.int .u8 0, .int .u64 0, .string ByteArray.empty]).alloc (.cells #[.int .i64 0] 3)
    rw [hw3] at this
    simpa using this
  have l : RowAt w3 (w.heap.size + 2) 3 #[.int .i64 0] := by
    have := RowAt.new ((w.alloc (.cells #[.int .u8 0, .int .u64 0, .string ByteArray.empty] 41)).alloc (.cells #[.int .u8 0, .int .u64 0, .string ByteArray.empty] 41)) 3 #[.int .i64 0]
    rw [hw3] at this
    simpa using this
  have hq : Hid (0 < w.heap.size) := hk.out.1
  have HW := Lib.hid hw3
  clear hw3
  replace r := Lib.hid r
  replace f := Lib.hid f
  replace l := Lib.hid l
  replace z3 := Lib.hid z3
  go_enter Tryz.func23, Tryz.ntmps23
  go_wp2_with fail
  rw [show w.heap.size + 1 + 1 = w.heap.size + 2 from rfl, show ((w.alloc (.cells #[.int .u8 0, .int .u64 0, .string ⟨#[]⟩] 41)).alloc (.cells #[.int .u8 0, .int .u64 0, .string ⟨#[]⟩] 41)).alloc (.cells #[.int .i64 0] 3) = w3 from HW.out]
  refine (takeNumber_make 1 _ _ w3).mono ?_
  rintro e w4 ⟨rfl, z4, s1, k1, hb⟩
  rw [z3.out] at z4 s1 k1 ⊢
  replace z4 : Hid (w4.heap.size = w.heap.size + 5) := z4
  replace s1 : Hid (RowAt w4 (w.heap.size + 3) 3 #[.int .i64 1]) := s1
  replace k1 := Lib.hid k1
  replace r := Lib.hid (r.out.below hb r.out.lt)
  replace f := Lib.hid (f.out.below hb f.out.lt)
  replace l := Lib.hid (l.out.below hb l.out.lt)
  replace b3 : Below w.heap.size w w4 := b3.trans (hb.mono b3.size)
  clear hb z3 HW
  go_wp2_with fail
  refine (takeNumber_make 8 _ _ w4).mono ?_
  rintro e w5 ⟨rfl, z5, s2, k2, hb⟩
  rw [z4.out] at z5 s2 k2 ⊢
  replace z5 : Hid (w5.heap.size = w.heap.size + 7) := z5
  replace s2 := Lib.hid s2
  replace k2 := Lib.hid k2
  replace r := Lib.hid (r.out.below hb r.out.lt)
  replace f := Lib.hid (f.out.below hb f.out.lt)
  replace l := Lib.hid (l.out.below hb l.out.lt)
  replace s1 := Lib.hid (s1.out.below hb s1.out.lt)
  replace k1 := Lib.hid (k1.out.below hb k1.out.lt)
  replace b3 : Below w.heap.size w w5 := b3.trans (hb.mono b3.size)
  clear hb z4
  go_wp2_with fail
  refine (takeNumber_make 2 _ _ w5).mono ?_
  rintro e w6 ⟨rfl, z6, s3, k3, hb⟩
  rw [z5.out] at z6 s3 k3 ⊢
  replace z6 : Hid (w6.heap.size = w.heap.size + 9) := z6
  replace s3 := Lib.hid s3
  replace k3 := Lib.hid k3
  replace r := Lib.hid (r.out.below hb r.out.lt)
  replace f := Lib.hid (f.out.below hb f.out.lt)
  replace l := Lib.hid (l.out.below hb l.out.lt)
  replace s1 := Lib.hid (s1.out.below hb s1.out.lt)
  replace k1 := Lib.hid (k1.out.below hb k1.out.lt)
  replace s2 := Lib.hid (s2.out.below hb s2.out.lt)
  replace k2 := Lib.hid (k2.out.below hb k2.out.lt)
  replace b3 : Below w.heap.size w w6 := b3.trans (hb.mono b3.size)
  clear hb z5
  have ps : Hid (RowAt (w6.alloc (.cells #[.func (.func 44) #[] #[], .func (.func 77) #[] #[.pointer (some ⟨w.heap.size + 3, 0, none⟩), .pointer (some ⟨w.heap.size + 4, 0, none⟩)], .func (.func 77) #[] #[.pointer (some ⟨w.heap.size + 5, 0, none⟩), .pointer (some ⟨w.heap.size + 6, 0, none⟩)], .func (.func 77) #[] #[.pointer (some ⟨w.heap.size + 7, 0, none⟩), .pointer (some ⟨w.heap.size + 8, 0, none⟩)], .func (.func 49) #[] #[.pointer (some ⟨w.heap.size + 2, 0, none⟩), .pointer (some ⟨w.heap.size + 1, 0, none⟩)], .func (.func 50) #[] #[]] 97)) (w.heap.size + 9) 97 #[.func (.func 44) #[] #[], .func (.func 77) #[] #[.pointer (some ⟨w.heap.size + 3, 0, none⟩), .pointer (some ⟨w.heap.size + 4, 0, none⟩)], .func (.func 77) #[] #[.pointer (some ⟨w.heap.size + 5, 0, none⟩), .pointer (some ⟨w.heap.size + 6, 0, none⟩)], .func (.func 77) #[] #[.pointer (some ⟨w.heap.size + 7, 0, none⟩), .pointer (some ⟨w.heap.size + 8, 0, none⟩)], .func (.func 49) #[] #[.pointer (some ⟨w.heap.size + 2, 0, none⟩), .pointer (some ⟨w.heap.size + 1, 0, none⟩)], .func (.func 50) #[] #[]]) := by
    have := RowAt.new w6 97 #[.func (.func 44) #[] #[], .func (.func 77) #[] #[.pointer (some ⟨w.heap.size + 3, 0, none⟩), .pointer (some ⟨w.heap.size + 4, 0, none⟩)], .func (.func 77) #[] #[.pointer (some ⟨w.heap.size + 5, 0, none⟩), .pointer (some ⟨w.heap.size + 6, 0, none⟩)], .func (.func 77) #[] #[.pointer (some ⟨w.heap.size + 7, 0, none⟩), .pointer (some ⟨w.heap.size + 8, 0, none⟩)], .func (.func 49) #[] #[.pointer (some ⟨w.heap.size + 2, 0, none⟩), .pointer (some ⟨w.heap.size + 1, 0, none⟩)], .func (.func 50) #[] #[]]
    rw [z6.out] at this
    exact this
  have G : Hid (GW w w.heap.size 0 0 ByteArray.empty 0 (w6.alloc (.cells #[.func (.func 44) #[] #[], .func (.func 77) #[] #[.pointer (some ⟨w.heap.size + 3, 0, none⟩), .pointer (some ⟨w.heap.size + 4, 0, none⟩)], .func (.func 77) #[] #[.pointer (some ⟨w.heap.size + 5, 0, none⟩), .pointer (some ⟨w.heap.size + 6, 0, none⟩)], .func (.func 77) #[] #[.pointer (some ⟨w.heap.size + 7, 0, none⟩), .pointer (some ⟨w.heap.size + 8, 0, none⟩)], .func (.func 49) #[] #[.pointer (some ⟨w.heap.size + 2, 0, none⟩), .pointer (some ⟨w.heap.size + 1, 0, none⟩)], .func (.func 50) #[] #[]] 97))) := ⟨b3.alloc (by rw [z6.out]; omega) _, r.out.alloc _, f.out.alloc _, l.out.alloc _, s1.out.alloc _, k1.out.alloc _, s2.out.alloc _, k2.out.alloc _, s3.out.alloc _, k3.out.alloc _, ps.out⟩
  clear ps r f l s1 k1 s2 k2 s3 k3 b3
  have C := Lib.hid (takeAll_any w w.heap.size P hs _ hk hq G)
  clear G
  go_wp2_with fail
  rw [z6.out]
  refine C.out.mono ?_
  rintro e w8 ⟨rfl, K, N, T, M, h, hyes⟩
  have HY := Lib.hid hyes
  have HH := Lib.hid h
  have b8 : Below w.heap.size w w8 := h.rest
  have r := Lib.hid h.r
  have f := Lib.hid h.f
  clear C hyes h z6 HH
  cases hb : okB P with
  | false =>
    have e1 : Hid (gotV P = .agg #[.int .u8 0, .int .u64 0, .string ByteArray.empty] ∧ gotE P = 120) := by unfold Hid gotV gotE; rw [hb]; exact ⟨rfl, rfl⟩
    clear hb
    go_wp2_with (refine wpList_store_row rfl 41 _ _ rfl w.heap.size #[.int .u8 0, .int .u64 0, .string ⟨#[]⟩] rfl rfl 41 _ r.out (size_frame _ rfl) rfl (by simp [Value.oneCell']) ?_)
    refine bodyPost_ret (v := .tuple #[.agg #[.int .u8 0, .int .u64 0, .string ByteArray.empty], .int .i64 120]) ?_ rfl ⟨by rw [e1.out.1, e1.out.2], below_setRow' b8 (Nat.le_refl _) _⟩
    exact results_row_one Tryz.results23 _ _ w.heap.size 41 #[.int .u8 0, .int .u64 0, .string ByteArray.empty] (0, 0) _ rfl (r.out.setRow _) Tryz.underlying41 rfl (size_frame _ rfl)
  | true =>
    have e1 : Hid (gotV P = .agg #[.int .u8 (kindL P : Int), .int .u64 (seqL P : Int), .string (bs (textL P))] ∧ gotE P = 0) := by unfold Hid gotV gotE; rw [hb]; exact ⟨rfl, rfl⟩
    obtain ⟨rfl, rfl, rfl⟩ := HY.out hb
    clear hb
    go_wp2_with (first | (refine wpList_load_row rfl 41 _ rfl (w.heap.size + 1) rfl 41 _ (0, 0) _ f.out Tryz.underlying41 rfl (size_frame _ rfl) ?_) | (refine wpList_store_row rfl 41 _ _ rfl w.heap.size #[.int .u8 (kindL P : Int), .int .u64 (seqL P : Int), .string (bs (textL P))] rfl rfl 41 _ r.out (size_frame _ rfl) rfl (by simp [Value.oneCell']) ?_))
    refine bodyPost_ret (v := .tuple #[.agg #[.int .u8 (kindL P : Int), .int .u64 (seqL P : Int), .string (bs (textL P))], .int .i64 0]) ?_ rfl ⟨by rw [e1.out.1, e1.out.2], below_setRow' b8 (Nat.le_refl _) _⟩
    exact results_row_one Tryz.results23 _ _ w.heap.size 41 #[.int .u8 (kindL P : Int), .int .u64 (seqL P : Int), .string (bs (textL P))] (0, 0) _ rfl (r.out.setRow _) Tryz.underlying41 rfl (size_frame _ rfl)

theorem get_any (s : ByteArray) (hs : s.size ≤ 100000) (w : World) (hk : Hid (KRow w)) :
    Calls Tryz.prog 23 #[.string s] w fun e w' => e = .returned (.tuple #[gotV s.data.toList, .int .i64 (gotE s.data.toList)]) ∧ Below w.heap.size w w' := by
  have := get_list s.data.toList (by rw [ba_size]; exact hs) w hk
  rwa [bs_data] at this

end Go.Proofs.YtapebaoajknepaaGreatDoor
/-
  Contract: Put.
-/
namespace Go.Proofs.YtapebaoajknepaaGreatDoor
open Go.RowKit
set_option linter.unusedVariables false

/-- A number in k bytes. -/
theorem number_nat (n k : Nat) (h1 : 1 ≤ k) (h2 : k ≤ 8) (hn : n < 256 ^ k) (w : World) :
    Calls Tryz.prog 31 #[.int .u64 (n : Int), .int .i64 (k : Int)] w fun e w' => e = .returned (.tuple #[.string (bs (numB k n)), .int .i64 0]) ∧ Below w.heap.size w w' := by
  have hN : n < 18446744073709551616 := Nat.lt_of_lt_of_le hn (Nat.le_trans (Nat.pow_le_pow_right (by decide) h2) (by decide))
  have h := number_yes (n : Int) (k : Int) (by omega) (by unfold Hid; omega) (by omega) (by omega) (by rw [refFits, Nat.div_eq_of_lt hn]; rfl) w
  simpa using h

theorem ba_sizeL (s : ByteArray) : s.data.toList.length = s.size := by simp

theorem bs_add (a b : List UInt8) : bs a ++ bs b = bs (a ++ b) := by
  apply ByteArray.ext
  show (bs a ++ bs b).data = (a ++ b).toArray
  rw [ByteArray.data_append]
  simp [bs]

/-- What Put lays one behind the other. -/
theorem ahead_bs (k n : Nat) (t : ByteArray) : bs (numB 1 k) ++ bs (numB 8 n) ++ bs (numB 2 t.size) ++ t ++ bs (List.replicate (229 - t.size) 0) = bs (aheadL k n t.data.toList) := by
  have hl : t.data.toList.length = t.size := by simp
  unfold aheadL
  rw [hl]
  have : t = bs t.data.toList := (bs_data t).symm
  rw [bs_add, bs_add]
  generalize t.size = z
  obtain ⟨L, hL⟩ : ∃ L, t.data.toList = L := ⟨_, rfl⟩
  rw [hL] at this ⊢
  rw [this, bs_add, bs_add]
  simp only [List.append_assoc]

set_option maxHeartbeats 400000 in
set_option maxRecDepth 8000 in
theorem put_yes (k n : Nat) (h0 : k ≠ 0) (hk : k < 256) (hn : Hid (n < 18446744073709551616)) (t : ByteArray) (ht : t.size ≤ 229) (w : World) (hkr : Hid (KRow w)) :
    Calls Tryz.prog 18 #[.agg #[.int .u8 (k : Int), .int .u64 (n : Int), .string t]] w fun e w' => e = .returned (.tuple #[.string (bs (pageL k n t.data.toList)), .int .i64 0]) ∧ Below w.heap.size w w' := by
  have N1 : Hid (∀ w, Calls Tryz.prog 31 #[.int .u64 (k : Int), .int .i64 1] w fun e w' => e = .returned (.tuple #[.string (bs (numB 1 k)), .int .i64 0]) ∧ Below w.heap.size w w') := fun w => number_nat k 1 (by decide) (by decide) hk w
  have N8 : Hid (∀ w, Calls Tryz.prog 31 #[.int .u64 (n : Int), .int .i64 8] w fun e w' => e = .returned (.tuple #[.string (bs (numB 8 n)), .int .i64 0]) ∧ Below w.heap.size w w') := fun w => number_nat n 8 (by decide) (by decide) hn.out w
  have N2 : Hid (∀ w, Calls Tryz.prog 31 #[.int .u64 (t.size : Int), .int .i64 2] w fun e w' => e = .returned (.tuple #[.string (bs (numB 2 t.size)), .int .i64 0]) ∧ Below w.heap.size w w') := fun w => number_nat t.size 2 (by decide) (by decide) (by have := ht; show t.size < 65536; omega) w
  have R : Hid (∀ w, Calls Tryz.prog 32 #[.string ⟨#[0]⟩, .int .i64 ((229 - t.size : Nat) : Int)] w fun e w' => e = .returned (.string (bs (List.replicate (229 - t.size) 0))) ∧ Below w.heap.size w w') := fun w => by
    have h := repeat_any ⟨#[0]⟩ (229 - t.size) w (by omega) (by show 1 * _ ≤ _; omega)
    rw [show (⟨#[0]⟩ : ByteArray).data.toList = [0] from rfl, repeatL_byte] at h
    exact h
  have r1 := Lib.hid (RowAt.new w 41 #[.int .u8 (k : Int), .int .u64 (n : Int), .string t])
  have b1 : Below w.heap.size w (w.alloc (.cells #[.int .u8 (k : Int), .int .u64 (n : Int), .string t] 41)) := (Below.refl _ _).alloc (Nat.le_refl _) _
  have d0 : ((k : Int) == 0) = false := by simpa using h0
  have d1 : decide ((229 : Int) < (t.size : Int)) = false := by simp; omega
  have E := Lib.hid (ahead_bs k n t)
  have za : (bs (aheadL k n t.data.toList)).size = 240 := by rw [bs_size, aheadL_length (by rw [ba_sizeL]; exact ht)]
  have EP : Hid (bs (aheadL k n t.data.toList) ++ bs (sumL (bs (aheadL k n t.data.toList)).data.toList) = bs (pageL k n t.data.toList)) := by
    unfold Hid
    rw [bs_add]
    rfl
  go_enter Tryz.func18, Tryz.ntmps18
  go_wp2_with fail
  have b2 : Below w.heap.size w (w.alloc (.cells #[.int .u8 (k : Int), .int .u64 (n : Int), .string t] 41)) := b1
  generalize hp : w.heap.size = p at r1 b1 ⊢
  generalize w.alloc (.cells #[.int .u8 (k : Int), .int .u64 (n : Int), .string t] 41) = w0 at *
  have HP := Lib.hid hp
  clear hp b2
  refine (N1.out _).mono ?_
  rintro e w1 ⟨rfl, hb⟩
  replace r1 : Hid (RowAt w1 p 41 #[.int .u8 (k : Int), .int .u64 (n : Int), .string t]) := r1.out.below hb r1.out.lt
  replace b1 : Below p w w1 := b1.trans (hb.mono (by rw [← HP.out]; exact b1.size))
  clear hb
  have c1 := r1.out.one 1 rfl
  go_wp2_with fail
  refine (N8.out _).mono ?_
  rintro e w2 ⟨rfl, hb⟩
  replace r1 : Hid (RowAt w2 p 41 #[.int .u8 (k : Int), .int .u64 (n : Int), .string t]) := r1.out.below hb r1.out.lt
  replace b1 : Below p w w2 := b1.trans (hb.mono (by rw [← HP.out]; exact b1.size))
  clear hb c1
  have c2 := r1.out.one 2 rfl
  go_wp2_with fail
  refine (N2.out _).mono ?_
  rintro e w3 ⟨rfl, hb⟩
  replace r1 : Hid (RowAt w3 p 41 #[.int .u8 (k : Int), .int .u64 (n : Int), .string t]) := r1.out.below hb r1.out.lt
  replace b1 : Below p w w3 := b1.trans (hb.mono (by rw [← HP.out]; exact b1.size))
  clear hb c2 N1 N8 N2
  have hs3 : p ≤ w3.heap.size := by rw [← HP.out]; exact b1.size
  have k3 : Hid (KRow w3) := hkr.out.below b1 (by rw [← HP.out]; exact hkr.out.1) b1.size
  have HC : Hid (RowC w3 p 41 #[.int .u8 (k : Int), .int .u64 (n : Int), .string t] w3.drew) := ⟨(Below.refl _ _).drew, r1.out⟩
  have x1 : (bs (numB 1 k)).size = 1 := by rw [bs_size, numB_length]
  have x8 : (bs (numB 8 n)).size = 8 := by rw [bs_size, numB_length]
  have x2 : (bs (numB 2 t.size)).size = 2 := by rw [bs_size, numB_length]
  have xz : (bs (List.replicate (229 - t.size) 0)).size = 229 - t.size := by rw [bs_size, List.length_replicate]
  have WZ : Hid (IntKind.i64.wrap (229 - (t.size : Int)) = ((229 - t.size : Nat) : Int)) := by unfold Hid; rw [IntWalk.i64_in _ (by omega)]; omega
  generalize bs (numB 1 k) = X1 at *
  generalize bs (numB 8 n) = X8 at *
  generalize bs (numB 2 t.size) = X2 at *
  generalize bs (List.replicate (229 - t.size) 0) = Z at *
  have K : Hid (∀ w', RowC w3 p 41 #[.int .u8 (k : Int), .int .u64 (n : Int), .string t] w' → Calls Tryz.prog 32 #[.string ⟨#[0]⟩, .int .i64 ((229 - t.size : Nat) : Int)] w' fun e w'' => e = .returned (.string Z) ∧ RowC w3 p 41 #[.int .u8 (k : Int), .int .u64 (n : Int), .string t] w'') := fun w' h => (R.out w').mono fun e w'' ⟨h1, h2⟩ => ⟨h1, RowC.after h2 h⟩
  clear R r1
  go_wp2_with fail
  refine wp_region_class (RowC w3 p 41 #[.int .u8 (k : Int), .int .u64 (n : Int), .string t]) (by kernel_rfl) (by kernel_rfl) HC.out ?_
  go_big_quiet_want; go_big_quiet_op; go_big_quiet_on
  go_big_quiet_want; go_big_quiet_op; go_big_quiet_on
  refine wpQuiet_val (by rfl) (.string (X1 ++ X8)) (fun w' _ => by (go_simp; try first | omega | exact WZ.out)) ?_
  simp only [Act.put, List.setIfInBounds_toArray, List.set_cons_succ, List.set_cons_zero]
  go_big_quiet_want; go_big_quiet_op; go_big_quiet_on
  refine wpQuiet_val (by rfl) (.string (X1 ++ X8 ++ X2)) (fun w' _ => by (go_simp; try first | omega | exact WZ.out)) ?_
  simp only [Act.put, List.setIfInBounds_toArray, List.set_cons_succ, List.set_cons_zero]
  refine wpQuiet_val (by rfl) (.pointer (some ⟨p, 2, none⟩)) (fun w' _ => by (go_simp; try first | omega | exact WZ.out)) ?_
  simp only [Act.put, List.setIfInBounds_toArray, List.set_cons_succ, List.set_cons_zero]
  refine wpQuiet_val (by rfl) (.string t) (fun w' hC => get_cell hC.2 rfl rfl Tryz.underlying9 rfl rfl) ?_
  simp only [Act.put, List.setIfInBounds_toArray, List.set_cons_succ, List.set_cons_zero]
  refine wpQuiet_val (by rfl) (.string (X1 ++ X8 ++ X2 ++ t)) (fun w' _ => by (go_simp; try first | omega | exact WZ.out)) ?_
  simp only [Act.put, List.setIfInBounds_toArray, List.set_cons_succ, List.set_cons_zero]
  refine wpQuiet_val (by rfl) (.pointer (some ⟨p, 2, none⟩)) (fun w' _ => by (go_simp; try first | omega | exact WZ.out)) ?_
  simp only [Act.put, List.setIfInBounds_toArray, List.set_cons_succ, List.set_cons_zero]
  refine wpQuiet_val (by rfl) (.string t) (fun w' hC => get_cell hC.2 rfl rfl Tryz.underlying9 rfl rfl) ?_
  simp only [Act.put, List.setIfInBounds_toArray, List.set_cons_succ, List.set_cons_zero]
  refine wpQuiet_val (by rfl) (.int .i64 (t.size : Int)) (fun w' _ => by (go_simp; try first | omega | exact WZ.out)) ?_
  simp only [Act.put, List.setIfInBounds_toArray, List.set_cons_succ, List.set_cons_zero]
  refine wpQuiet_val (by rfl) (.int .i64 ((229 - t.size : Nat) : Int)) (fun w' _ => by (go_simp; try first | omega | exact WZ.out)) ?_
  simp only [Act.put, List.setIfInBounds_toArray, List.set_cons_succ, List.set_cons_zero]
  (go_big_quiet_want; go_big_quiet_op; apply Exists.intro; refine ⟨K.out, ?_⟩; go_big_quiet_on)
  refine wpQuiet_val (by rfl) (.string (X1 ++ X8 ++ X2 ++ t ++ Z)) (fun w' _ => by (go_simp; try first | omega | exact WZ.out)) ?_
  simp only [Act.put, List.setIfInBounds_toArray, List.set_cons_succ, List.set_cons_zero]
  go_big_quiet_want; go_big_quiet_op; go_big_quiet_on
  refine wpQuiet_nil ?_
  intro w4 hC
  have b4 : Below p w w4 := b1.trans (hC.1.mono hs3)
  have k4 : Hid (KRow w4) := k3.out.below hC.1 k3.out.1 hC.1.size
  clear hC HC K k3 b1
  rw [E.out]
  have S := Lib.hid (sumOf_any (bs (aheadL k n t.data.toList)) (by omega) w4 k4)
  have zb : (bs (sumL (bs (aheadL k n t.data.toList)).data.toList)).size = 16 := by rw [bs_size, sumL_length]
  generalize bs (aheadL k n t.data.toList) = A at *
  generalize bs (sumL A.data.toList) = B at *
  go_wp2_with fail
  refine S.out.mono ?_
  rintro e w5 ⟨rfl, hb⟩
  replace b4 : Below p w w5 := b4.trans (hb.mono (by have := b4.size; have := HP.out; omega))
  clear hb S k4
  go_wp2
  go_ret2
  exact ⟨by rw [EP.out]; rfl, by rw [HP.out]; exact b4⟩

/-- Put's answers. -/
def putS (k n : Nat) (t : ByteArray) : ByteArray := if k = 0 then bs [] else if 229 < t.size then bs [] else bs (pageL k n t.data.toList)
def putE (k : Nat) (t : ByteArray) : Nat := if k = 0 then 1 else if 229 < t.size then 11 else 0

set_option maxHeartbeats 400000 in
set_option maxRecDepth 8000 in
theorem put_any (k n : Nat) (hk : k < 256) (hn : Hid (n < 18446744073709551616)) (t : ByteArray) (ht : t.size ≤ 1000000) (w : World) (hkr : Hid (KRow w)) :
    Calls Tryz.prog 18 #[.agg #[.int .u8 (k : Int), .int .u64 (n : Int), .string t]] w fun e w' => e = .returned (.tuple #[.string (putS k n t), .int .i64 (putE k t : Int)]) ∧ Below w.heap.size w w' := by
  unfold putS putE
  by_cases h0 : k = 0
  · rw [if_pos h0, if_pos h0]
    have d0 : ((k : Int) == 0) = true := by simpa using h0
    have b1 : Below w.heap.size w (w.alloc (.cells #[.int .u8 (k : Int), .int .u64 (n : Int), .string t] 41)) := (Below.refl _ _).alloc (Nat.le_refl _) _
    clear h0
    go_enter Tryz.func18, Tryz.ntmps18
    go_wp2
    go_ret2
    exact ⟨rfl, b1⟩
  · rw [if_neg h0, if_neg h0]
    by_cases h1 : 229 < t.size
    · rw [if_pos h1, if_pos h1]
      have d0 : ((k : Int) == 0) = false := by simpa using h0
      have d1 : decide ((229 : Int) < (t.size : Int)) = true := by simp; omega
      have b1 : Below w.heap.size w (w.alloc (.cells #[.int .u8 (k : Int), .int .u64 (n : Int), .string t] 41)) := (Below.refl _ _).alloc (Nat.le_refl _) _
      clear h0
      go_enter Tryz.func18, Tryz.ntmps18
      go_wp2
      go_ret2
      exact ⟨rfl, b1⟩
    · rw [if_neg h1, if_neg h1]
      exact put_yes k n h0 hk hn t (by omega) w hkr

end Go.Proofs.YtapebaoajknepaaGreatDoor
/-
  Contract: shown.
-/
namespace Go.Proofs.YtapebaoajknepaaGreatDoor
open Go.RowKit
set_option linter.unusedVariables false

/-- What was put is got. -/
theorem got_page (k n : Nat) (T : List UInt8) (h0 : k ≠ 0) (hk : k < 256) (hn : n < 18446744073709551616) (h : T.length ≤ 229) :
    gotV (pageL k n T) = .agg #[.int .u8 (k : Int), .int .u64 (n : Int), .string (bs T)] ∧ gotE (pageL k n T) = 0 := by
  unfold gotV gotE
  rw [okB_page k n T h0 hk hn h, if_pos rfl, if_pos rfl, kindL_page k n T hk, seqL_page k n T hn, textL_page k n T h]
  exact ⟨rfl, rfl⟩

end Go.Proofs.YtapebaoajknepaaGreatDoor
/-
  A range over a function whose iterator keeps memory of its own, for any element types: which blocks the iterator turns, which the loop's body (cells of the types L, from block b on); the law of the statement.
-/
namespace Go.Proofs.YtapebaoajknepaaGreatDoor
open Go.RowKit
set_option linter.unusedVariables false

/-- Cells of the types that a loop's body turns. -/
def looseB (L : TypeId → Bool) : Obj → Bool
  | .cells _ t _ => L t
  | _ => false
/-- Other cells. -/
def firmB (L : TypeId → Bool) : Obj → Bool
  | .cells _ t _ => !L t
  | _ => false

section
variable {L : TypeId → Bool} {b : Nat}

/-- What a round does. -/
structure OuterB (L : TypeId → Bool) (b : Nat) (W W' : World) : Prop where
  os : W'.os = W.os
  tape : W'.tape = W.tape
  output : W'.output = W.output
  size : W.heap.size ≤ W'.heap.size
  block : ∀ (k : Nat) (o : Obj), W.heap[k]? = some o → (k < b ∨ looseB L o = false) → W'.heap[k]? = some o

/-- What the iterator does between two rounds, its own blocks lying from m on. -/
structure InnerB (L : TypeId → Bool) (m : Nat) (W W' : World) : Prop where
  os : W'.os = W.os
  tape : W'.tape = W.tape
  output : W'.output = W.output
  size : W.heap.size ≤ W'.heap.size
  block : ∀ (k : Nat) (o : Obj), W.heap[k]? = some o → (k < m ∨ firmB L o = false) → W'.heap[k]? = some o

theorem OuterB.refl (W : World) : OuterB L b W W := ⟨rfl, rfl, rfl, Nat.le_refl _, fun _ _ h _ => h⟩
theorem InnerB.refl (m : Nat) (W : World) : InnerB L m W W := ⟨rfl, rfl, rfl, Nat.le_refl _, fun _ _ h _ => h⟩
theorem InnerB.trans {m : Nat} {A B C : World} (h : InnerB L m A B) (k : InnerB L m B C) : InnerB L m A C :=
  ⟨k.os.trans h.os, k.tape.trans h.tape, k.output.trans h.output, Nat.le_trans h.size k.size, fun i o hi ho => k.block i o (h.block i o hi ho) ho⟩
theorem InnerB.mono {m m' : Nat} {A B : World} (h : InnerB L m A B) (hm : m' ≤ m) : InnerB L m' A B :=
  ⟨h.os, h.tape, h.output, h.size, fun i o hi ho => h.block i o hi (ho.imp (fun x => Nat.lt_of_lt_of_le x hm) id)⟩
theorem InnerB.below {m : Nat} {A B : World} (h : InnerB L m A B) (hm : m ≤ A.heap.size) : Below m A B :=
  ⟨h.os, h.tape, h.output, h.size, fun k hk => by
    have hk' : k < A.heap.size := by omega
    rw [Array.getElem?_eq_getElem hk']
    exact h.block k _ (Array.getElem?_eq_getElem hk') (.inl hk)⟩
theorem block_kept {A B : World} {k : Nat} {o : Obj} (h : Below A.heap.size A B) (hk : A.heap[k]? = some o) : B.heap[k]? = some o :=
  (h.block k (Array.getElem?_eq_some_iff.1 hk).1).trans hk
theorem InnerB.of_below {m : Nat} {A B : World} (h : Below A.heap.size A B) : InnerB L m A B := ⟨h.os, h.tape, h.output, h.size, fun _ _ hi _ => block_kept h hi⟩
theorem OuterB.of_below {A B : World} (h : Below A.heap.size A B) : OuterB L b A B := ⟨h.os, h.tape, h.output, h.size, fun _ _ hi _ => block_kept h hi⟩
/-- A firm block of the iterator's own turned. -/
theorem InnerB.of_apart {m p : Nat} {A B : World} {o : Obj} (h : Apart p A B) (hp : m ≤ p) (ho : A.heap[p]? = some o) (hf : firmB L o = true) : InnerB L m A B := by
  have h1 := h #[]
  refine ⟨h1.os, h1.tape, h1.output, h.size, fun k x hx hk => ?_⟩
  by_cases e : k = p
  · subst e
    rw [ho] at hx
    cases hx
    rcases hk with hk | hk
    · omega
    · rw [hf] at hk; cases hk
  · have hlt := (Array.getElem?_eq_some_iff.1 hx).1
    have := h1.block k hlt
    rw [setRow_other _ _ _ _ e, setRow_other _ _ _ _ e] at this
    exact this.trans hx
theorem OuterB.row {A B : World} {p : Nat} {t : TypeId} {cs : Array Value} (h : OuterB L b A B) (hr : RowAt A p t cs) (ht : L t = false) : RowAt B p t cs := h.block _ _ hr (.inr ht)

/-- An iterator that hands out xs 0 .. xs (N - 1), whatever the body that keeps what is no row of bytes, and asks for more. -/
def SeqB (L : TypeId → Bool) (b : Nat) (P : Program) (g : Nat) (lb : Array Value) (N : Nat) (xs : Nat → Array Value) (w0 : World) : Prop :=
  ∀ (l : Nat) (J : Nat → World → Prop) (W : World), InnerB L w0.heap.size w0 W → w0.heap.size ≤ W.heap.size →
    (∀ k A B, J k A → InnerB L W.heap.size A B → J k B) →
    (∀ k W1, J k W1 → k < N → YieldAt Fence.wide 0 P l (xs k) W1 fun e W' => e = .returned (.bool true) ∧ J (k + 1) W' ∧ OuterB L b W1 W') →
    J 0 W → Calls P g (#[.func (.yield l) #[] #[]] ++ lb) W fun e W' => (∃ v, e = .returned v) ∧ J N W'

/-- What a round's body is asked for. -/
def roundPostB (L : TypeId → Bool) (b : Nat) (I : World → Prop) (W : World) (e : Exit) (_ : Act) (W' : World) : Prop := e = .normal ∧ I W' ∧ OuterB L b W W'

theorem wp_rangeFunc_b {P : Program} {g : Operand} {ps : Array Tmp} {assign body : Code} {Q : Exit → Act → World → Prop} {a : Act} {w : World}
    {gf : Nat} {lb : Array Value} (hg : a.eval g = .func (.func gf) #[] lb) (eg : ∀ args w, (callFunc gf args).run P w = .ok (.enter gf args) w)
    {N : Nat} {xs : Nat → Array Value} {w0 : World} (hseq : SeqB L b P gf lb N xs w0) (hb0 : Below w0.heap.size w0 w) (hps : ∀ k, (xs k).size = ps.size)
    (I : Nat → World → Prop) (hI : ∀ k A B, I k A → InnerB L w.heap.size A B → I k B) (hL : ∀ k A j o o', I k A → w.heap.size ≤ j → A.heap[j]? = some o → o.isCells = false → I k (A.putObj j o')) (h0 : I 0 w)
    (a₁ : Nat → Act)
    (hassign : ∀ (l : Nat) (k : Nat) (W : World) (K : Act → World → Prop), K (a₁ k) W →
      assign.wpIn (Fence.wide.inRound l) 0 P (Exit.then K (fun _ _ _ => False)) { tmps := (ps.zip (xs k)).foldl (fun t (p, v) => t.setIfInBounds p v) a.tmps, defers := [] } W)
    (hbody : ∀ (l : Nat) (k : Nat) (W : World), I k W → k < N → body.wpIn (Fence.wide.inRound l) 0 P (roundPostB L b (I (k + 1)) W) (a₁ k) W)
    (hdone : ∀ (D : Nat) (W : World), w.heap.size ≤ D → I N W → W.heap[D]? = some (.deferred (some [])) → Q .normal { a with defers := { target := .collected D, args := #[] } :: a.defers } W) :
    (Code.rangeFunc g ps assign body).wp P Q a w := by
  refine (wpIn_wide (n := 1)).1 (wpIn_rangeFunc ?_)
  intro fn hfn
  obtain ⟨rec, hrec⟩ : ∃ rec : LoopState → Option Code → Loop, rec = fun st pe => { state := st, pending := pe, fn, tmps := a.tmps, params := ps, assign, body, defers := w.heap.size } := ⟨_, rfl⟩
  obtain ⟨W1, hW1⟩ : ∃ W1, (w.alloc (.deferred (some []))).alloc (.loop (rec .ready none)) = W1 := ⟨_, rfl⟩
  have hL1 : W1.heap[w.heap.size + 1]? = some (.loop (rec .ready none)) := by
    rw [← hW1]; have := World.alloc_heap_new (w.alloc (.deferred (some []))) (.loop (rec .ready none)); rwa [World.size_alloc] at this
  have hK1 : W1.heap[w.heap.size]? = some (.deferred (some [])) := by
    rw [← hW1]; exact (Below.heap_alloc _ _ _ (by simp)).trans (World.alloc_heap_new w _)
  have hbW : Below w.heap.size w W1 := by rw [← hW1]; exact ((Below.refl _ w).alloc (Nat.le_refl _) _).alloc (by simp) _
  have hsz : W1.heap.size = w.heap.size + 1 + 1 := by rw [← hW1, World.size_alloc, World.size_alloc]
  have hI1 : I 0 W1 := hI _ _ _ h0 (InnerB.of_below hbW)
  have hb1 : Below w0.heap.size w0 W1 := hb0.trans (hbW.mono hb0.size)
  refine ⟨w.heap.size + 1, [{ target := .collected w.heap.size, args := #[] }], W1, { target := .fn (.func gf) lb, args := #[.func (.yield (w.heap.size + 1)) #[] #[]] }, W1, gf,
    #[.func (.yield (w.heap.size + 1)) #[] #[]] ++ lb, W1, ?_, ?_, ?_, ?_, fun _ => Nat.le_refl _, ?_⟩
  · rw [← hW1, hrec]; exact run_enterLoop_outer _ _ _ _ _
  · simp only [resolve, hg]
    simp [go_sem]
  · intro f' _; trivial
  · simp [invoke, go_sem, eg]
  · refine callsIn_wide.2 ((hseq (w.heap.size + 1)
      (fun k W => I k W ∧ W.heap[w.heap.size + 1]? = some (.loop (rec .ready none)) ∧ W.heap[w.heap.size]? = some (.deferred (some [])))
      W1 (InnerB.of_below hb1) hb1.size ?_ ?_ ⟨hI1, hL1, hK1⟩).mono ?_)
    · rintro k A B ⟨h1, h2, h3⟩ hAB
      exact ⟨hI k A B h1 (hAB.mono (by omega)), hAB.block _ _ h2 (.inr rfl), hAB.block _ _ h3 (.inr rfl)⟩
    · -- ONE ROUND
      rintro k W ⟨hi, hl, hk⟩ hlen
      have hlt : w.heap.size + 1 < W.heap.size := (Array.getElem?_eq_some_iff.1 hl).1
      have hy := run_yield (P := P) (args := xs k) hl (by rw [hrec]; exact hps k)
      rw [hrec] at hy
      refine ⟨fn, _, assign, body, hy, roundIn_of_wpIn hfn (hassign _ k W _ ?_)⟩
      clear hy
      refine ⟨_, run_beginRound hl (by rw [hrec]), ?_⟩
      have hl2 : (W.putObj (w.heap.size + 1) (.loop { rec .ready none with state := .busy })).heap[w.heap.size + 1]? = some (.loop { rec .ready none with state := .busy }) := World.putObj_heap_same hlt
      have hk2 : (W.putObj (w.heap.size + 1) (.loop { rec .ready none with state := .busy })).heap[w.heap.size]? = some (.deferred (some [])) := (World.putObj_heap_other (by omega)).trans hk
      refine wpIn_mono (hbody _ k _ (hL _ _ _ _ _ hi (by omega) hl rfl) hlen) ?_
      rintro e a3 W3 ⟨rfl, hi3, hout⟩
      have hl3 := hout.block _ _ hl2 (.inr rfl)
      have hk3 := hout.block _ _ hk2 (.inr rfl)
      have hend := run_endRound (P := P) none hl3
      refine ⟨_, _, hend, rfl, ⟨hL _ _ _ _ _ hi3 (by omega) hl3 rfl, ?_, (World.putObj_heap_other (by omega)).trans hk3⟩, ?_⟩
      · rw [hrec]
        exact World.putObj_heap_same (Array.getElem?_eq_some_iff.1 hl3).1
      · refine ⟨hout.os, hout.tape, hout.output, by rw [World.putObj_size]; have := hout.size; rwa [World.putObj_size] at this, fun j o hj ho => ?_⟩
        by_cases e : j = w.heap.size + 1
        · subst e
          rw [hl] at hj
          cases hj
          rw [hrec]
          exact World.putObj_heap_same (Array.getElem?_eq_some_iff.1 hl3).1
        · rw [World.putObj_heap_other e]
          exact hout.block j o ((World.putObj_heap_other e).trans hj) ho
    · rintro e W2 ⟨⟨v, rfl⟩, hi, hl, hk⟩
      exact ⟨none, _, by have := run_endLoop (P := P) hl (by rw [hrec]; simp); rw [hrec] at this; exact this, hdone _ _ (Nat.le_refl _) (hL _ _ _ _ _ hi (by omega) hl rfl) ((World.putObj_heap_other (by omega)).trans hk)⟩

/-! ### Regions of a round, by the plain walk -/

theorem operIn_of' {P : Program} (l : Nat) {o : Oper} {a : Act} {w : World} {next : Act → World → Prop} {Q : Exit → Act → World → Prop} (hd : ∀ c, o.op ≠ .defer c) (h : o.wp P a w next Q) :
    o.wpIn (Fence.wide.inRound l) 0 P a w next Q := by
  refine ⟨fun _ _ => trivial, ?_⟩
  have hs : (o.semAt (Fence.wide.inRound l).round a.eval) = execOp a.eval o := Oper.semAt_some l _ _ hd
  rw [hs]
  unfold Oper.wp at h
  generalize (execOp a.eval o).run P w = r at h
  match r, h with
  | .ok (.value v) w', h => exact h
  | .ok .skip w', h => exact h
  | .ok (.defer d) w', h => exact h
  | .ok (.enter f args) w', h => exact ⟨(fun e => by cases e), CallsIn.inRound l (callsIn_wide.2 h)⟩
  | .ok (.row row args) w', h =>
    refine ⟨(fun e => by cases e), fun c cs _ => ?_⟩
    obtain ⟨v, w'', hv, hs⟩ := h c cs
    exact ⟨v, w'', hv, stepsIn_wide.2 hs⟩
  | .halt (.panic v) w', h => exact h

/-- An operation that is no defer statement. -/
def plainOp' (o : Oper) : Bool := match o.op with | .defer _ => false | _ => true
theorem plainOp_ne' {o : Oper} (h : plainOp' o = true) : ∀ c, o.op ≠ .defer c := fun c e => by
  unfold plainOp' at h
  rw [e] at h
  cases h

theorem opsIn_of' {P : Program} (l : Nat) {ops : Array Oper} {Q : Exit → Act → World → Prop} (hd : ops.all plainOp' = true) (hQ : ¬ LetsOut Q) :
    ∀ (li : List Nat) (a : Act) (w : World), wpOps P ops Q li a w → wpOpsIn (Fence.wide.inRound l) 0 P ops Q li a w := by
  intro li
  induction li with
  | nil => exact fun a w h => h
  | cons i rest ih =>
    intro a w h
    simp only [wpOps] at h
    simp only [wpOpsIn]
    cases ho : ops[i]? with
    | none => rw [ho] at h; exact ih a w h
    | some o =>
      rw [ho] at h
      simp only at h ⊢
      have hp : plainOp' o = true := by
        obtain ⟨hi, e⟩ := Array.getElem?_eq_some_iff.1 ho
        rw [← e]
        exact (Array.all_eq_true.1 hd) i hi
      by_cases hw : Region.wanted o (yielded ops a.tmps) = true
      · rw [if_pos hw] at h ⊢
        rcases h with h | ⟨_, h⟩
        · exact operIn_of' l (plainOp_ne' hp) (Oper.wp_mono ih h)
        · exact absurd h hQ
      · rw [if_neg hw] at h ⊢
        exact ⟨fun _ _ => trivial, ih _ _ h⟩

/-- A plain region of a round. -/
theorem wpIn_round_list' {P : Program} (l : Nat) {id : Nat} {ops : List Oper} {Q : Exit → Act → World → Prop} {a : Act} {w : World} (hd : ops.toArray.all plainOp' = true) (hQ : ¬ LetsOut Q)
    (h : wpList P ops.toArray Q ops a w) : (Code.region id ops.toArray false).wpIn (Fence.wide.inRound l) 0 P Q a w := by
  refine wpIn_region (opsIn_of' l hd hQ _ _ _ ?_)
  rw [List.range_eq_range', ← Array.length_toList, wpOps_eq_wpList ops.toArray.toList 0 (by simp)]
  exact h

/-- A drawn region of a round whose last operations alone write. -/
theorem wpIn_round_tail' {P : Program} (l : Nat) {id : Nat} {Q : Exit → Act → World → Prop} {a : Act} {w : World} {ops : List Oper} (n : Nat) (hd : ops.toArray.all plainOp' = true) (hQ : ¬ LetsOut Q)
    (hm : P.follows .mixedOrders = true) (hB : Region.lexTailB .any ops.toArray n = true)
    (h : wpStill P ops.toArray { w with drawn := w.drawn + 1 } (fun a' => wpList P ops.toArray Q (ops.drop n) a' { w with drawn := w.drawn + 1 }) (ops.take n) a) : (Code.region id ops.toArray true).wpIn (Fence.wide.inRound l) 0 P Q a w := by
  refine wpIn_region_draw fun t => opsIn_of' l hd hQ _ _ _ ?_
  simp only [Region.schedule, hm, Bool.true_or, if_true]
  refine wpAny_sound ops.toArray.size t _ a _ ?_
  simp only [Region.lexTailB, Bool.and_eq_true, decide_eq_true_eq] at hB
  obtain ⟨⟨⟨⟨hsel, hn⟩, hs⟩, hc⟩, hlex⟩ := hB
  have hn' : n < ops.length := by simpa using hn
  have htl : (ops.take n).length = n := by simp; omega
  have hdl : (ops.drop n).length = ops.toArray.size - n := by simp
  have inv0 : HeadInv .any ops.toArray n (Array.replicate ops.toArray.size false) :=
    ⟨by simp, fun j oj _ hl => (by rw [getD_replicate_false] at hl; cases hl), fun t _ ht => getD_in (by simpa using ht) (getD_replicate_false _ _)⟩
  have H := wpAnyL_lex (md := .any) (g := ops.toArray.size - n) hsel hs hc hn (ops.take n) 0 _ a (fun j hj => by
    have hj' : j < n := by rw [htl] at hj; exact hj
    simp [hj']) (by simpa using htl) inv0 (by rw [htl]; exact hlex) h
  have := wpAny_of_head (Q' := Q) (g := ops.toArray.size - n) (fun listed a' hL => by
    have := wpAny_of_seq (md := .any) (Q' := Q) (ops.drop n) n listed a' { w with drawn := w.drawn + 1 } (fun j => by simp [List.getElem?_drop]) (by rw [hdl]; exact hL.1) hL.2
    rwa [hdl] at this) _ _ _ H
  rw [htl, show n + (ops.toArray.size - n) = ops.toArray.size by omega] at this
  exact this

theorem roundPostB_in {I : World → Prop} {W : World} : ¬ LetsOut (roundPostB L b I W) := fun ⟨_, _, h, _⟩ => by cases h
theorem roundPostB_block {I : World → Prop} {W : World} {id : Nat} : ¬ LetsOut (Exit.inBlock id (roundPostB L b I W)) := fun ⟨_, _, h⟩ => by
  simp only [Exit.inBlock] at h
  obtain ⟨h, _⟩ := h
  cases h

end

end Go.Proofs.YtapebaoajknepaaGreatDoor
/-
  A range over a function, once more: an iterator that only makes new memory between two rounds; a loop's body that keeps the blocks of K (and whatever is no cells), and a class of worlds C that the iterator leans on; a loop's variables may be made anew in each round.
-/
namespace Go.Proofs.YtapebaoajknepaaGreatDoor
open Go.RowKit
set_option linter.unusedVariables false

/-- All cells, and all below m, are as before. -/
structure Cel (m : Nat) (A B : World) : Prop where
  os : B.os = A.os
  tape : B.tape = A.tape
  output : B.output = A.output
  size : A.heap.size ≤ B.heap.size
  block : ∀ (k : Nat) (o : Obj), A.heap[k]? = some o → (o.isCells = true ∨ k < m) → B.heap[k]? = some o

theorem Cel.of_below {m : Nat} {A B : World} (h : Below A.heap.size A B) : Cel m A B := ⟨h.os, h.tape, h.output, h.size, fun _ _ hi _ => block_kept h hi⟩
theorem Cel.put {m : Nat} {A : World} {j : Nat} {o : Obj} (o' : Obj) (hm : m ≤ j) (hj : A.heap[j]? = some o) (ho : o.isCells = false) : Cel m A (A.putObj j o') :=
  ⟨rfl, rfl, rfl, by rw [World.putObj_size]; exact Nat.le_refl _, fun k x hx h => by
    rw [World.putObj_heap_other]
    · exact hx
    · intro e
      subst e
      rw [hj] at hx
      cases hx
      rcases h with h | h
      · rw [ho] at h; cases h
      · omega⟩
theorem Cel.trans {m : Nat} {A B C : World} (h : Cel m A B) (k : Cel m B C) : Cel m A C :=
  ⟨k.os.trans h.os, k.tape.trans h.tape, k.output.trans h.output, Nat.le_trans h.size k.size, fun i o hi ho => k.block i o (h.block i o hi ho) ho⟩
theorem RowAt.cel {m : Nat} {A B : World} {p : Nat} {t : TypeId} {cs : Array Value} (h : RowAt A p t cs) (c : Cel m A B) : RowAt B p t cs := c.block _ _ h (.inl rfl)
theorem Cel.below {m n : Nat} {A B : World} (c : Cel m A B) (hn : n ≤ m) (ha : n ≤ A.heap.size) : Below n A B :=
  ⟨c.os, c.tape, c.output, c.size, fun k hk => by
    have hk' : k < A.heap.size := by omega
    rw [Array.getElem?_eq_getElem hk']
    exact c.block k _ (Array.getElem?_eq_getElem hk') (.inr (by omega))⟩
theorem own_cel {m : Nat} {A B : World} {base : Nat} {e : TypeId} {size : Nat} {v : Value} {n : Nat} {xs : List Value} (h : A.ownsRow base e size v n xs) (c : Cel m A B) : B.ownsRow base e size v n xs := by
  refine ⟨h.1, ?_⟩
  rcases h.2 with h2 | ⟨g, cap, cur, rfl, hg, hr, rest⟩
  · exact .inl h2
  · exact .inr ⟨g, cap, cur, rfl, hg, c.block _ _ hr (.inl rfl), rest⟩

section
variable {K : Nat → Prop} {C : World → Prop}

/-- What a round does: the blocks of K, and what is no cells, are as before. -/
structure OuterK (K : Nat → Prop) (W W' : World) : Prop where
  os : W'.os = W.os
  tape : W'.tape = W.tape
  output : W'.output = W.output
  size : W.heap.size ≤ W'.heap.size
  block : ∀ (k : Nat) (o : Obj), W.heap[k]? = some o → (K k ∨ o.isCells = false) → W'.heap[k]? = some o

theorem OuterK.refl (W : World) : OuterK K W W := ⟨rfl, rfl, rfl, Nat.le_refl _, fun _ _ h _ => h⟩
theorem OuterK.trans {A B D : World} (h : OuterK K A B) (k : OuterK K B D) : OuterK K A D :=
  ⟨k.os.trans h.os, k.tape.trans h.tape, k.output.trans h.output, Nat.le_trans h.size k.size, fun i o hi ho => k.block i o (h.block i o hi ho) ho⟩
theorem OuterK.of_below {A B : World} (h : Below A.heap.size A B) : OuterK K A B := ⟨h.os, h.tape, h.output, h.size, fun _ _ hi _ => block_kept h hi⟩
theorem OuterK.row {A B : World} {p : Nat} {t : TypeId} {cs : Array Value} (h : OuterK K A B) (hr : RowAt A p t cs) (hp : K p) : RowAt B p t cs := h.block _ _ hr (.inl hp)
theorem OuterK.own {A B : World} {base : Nat} {e : TypeId} {size : Nat} {v : Value} {n : Nat} {xs : List Value} (c : OuterK K A B) (h : A.ownsRow base e size v n xs) (hv : ∀ k, v.ownBlock = some k → K k) : B.ownsRow base e size v n xs := by
  refine ⟨h.1, ?_⟩
  rcases h.2 with h2 | ⟨g, cap, cur, rfl, hg, hr, rest⟩
  · exact .inl h2
  · exact .inr ⟨g, cap, cur, rfl, hg, c.block _ _ hr (.inl (hv g rfl)), rest⟩
/-- A block of cells set, that K does not have. -/
theorem OuterK.setRow {A : World} {p : Nat} {t : TypeId} {cs : Array Value} (h : RowAt A p t cs) (ds : Array Value) (hp : ¬ K p) : OuterK K A (A.setRow p ds) :=
  ⟨rfl, rfl, rfl, by rw [setRow_size]; exact Nat.le_refl _, fun k o hk ho => by
    rw [setRow_other _ _ _ _ (fun e => ?_)]
    · exact hk
    · subst e
      rcases ho with ho | ho
      · exact hp ho
      · unfold RowAt at h
        rw [h] at hk
        cases hk
        cases ho⟩
theorem OuterK.setCell {A : World} {p : Nat} {t : TypeId} {cs : Array Value} (h : RowAt A p t cs) (j : Nat) (v : Value) (hp : ¬ K p) : OuterK K A (A.setCell ⟨p, j, none⟩ v) :=
  ⟨rfl, rfl, rfl, by simp [World.setCell], fun k o hk ho => by
    rw [Below.heap_setCell _ _ _ _ (fun e => ?_)]
    · exact hk
    · subst e
      rcases ho with ho | ho
      · exact hp ho
      · unfold RowAt at h
        rw [h] at hk
        cases hk
        cases ho⟩

/-- An iterator that hands out xs 0 .. xs (N - 1), whatever the body that keeps K and C, and asks for more. -/
def SeqK (K : Nat → Prop) (C : World → Prop) (P : Program) (g : Nat) (lb : Array Value) (N : Nat) (xs : Nat → Array Value) (w0 : World) : Prop :=
  ∀ (l : Nat) (J : Nat → World → Prop) (W : World), Below w0.heap.size w0 W →
    (∀ k A B, J k A → Below A.heap.size A B → J k B) → (∀ k A, J k A → C A) →
    (∀ k W1, J k W1 → k < N → YieldAt Fence.wide 0 P l (xs k) W1 fun e W' => e = .returned (.bool true) ∧ J (k + 1) W' ∧ OuterK K W1 W') →
    J 0 W → Calls P g (#[.func (.yield l) #[] #[]] ++ lb) W fun e W' => (∃ v, e = .returned v) ∧ J N W'

/-- What a round's body is asked for. -/
def roundPostK (K : Nat → Prop) (I : World → Prop) (W : World) (e : Exit) (_ : Act) (W' : World) : Prop := e = .normal ∧ I W' ∧ OuterK K W W'

theorem wp_rangeFunc_k {P : Program} {g : Operand} {ps : Array Tmp} {assign body : Code} {Q : Exit → Act → World → Prop} {a : Act} {w : World}
    {gf : Nat} {lb : Array Value} (hg : a.eval g = .func (.func gf) #[] lb) (eg : ∀ args w, (callFunc gf args).run P w = .ok (.enter gf args) w)
    {N : Nat} {xs : Nat → Array Value} {w0 : World} (hseq : SeqK K C P gf lb N xs w0) (hb0 : Below w0.heap.size w0 w) (hps : ∀ k, (xs k).size = ps.size)
    (I : Nat → World → Prop) (hI : ∀ k A B, I k A → Cel w.heap.size A B → I k B) (hC : ∀ k A, I k A → C A) (h0 : I 0 w)
    (I2 : Nat → Act → World → Prop) (hI2 : ∀ k a1 A B, I2 k a1 A → Cel w.heap.size A B → I2 k a1 B)
    (hassign : ∀ (l : Nat) (k : Nat) (W : World) (Kk : Act → World → Prop), I k W → k < N → (∀ a1 W1, I2 k a1 W1 → OuterK K W W1 → Kk a1 W1) →
      assign.wpIn (Fence.wide.inRound l) 0 P (Exit.then Kk (fun _ _ _ => False)) { tmps := (ps.zip (xs k)).foldl (fun t (p, v) => t.setIfInBounds p v) a.tmps, defers := [] } W)
    (hbody : ∀ (l : Nat) (k : Nat) (a1 : Act) (W : World), I2 k a1 W → k < N → body.wpIn (Fence.wide.inRound l) 0 P (roundPostK K (I (k + 1)) W) a1 W)
    (hdone : ∀ (D : Nat) (W : World), w.heap.size ≤ D → I N W → W.heap[D]? = some (.deferred (some [])) → Q .normal { a with defers := { target := .collected D, args := #[] } :: a.defers } W) :
    (Code.rangeFunc g ps assign body).wp P Q a w := by
  refine (wpIn_wide (n := 1)).1 (wpIn_rangeFunc ?_)
  intro fn hfn
  obtain ⟨rec, hrec⟩ : ∃ rec : LoopState → Option Code → Loop, rec = fun st pe => { state := st, pending := pe, fn, tmps := a.tmps, params := ps, assign, body, defers := w.heap.size } := ⟨_, rfl⟩
  obtain ⟨W1, hW1⟩ : ∃ W1, (w.alloc (.deferred (some []))).alloc (.loop (rec .ready none)) = W1 := ⟨_, rfl⟩
  have hL1 : W1.heap[w.heap.size + 1]? = some (.loop (rec .ready none)) := by
    rw [← hW1]; have := World.alloc_heap_new (w.alloc (.deferred (some []))) (.loop (rec .ready none)); rwa [World.size_alloc] at this
  have hK1 : W1.heap[w.heap.size]? = some (.deferred (some [])) := by
    rw [← hW1]; exact (Below.heap_alloc _ _ _ (by simp)).trans (World.alloc_heap_new w _)
  have hbW : Below w.heap.size w W1 := by rw [← hW1]; exact ((Below.refl _ w).alloc (Nat.le_refl _) _).alloc (by simp) _
  have hsz : W1.heap.size = w.heap.size + 1 + 1 := by rw [← hW1, World.size_alloc, World.size_alloc]
  have hI1 : I 0 W1 := hI _ _ _ h0 (Cel.of_below hbW)
  have hb1 : Below w0.heap.size w0 W1 := hb0.trans (hbW.mono hb0.size)
  refine ⟨w.heap.size + 1, [{ target := .collected w.heap.size, args := #[] }], W1, { target := .fn (.func gf) lb, args := #[.func (.yield (w.heap.size + 1)) #[] #[]] }, W1, gf,
    #[.func (.yield (w.heap.size + 1)) #[] #[]] ++ lb, W1, ?_, ?_, ?_, ?_, fun _ => Nat.le_refl _, ?_⟩
  · rw [← hW1, hrec]; exact run_enterLoop_outer _ _ _ _ _
  · simp only [resolve, hg]
    simp [go_sem]
  · intro f' _; trivial
  · simp [invoke, go_sem, eg]
  · refine callsIn_wide.2 ((hseq (w.heap.size + 1)
      (fun k W => I k W ∧ W.heap[w.heap.size + 1]? = some (.loop (rec .ready none)) ∧ W.heap[w.heap.size]? = some (.deferred (some [])))
      W1 hb1 ?_ (fun k A h => hC k A h.1) ?_ ⟨hI1, hL1, hK1⟩).mono ?_)
    · rintro k A B ⟨h1, h2, h3⟩ hAB
      exact ⟨hI k A B h1 (Cel.of_below hAB), block_kept hAB h2, block_kept hAB h3⟩
    · -- ONE ROUND
      rintro k W ⟨hi, hl, hk⟩ hlen
      have hlt : w.heap.size + 1 < W.heap.size := (Array.getElem?_eq_some_iff.1 hl).1
      have hy := run_yield (P := P) (args := xs k) hl (by rw [hrec]; exact hps k)
      rw [hrec] at hy
      refine ⟨fn, _, assign, body, hy, roundIn_of_wpIn hfn (hassign _ k W _ hi hlen ?_)⟩
      clear hy
      intro a1 Wa hi2 ho1
      have hla := ho1.block _ _ hl (.inr rfl)
      have hka := ho1.block _ _ hk (.inr rfl)
      have hlta : w.heap.size + 1 < Wa.heap.size := (Array.getElem?_eq_some_iff.1 hla).1
      refine ⟨_, run_beginRound hla (by rw [hrec]), ?_⟩
      have hl2 : (Wa.putObj (w.heap.size + 1) (.loop { rec .ready none with state := .busy })).heap[w.heap.size + 1]? = some (.loop { rec .ready none with state := .busy }) := World.putObj_heap_same hlta
      have hk2 : (Wa.putObj (w.heap.size + 1) (.loop { rec .ready none with state := .busy })).heap[w.heap.size]? = some (.deferred (some [])) := (World.putObj_heap_other (by omega)).trans hka
      refine wpIn_mono (hbody _ k a1 _ (hI2 _ _ _ _ hi2 (Cel.put _ (by omega) hla rfl)) hlen) ?_
      rintro e a3 W3 ⟨rfl, hi3, hout⟩
      have hl3 := hout.block _ _ hl2 (.inr rfl)
      have hk3 := hout.block _ _ hk2 (.inr rfl)
      have hend := run_endRound (P := P) none hl3
      refine ⟨_, _, hend, rfl, ⟨hI _ _ _ hi3 (Cel.put _ (by omega) hl3 rfl), ?_, (World.putObj_heap_other (by omega)).trans hk3⟩, ?_⟩
      · rw [hrec]
        exact World.putObj_heap_same (Array.getElem?_eq_some_iff.1 hl3).1
      · refine ⟨hout.os.trans ho1.os, hout.tape.trans ho1.tape, hout.output.trans ho1.output, by rw [World.putObj_size]; have := hout.size; rw [World.putObj_size] at this; exact Nat.le_trans ho1.size this, fun j o hj ho => ?_⟩
        by_cases e : j = w.heap.size + 1
        · subst e
          rw [hl] at hj
          cases hj
          rw [hrec]
          exact World.putObj_heap_same (Array.getElem?_eq_some_iff.1 hl3).1
        · rw [World.putObj_heap_other e]
          exact hout.block j o ((World.putObj_heap_other e).trans (ho1.block j o hj ho)) ho
    · rintro e W2 ⟨⟨v, rfl⟩, hi, hl, hk⟩
      exact ⟨none, _, by have := run_endLoop (P := P) hl (by rw [hrec]; simp); rw [hrec] at this; exact this, hdone _ _ (Nat.le_refl _) (hI _ _ _ hi (Cel.put _ (by omega) hl rfl)) ((World.putObj_heap_other (by omega)).trans hk)⟩

theorem roundPostK_in {I : World → Prop} {W : World} : ¬ LetsOut (roundPostK K I W) := fun ⟨_, _, h, _⟩ => by cases h
theorem roundPostK_block {I : World → Prop} {W : World} {id : Nat} : ¬ LetsOut (Exit.inBlock id (roundPostK K I W)) := fun ⟨_, _, h⟩ => by
  simp only [Exit.inBlock] at h
  obtain ⟨h, _⟩ := h
  cases h

end

end Go.Proofs.YtapebaoajknepaaGreatDoor
/-
  A log in memory, on its chip.
-/
namespace Go.Proofs.YtapebaoajknepaaGreatDoor
open Go.RowKit
set_option linter.unusedVariables false

/-- What a log has beside its chip: the next number, the open segment (or -1), which segments are retired. -/
structure Sg where
  seq : Nat
  op : Int
  worn : Nat → Bool

def logV (cp : Nat) (G : Sg) : Nat → Value := fun j => if j = 0 then .pointer (some ⟨cp, 0, none⟩) else if j = 1 then .int .u64 (G.seq : Nat) else if j = 2 then .int .i64 G.op else .bool (G.worn (j - 3))

/-- A log in memory: all of it from block B on; hv is its chip's history. -/
structure Lg (B : Nat) (w : World) (lp : Nat) (L : Lay) (S : St) (hv : Value) (G : Sg) : Prop where
  ch : Ch B w L S hv
  log : RowAt w lp 67 (rowOf 67 (logV L.cp G))
  lo : B ≤ lp
  up : S.up = true
  wide : ∀ i j, (S.page i j).size ≤ 256
  opn : G.op = -1 ∨ ∃ s, s < L.n ∧ G.op = (s : Int)

section
variable {B : Nat} {w w' : World} {lp : Nat} {L : Lay} {S : St} {hv hv' : Value} {G : Sg}
theorem Lg.l0 (h : Lg B w lp L S hv G) : w.cell? ⟨lp, 0, none⟩ = some (.pointer (some ⟨L.cp, 0, none⟩)) := h.log.cell 0 (by decide)
theorem Lg.l1 (h : Lg B w lp L S hv G) : w.cell? ⟨lp, 1, none⟩ = some (.int .u64 (G.seq : Nat)) := h.log.cell 1 (by decide)
theorem Lg.l2 (h : Lg B w lp L S hv G) : w.cell? ⟨lp, 2, none⟩ = some (.int .i64 G.op) := h.log.cell 2 (by decide)
theorem Lg.l3 (h : Lg B w lp L S hv G) {i : Nat} (hi : i < 64) : w.cell? ⟨lp, 3 + i, none⟩ = some (.bool (G.worn i)) := by
  rw [h.log.cell (3 + i) (by omega)]
  unfold logV
  rw [if_neg (by omega), if_neg (by omega), if_neg (by omega), show 3 + i - 3 = i by omega]
theorem Lg.after (h : Lg B w lp L S hv G) (hb : Below w.heap.size w w') : Lg B w' lp L S hv G := ⟨h.ch.after hb, h.log.below hb h.log.lt, h.lo, h.up, h.wide, h.opn⟩
theorem Ch.cel {m : Nat} (h : Ch B w L S hv) (c : Cel m w w') : Ch B w' L S hv :=
  ⟨h.pow.cel c, h.chip.cel c, h.segs.cel c, fun i hi => (h.pages i hi).cel c, own_cel h.hist c, h.inj, h.far, h.low, h.room, h.byte, h.tall⟩
theorem Lg.cel {m : Nat} (h : Lg B w lp L S hv G) (c : Cel m w w') : Lg B w' lp L S hv G := ⟨h.ch.cel c, h.log.cel c, h.lo, h.up, h.wide, h.opn⟩
theorem Ch.outer {K : Nat → Prop} (h : Ch B w L S hv) (c : OuterK K w w') (hK : ∀ k, foot L hv k → K k) : Ch B w' L S hv :=
  ⟨c.row h.pow (hK _ (.inl rfl)), c.row h.chip (hK _ (.inr (.inl rfl))), c.row h.segs (hK _ (.inr (.inr (.inl rfl)))), fun i hi => c.row (h.pages i hi) (hK _ (.inr (.inr (.inr (.inl ⟨i, hi, rfl⟩))))), c.own h.hist (fun k e => hK _ (.inr (.inr (.inr (.inr e))))), h.inj, h.far, h.low, h.room, h.byte, h.tall⟩

/-- The log lies apart from its chip. -/
theorem Lg.apart (h : Lg B w lp L S hv G) : ¬ foot L hv lp := by
  rintro (e | e | e | ⟨i, hi, e⟩ | e)
  · exact h.log.apart h.ch.pow (by decide) e
  · exact h.log.apart h.ch.chip (by decide) e
  · exact h.log.apart h.ch.segs (by decide) e
  · exact h.log.apart (h.ch.pages i hi) (by decide) e
  · exact h.log.not_own h.ch.hist (by decide) e

/-- The blocks of a log. -/
def footG (lp : Nat) (L : Lay) (hv : Value) : Nat → Prop := fun k => k = lp ∨ foot L hv k
/-- From one log to the next: nothing else has turned. -/
structure GoesG (lp : Nat) (L : Lay) (hv : Value) (w : World) (hv' : Value) (w' : World) : Prop where
  side : Beside (footG lp L hv) w w'
  mine : ∀ k, hv'.ownBlock = some k → hv.ownBlock = some k ∨ w.heap.size ≤ k

theorem GoesG.of_below (h : Below w.heap.size w w') : GoesG lp L hv w hv w' := ⟨.of_below h, fun k h => .inl h⟩
theorem GoesG.of_goes (h : Goes L hv w hv' w') : GoesG lp L hv w hv' w' := ⟨h.side.mono fun k hk => .inr hk, h.mine⟩
theorem GoesG.foot (h : GoesG lp L hv w hv' w') : ∀ k, footG lp L hv' k → footG lp L hv k ∨ w.heap.size ≤ k := by
  rintro k (h1 | h1 | h1 | h1 | h1 | h1)
  · exact .inl (.inl h1)
  · exact .inl (.inr (.inl h1))
  · exact .inl (.inr (.inr (.inl h1)))
  · exact .inl (.inr (.inr (.inr (.inl h1))))
  · exact .inl (.inr (.inr (.inr (.inr (.inl h1)))))
  · rcases h.mine k h1 with h2 | h2
    · exact .inl (.inr (.inr (.inr (.inr (.inr h2)))))
    · exact .inr h2
theorem GoesG.trans {v0 v1 v2 : Value} {a b c : World} (h : GoesG lp L v0 a v1 b) (k : GoesG lp L v1 b v2 c) : GoesG lp L v0 a v2 c :=
  ⟨h.side.wide k.side h.foot, fun i hi => by
    rcases k.mine i hi with h1 | h1
    · exact h.mine i h1
    · exact .inr (Nat.le_trans h.side.size h1)⟩
theorem GoesG.below {v0 v1 : Value} {a b c : World} (h : GoesG lp L v0 a v1 b) (k : Below b.heap.size b c) : GoesG lp L v0 a v1 c := h.trans (.of_below k)
theorem Lg.base (h : Lg B w lp L S hv G) : ∀ k, footG lp L hv k → B ≤ k ∧ k < w.heap.size := by
  rintro k (rfl | h1)
  · exact ⟨h.lo, h.log.lt⟩
  · exact h.ch.base k h1
theorem GoesG.under {v0 v1 : Value} {a b : World} (h : GoesG lp L v0 a v1 b) (hc : Lg B a lp L S v0 G) (hB : B ≤ a.heap.size) : Below B a b := h.side.under (fun k hk => (hc.base k hk).1) hB
/-- The chip has turned. -/
theorem Lg.chip (h : Lg B w lp L S hv G) {S' : St} (g : Goes L hv w hv' w') (hc : Ch B w' L S' hv') (hu : S'.up = true) (hw : ∀ i j, (S'.page i j).size ≤ 256) : Lg B w' lp L S' hv' G :=
  ⟨hc, h.log.beside g.side h.apart, h.lo, hu, hw, h.opn⟩
/-- The log has turned. -/
theorem Lg.turn (h : Lg B w lp L S hv G) {G' : Sg} (ha : Apart lp w w') (hr : RowAt w' lp 67 (rowOf 67 (logV L.cp G'))) (ho : G'.op = -1 ∨ ∃ s, s < L.n ∧ G'.op = (s : Int)) : Lg B w' lp L S hv G' ∧ GoesG lp L hv w hv w' := by
  have hs : Beside (fun k => k = lp) w w' := .of_apart ha rfl
  have ne : ∀ k, Go.Proofs.YtapebaoajknepaaGreatDoor.foot L hv k → ¬ k = lp := fun k hk e => h.apart (e ▸ hk)
  exact ⟨⟨⟨h.ch.pow.beside hs (ne _ (.inl rfl)), h.ch.chip.beside hs (ne _ (.inr (.inl rfl))), h.ch.segs.beside hs (ne _ (.inr (.inr (.inl rfl)))), fun i hi => (h.ch.pages i hi).beside hs (ne _ (.inr (.inr (.inr (.inl ⟨i, hi, rfl⟩))))), own_beside h.ch.hist hs (fun k e => ne k (.inr (.inr (.inr (.inr e))))), h.ch.inj, h.ch.far, h.ch.low, h.ch.room, h.ch.byte, h.ch.tall⟩, hr, h.lo, h.up, h.wide, ho⟩, hs.mono fun k e => .inl e, fun k e => .inl e⟩
end

theorem logV_seq (cp : Nat) (G : Sg) (q : Nat) : (rowOf 67 (logV cp G)).setIfInBounds 1 (.int .u64 (q : Nat)) = rowOf 67 (logV cp { G with seq := q }) := by
  rw [rowOf_set]
  refine rowOf_congr fun j hj => ?_
  unfold logV
  by_cases h : j = 1
  · subst h
    rfl
  · rw [if_neg h]
    split
    · rfl
    · rfl
theorem logV_op (cp : Nat) (G : Sg) (z : Int) : (rowOf 67 (logV cp G)).setIfInBounds 2 (.int .i64 z) = rowOf 67 (logV cp { G with op := z }) := by
  rw [rowOf_set]
  refine rowOf_congr fun j hj => ?_
  unfold logV
  by_cases h : j = 2
  · subst h
    rfl
  · rw [if_neg h]
    split
    · rfl
    · rfl
theorem logV_worn (cp : Nat) (G : Sg) (i : Nat) : (rowOf 67 (logV cp G)).setIfInBounds (3 + i) (.bool true) = rowOf 67 (logV cp { G with worn := updB G.worn i }) := by
  rw [rowOf_set]
  refine rowOf_congr fun j hj => ?_
  unfold logV updB
  by_cases h : j = 3 + i
  · subst h
    rw [if_pos rfl, if_neg (by omega), if_neg (by omega), if_neg (by omega)]
    show _ = Value.bool (if 3 + i - 3 = i then true else G.worn (3 + i - 3))
    rw [if_pos (by omega)]
  · rw [if_neg h]
    by_cases h0 : j = 0
    · rw [if_pos h0, if_pos h0]
    by_cases h1 : j = 1
    · rw [if_neg h0, if_pos h1, if_neg h0, if_pos h1]
    by_cases h2 : j = 2
    · rw [if_neg h0, if_neg h1, if_pos h2, if_neg h0, if_neg h1, if_pos h2]
    · rw [if_neg h0, if_neg h1, if_neg h2, if_neg h0, if_neg h1, if_neg h2]
      show _ = Value.bool (if j - 3 = i then true else G.worn (j - 3))
      rw [if_neg (by omega)]

/-! What is asked: the next number, the open segment. -/

set_option maxRecDepth 8000 in
theorem lseq_any (B : Nat) (w : World) (lp : Nat) (L : Lay) (S : St) (hv : Value) (G : Sg) (h : Hid (Lg B w lp L S hv G)) :
    Calls Tryz.prog 9 #[.pointer (some ⟨lp, 0, none⟩)] w fun e w' => e = .returned (.int .u64 (G.seq : Nat)) ∧ w' = w := by
  have c1 := h.out.l1
  go_enter Tryz.func9, Tryz.ntmps9
  go_wp2
  go_ret
  exact ⟨rfl, rfl⟩

set_option maxRecDepth 8000 in
theorem lopen_any (B : Nat) (w : World) (lp : Nat) (L : Lay) (S : St) (hv : Value) (G : Sg) (h : Hid (Lg B w lp L S hv G)) :
    Calls Tryz.prog 13 #[.pointer (some ⟨lp, 0, none⟩)] w fun e w' => e = .returned (.int .i64 G.op) ∧ w' = w := by
  have c1 := h.out.l2
  go_enter Tryz.func13, Tryz.ntmps13
  go_wp2
  go_ret
  exact ⟨rfl, rfl⟩

end Go.Proofs.YtapebaoajknepaaGreatDoor
/-
  Contract: Read of a log.
-/
namespace Go.Proofs.YtapebaoajknepaaGreatDoor
open Go.RowKit
set_option linter.unusedVariables false

theorem gotV_agg (P : List UInt8) : ∃ a b c, gotV P = .agg #[a, b, c] := by
  unfold gotV
  split
  · exact ⟨_, _, _, rfl⟩
  · exact ⟨_, _, _, rfl⟩
theorem gotV_one {P : List UInt8} {a b c : Value} (h : gotV P = .agg #[a, b, c]) : #[a, b, c].toList.all (·.oneCell') = true := by
  unfold gotV at h
  split at h <;> · cases h; simp [Value.oneCell']

set_option maxHeartbeats 1000000 in
set_option maxRecDepth 8000 in
theorem lread_arg (B : Nat) (w : World) (lp : Nat) (L : Lay) (S : St) (hv : Value) (G : Sg) (h : Hid (Lg B w lp L S hv G)) (hk : Hid (KRow w)) (z y : Int) (hin : (inB z L.n && inB y L.m) = false) :
    Calls Tryz.prog 11 #[.pointer (some ⟨lp, 0, none⟩), .agg #[.int .i64 z, .int .i64 y]] w fun e w' => e = .returned (.tuple #[.agg #[.int .u8 0, .int .u64 0, .string ⟨#[]⟩], .int .i64 1]) ∧ Below w.heap.size w w' := by
  have hrd : Hid (readV L.n L.m S z y = #[.string ⟨#[]⟩, .bool false, .int .i64 1]) := by unfold Hid readV; rw [if_neg (by rw [h.out.up]; decide), if_pos hin]
  have b0 : Below w.heap.size w (((w.alloc (.cells #[.int .i64 z, .int .i64 y] 34)).alloc (.cells #[.int .u8 0, .int .u64 0, .string ⟨#[]⟩] 41)).drew) := (((Below.refl _ w).alloc (Nat.le_refl _) _).alloc (by simp) _).drew
  have q0 : RowAt (((w.alloc (.cells #[.int .i64 z, .int .i64 y] 34)).alloc (.cells #[.int .u8 0, .int .u64 0, .string ⟨#[]⟩] 41)).drew) w.heap.size 34 #[.int .i64 z, .int .i64 y] := (RowAt.new _ _ _).alloc _
  have p0 : RowAt (((w.alloc (.cells #[.int .i64 z, .int .i64 y] 34)).alloc (.cells #[.int .u8 0, .int .u64 0, .string ⟨#[]⟩] 41)).drew) (w.heap.size + 1) 41 #[.int .u8 0, .int .u64 0, .string ⟨#[]⟩] := by
    have := RowAt.new (w.alloc (.cells #[.int .i64 z, .int .i64 y] 34)) 41 #[.int .u8 0, .int .u64 0, .string ⟨#[]⟩]
    rw [World.size_alloc] at this
    exact this
  have h3 := Lib.hid (h.out.after b0)
  have k3 : Hid (KRow (((w.alloc (.cells #[.int .i64 z, .int .i64 y] 34)).alloc (.cells #[.int .u8 0, .int .u64 0, .string ⟨#[]⟩] 41)).drew)) := hk.out.below b0 hk.out.1 b0.size
  replace q0 := Lib.hid q0
  replace p0 := Lib.hid p0
  go_enter Tryz.func11, Tryz.ntmps11
  go_wp2_with fail
  generalize hw3 : ((w.alloc (.cells #[.int .i64 z, .int .i64 y] 34)).alloc (.cells #[.int .u8 0, .int .u64 0, .string ⟨#[]⟩] 41)).drew = w3 at *
  generalize hq : w.heap.size = q at *
  have R := Lib.hid (fun w' (hC : Below w3.heap.size w3 w') => read_any B w' L S hv (Lib.hid (h3.out.after hC).ch) z y)
  rw [hrd.out] at R
  refine wp_region_class (fun w' => Below w3.heap.size w3 w') (by kernel_rfl) (by kernel_rfl) (by rw [hw3]; exact Below.refl _ _) ?_
  refine wpQuiet_val rfl (.pointer (some ⟨lp, 0, none⟩)) (fun w' hC => by
    have hc := h3.out.after hC
    have c0 := hc.l0
    have q1 := q0.out.below hC q0.out.lt
    have c1 := q1.one 0 rfl
    have c2 := q1.one 1 rfl
    go_simp) ?_
  simp only [Act.put, List.setIfInBounds_toArray, List.set_cons_succ, List.set_cons_zero]
  refine wpQuiet_val rfl (.pointer (some ⟨lp, 0, none⟩)) (fun w' hC => by
    have hc := h3.out.after hC
    have c0 := hc.l0
    have q1 := q0.out.below hC q0.out.lt
    have c1 := q1.one 0 rfl
    have c2 := q1.one 1 rfl
    go_simp) ?_
  simp only [Act.put, List.setIfInBounds_toArray, List.set_cons_succ, List.set_cons_zero]
  refine wpQuiet_val rfl (.pointer (some ⟨lp, 0, none⟩)) (fun w' hC => by
    have hc := h3.out.after hC
    have c0 := hc.l0
    have q1 := q0.out.below hC q0.out.lt
    have c1 := q1.one 0 rfl
    have c2 := q1.one 1 rfl
    go_simp) ?_
  simp only [Act.put, List.setIfInBounds_toArray, List.set_cons_succ, List.set_cons_zero]
  refine wpQuiet_val rfl (.pointer (some ⟨L.cp, 0, none⟩)) (fun w' hC => by
    have hc := h3.out.after hC
    have c0 := hc.l0
    have q1 := q0.out.below hC q0.out.lt
    have c1 := q1.one 0 rfl
    have c2 := q1.one 1 rfl
    go_simp) ?_
  simp only [Act.put, List.setIfInBounds_toArray, List.set_cons_succ, List.set_cons_zero]
  refine wpQuiet_val rfl (.pointer (some ⟨q, 0, none⟩)) (fun w' hC => by
    have hc := h3.out.after hC
    have c0 := hc.l0
    have q1 := q0.out.below hC q0.out.lt
    have c1 := q1.one 0 rfl
    have c2 := q1.one 1 rfl
    go_simp) ?_
  simp only [Act.put, List.setIfInBounds_toArray, List.set_cons_succ, List.set_cons_zero]
  refine wpQuiet_val rfl (.int .i64 z) (fun w' hC => by
    have hc := h3.out.after hC
    have c0 := hc.l0
    have q1 := q0.out.below hC q0.out.lt
    have c1 := q1.one 0 rfl
    have c2 := q1.one 1 rfl
    go_simp) ?_
  simp only [Act.put, List.setIfInBounds_toArray, List.set_cons_succ, List.set_cons_zero]
  refine wpQuiet_val rfl (.pointer (some ⟨q, 1, none⟩)) (fun w' hC => by
    have hc := h3.out.after hC
    have c0 := hc.l0
    have q1 := q0.out.below hC q0.out.lt
    have c1 := q1.one 0 rfl
    have c2 := q1.one 1 rfl
    go_simp) ?_
  simp only [Act.put, List.setIfInBounds_toArray, List.set_cons_succ, List.set_cons_zero]
  refine wpQuiet_val rfl (.int .i64 y) (fun w' hC => by
    have hc := h3.out.after hC
    have c0 := hc.l0
    have q1 := q0.out.below hC q0.out.lt
    have c1 := q1.one 0 rfl
    have c2 := q1.one 1 rfl
    go_simp) ?_
  simp only [Act.put, List.setIfInBounds_toArray, List.set_cons_succ, List.set_cons_zero]
  (go_big_quiet_want; go_big_quiet_op; apply Exists.intro; refine ⟨fun w' hC => (R.out w' hC).mono fun e w'' h => ⟨h.1, hC.trans (h.2.mono hC.size)⟩, ?_⟩; go_big_quiet_on)
  refine wpQuiet_val rfl (.tuple #[.string ⟨#[]⟩, .bool false, .int .i64 1]) (fun w' hC => by
    have hc := h3.out.after hC
    have c0 := hc.l0
    have q1 := q0.out.below hC q0.out.lt
    have c1 := q1.one 0 rfl
    have c2 := q1.one 1 rfl
    go_simp) ?_
  simp only [Act.put, List.setIfInBounds_toArray, List.set_cons_succ, List.set_cons_zero]
  refine wpQuiet_val rfl (.string ⟨#[]⟩) (fun w' hC => by
    have hc := h3.out.after hC
    have c0 := hc.l0
    have q1 := q0.out.below hC q0.out.lt
    have c1 := q1.one 0 rfl
    have c2 := q1.one 1 rfl
    go_simp) ?_
  simp only [Act.put, List.setIfInBounds_toArray, List.set_cons_succ, List.set_cons_zero]
  refine wpQuiet_val rfl (.bool false) (fun w' hC => by
    have hc := h3.out.after hC
    have c0 := hc.l0
    have q1 := q0.out.below hC q0.out.lt
    have c1 := q1.one 0 rfl
    have c2 := q1.one 1 rfl
    go_simp) ?_
  simp only [Act.put, List.setIfInBounds_toArray, List.set_cons_succ, List.set_cons_zero]
  refine wpQuiet_val rfl (.int .i64 1) (fun w' hC => by
    have hc := h3.out.after hC
    have c0 := hc.l0
    have q1 := q0.out.below hC q0.out.lt
    have c1 := q1.one 0 rfl
    have c2 := q1.one 1 rfl
    go_simp) ?_
  simp only [Act.put, List.setIfInBounds_toArray, List.set_cons_succ, List.set_cons_zero]
  refine wpQuiet_val rfl (.string ⟨#[]⟩) (fun w' hC => by
    have hc := h3.out.after hC
    have c0 := hc.l0
    have q1 := q0.out.below hC q0.out.lt
    have c1 := q1.one 0 rfl
    have c2 := q1.one 1 rfl
    go_simp) ?_
  simp only [Act.put, List.setIfInBounds_toArray, List.set_cons_succ, List.set_cons_zero]
  refine wpQuiet_val rfl (.bool false) (fun w' hC => by
    have hc := h3.out.after hC
    have c0 := hc.l0
    have q1 := q0.out.below hC q0.out.lt
    have c1 := q1.one 0 rfl
    have c2 := q1.one 1 rfl
    go_simp) ?_
  simp only [Act.put, List.setIfInBounds_toArray, List.set_cons_succ, List.set_cons_zero]
  refine wpQuiet_val rfl (.int .i64 1) (fun w' hC => by
    have hc := h3.out.after hC
    have c0 := hc.l0
    have q1 := q0.out.below hC q0.out.lt
    have c1 := q1.one 0 rfl
    have c2 := q1.one 1 rfl
    go_simp) ?_
  simp only [Act.put, List.setIfInBounds_toArray, List.set_cons_succ, List.set_cons_zero]
  refine wpQuiet_nil fun w4 hC => ?_
  have b4 : Below q w w4 := b0.trans (hC.mono (by have := b0.size; omega))
  have hqh := Lib.hid hq
  clear hq
  have p4 := Lib.hid (p0.out.below hC p0.out.lt)
  have k4 : Hid (KRow w4) := k3.out.below hC k3.out.1 hC.size
  clear R h3 hC hw3 q0 p0 k3 b0 hrd
  go_wp2_with (refine wpList_store_row rfl 41 _ _ rfl (q + 1) #[.int .u8 0, .int .u64 0, .string ⟨#[]⟩] rfl rfl 41 _ p4.out (size_frame _ rfl) rfl (by simp [Value.oneCell']) ?_)
  refine bodyPost_ret (v := .tuple #[.agg #[.int .u8 0, .int .u64 0, .string ⟨#[]⟩], .int .i64 1]) ?_ rfl ⟨rfl, by rw [hqh.out]; exact below_setRow' b4 (Nat.le_succ _) _⟩
  exact results_row_one Tryz.results11 _ _ (q + 1) 41 #[.int .u8 0, .int .u64 0, .string ⟨#[]⟩] (0, 0) _ rfl (p4.out.setRow _) Tryz.underlying41 rfl (size_frame _ rfl)

set_option maxHeartbeats 1000000 in
set_option maxRecDepth 8000 in
theorem lread_none (B : Nat) (w : World) (lp : Nat) (L : Lay) (S : St) (hv : Value) (G : Sg) (h : Hid (Lg B w lp L S hv G)) (hk : Hid (KRow w)) (z y : Int) (hrd : Hid (readV L.n L.m S z y = #[.string ⟨#[]⟩, .bool false, .int .i64 0])) :
    Calls Tryz.prog 11 #[.pointer (some ⟨lp, 0, none⟩), .agg #[.int .i64 z, .int .i64 y]] w fun e w' => e = .returned (.tuple #[.agg #[.int .u8 0, .int .u64 0, .string ⟨#[]⟩], .int .i64 3]) ∧ Below w.heap.size w w' := by
  have b0 : Below w.heap.size w (((w.alloc (.cells #[.int .i64 z, .int .i64 y] 34)).alloc (.cells #[.int .u8 0, .int .u64 0, .string ⟨#[]⟩] 41)).drew) := (((Below.refl _ w).alloc (Nat.le_refl _) _).alloc (by simp) _).drew
  have q0 : RowAt (((w.alloc (.cells #[.int .i64 z, .int .i64 y] 34)).alloc (.cells #[.int .u8 0, .int .u64 0, .string ⟨#[]⟩] 41)).drew) w.heap.size 34 #[.int .i64 z, .int .i64 y] := (RowAt.new _ _ _).alloc _
  have p0 : RowAt (((w.alloc (.cells #[.int .i64 z, .int .i64 y] 34)).alloc (.cells #[.int .u8 0, .int .u64 0, .string ⟨#[]⟩] 41)).drew) (w.heap.size + 1) 41 #[.int .u8 0, .int .u64 0, .string ⟨#[]⟩] := by
    have := RowAt.new (w.alloc (.cells #[.int .i64 z, .int .i64 y] 34)) 41 #[.int .u8 0, .int .u64 0, .string ⟨#[]⟩]
    rw [World.size_alloc] at this
    exact this
  have h3 := Lib.hid (h.out.after b0)
  have k3 : Hid (KRow (((w.alloc (.cells #[.int .i64 z, .int .i64 y] 34)).alloc (.cells #[.int .u8 0, .int .u64 0, .string ⟨#[]⟩] 41)).drew)) := hk.out.below b0 hk.out.1 b0.size
  replace q0 := Lib.hid q0
  replace p0 := Lib.hid p0
  go_enter Tryz.func11, Tryz.ntmps11
  go_wp2_with fail
  generalize hw3 : ((w.alloc (.cells #[.int .i64 z, .int .i64 y] 34)).alloc (.cells #[.int .u8 0, .int .u64 0, .string ⟨#[]⟩] 41)).drew = w3 at *
  generalize hq : w.heap.size = q at *
  have R := Lib.hid (fun w' (hC : Below w3.heap.size w3 w') => read_any B w' L S hv (Lib.hid (h3.out.after hC).ch) z y)
  rw [hrd.out] at R
  refine wp_region_class (fun w' => Below w3.heap.size w3 w') (by kernel_rfl) (by kernel_rfl) (by rw [hw3]; exact Below.refl _ _) ?_
  refine wpQuiet_val rfl (.pointer (some ⟨lp, 0, none⟩)) (fun w' hC => by
    have hc := h3.out.after hC
    have c0 := hc.l0
    have q1 := q0.out.below hC q0.out.lt
    have c1 := q1.one 0 rfl
    have c2 := q1.one 1 rfl
    go_simp) ?_
  simp only [Act.put, List.setIfInBounds_toArray, List.set_cons_succ, List.set_cons_zero]
  refine wpQuiet_val rfl (.pointer (some ⟨lp, 0, none⟩)) (fun w' hC => by
    have hc := h3.out.after hC
    have c0 := hc.l0
    have q1 := q0.out.below hC q0.out.lt
    have c1 := q1.one 0 rfl
    have c2 := q1.one 1 rfl
    go_simp) ?_
  simp only [Act.put, List.setIfInBounds_toArray, List.set_cons_succ, List.set_cons_zero]
  refine wpQuiet_val rfl (.pointer (some ⟨lp, 0, none⟩)) (fun w' hC => by
    have hc := h3.out.after hC
    have c0 := hc.l0
    have q1 := q0.out.below hC q0.out.lt
    have c1 := q1.one 0 rfl
    have c2 := q1.one 1 rfl
    go_simp) ?_
  simp only [Act.put, List.setIfInBounds_toArray, List.set_cons_succ, List.set_cons_zero]
  refine wpQuiet_val rfl (.pointer (some ⟨L.cp, 0, none⟩)) (fun w' hC => by
    have hc := h3.out.after hC
    have c0 := hc.l0
    have q1 := q0.out.below hC q0.out.lt
    have c1 := q1.one 0 rfl
    have c2 := q1.one 1 rfl
    go_simp) ?_
  simp only [Act.put, List.setIfInBounds_toArray, List.set_cons_succ, List.set_cons_zero]
  refine wpQuiet_val rfl (.pointer (some ⟨q, 0, none⟩)) (fun w' hC => by
    have hc := h3.out.after hC
    have c0 := hc.l0
    have q1 := q0.out.below hC q0.out.lt
    have c1 := q1.one 0 rfl
    have c2 := q1.one 1 rfl
    go_simp) ?_
  simp only [Act.put, List.setIfInBounds_toArray, List.set_cons_succ, List.set_cons_zero]
  refine wpQuiet_val rfl (.int .i64 z) (fun w' hC => by
    have hc := h3.out.after hC
    have c0 := hc.l0
    have q1 := q0.out.below hC q0.out.lt
    have c1 := q1.one 0 rfl
    have c2 := q1.one 1 rfl
    go_simp) ?_
  simp only [Act.put, List.setIfInBounds_toArray, List.set_cons_succ, List.set_cons_zero]
  refine wpQuiet_val rfl (.pointer (some ⟨q, 1, none⟩)) (fun w' hC => by
    have hc := h3.out.after hC
    have c0 := hc.l0
    have q1 := q0.out.below hC q0.out.lt
    have c1 := q1.one 0 rfl
    have c2 := q1.one 1 rfl
    go_simp) ?_
  simp only [Act.put, List.setIfInBounds_toArray, List.set_cons_succ, List.set_cons_zero]
  refine wpQuiet_val rfl (.int .i64 y) (fun w' hC => by
    have hc := h3.out.after hC
    have c0 := hc.l0
    have q1 := q0.out.below hC q0.out.lt
    have c1 := q1.one 0 rfl
    have c2 := q1.one 1 rfl
    go_simp) ?_
  simp only [Act.put, List.setIfInBounds_toArray, List.set_cons_succ, List.set_cons_zero]
  (go_big_quiet_want; go_big_quiet_op; apply Exists.intro; refine ⟨fun w' hC => (R.out w' hC).mono fun e w'' h => ⟨h.1, hC.trans (h.2.mono hC.size)⟩, ?_⟩; go_big_quiet_on)
  refine wpQuiet_val rfl (.tuple #[.string ⟨#[]⟩, .bool false, .int .i64 0]) (fun w' hC => by
    have hc := h3.out.after hC
    have c0 := hc.l0
    have q1 := q0.out.below hC q0.out.lt
    have c1 := q1.one 0 rfl
    have c2 := q1.one 1 rfl
    go_simp) ?_
  simp only [Act.put, List.setIfInBounds_toArray, List.set_cons_succ, List.set_cons_zero]
  refine wpQuiet_val rfl (.string ⟨#[]⟩) (fun w' hC => by
    have hc := h3.out.after hC
    have c0 := hc.l0
    have q1 := q0.out.below hC q0.out.lt
    have c1 := q1.one 0 rfl
    have c2 := q1.one 1 rfl
    go_simp) ?_
  simp only [Act.put, List.setIfInBounds_toArray, List.set_cons_succ, List.set_cons_zero]
  refine wpQuiet_val rfl (.bool false) (fun w' hC => by
    have hc := h3.out.after hC
    have c0 := hc.l0
    have q1 := q0.out.below hC q0.out.lt
    have c1 := q1.one 0 rfl
    have c2 := q1.one 1 rfl
    go_simp) ?_
  simp only [Act.put, List.setIfInBounds_toArray, List.set_cons_succ, List.set_cons_zero]
  refine wpQuiet_val rfl (.int .i64 0) (fun w' hC => by
    have hc := h3.out.after hC
    have c0 := hc.l0
    have q1 := q0.out.below hC q0.out.lt
    have c1 := q1.one 0 rfl
    have c2 := q1.one 1 rfl
    go_simp) ?_
  simp only [Act.put, List.setIfInBounds_toArray, List.set_cons_succ, List.set_cons_zero]
  refine wpQuiet_val rfl (.string ⟨#[]⟩) (fun w' hC => by
    have hc := h3.out.after hC
    have c0 := hc.l0
    have q1 := q0.out.below hC q0.out.lt
    have c1 := q1.one 0 rfl
    have c2 := q1.one 1 rfl
    go_simp) ?_
  simp only [Act.put, List.setIfInBounds_toArray, List.set_cons_succ, List.set_cons_zero]
  refine wpQuiet_val rfl (.bool false) (fun w' hC => by
    have hc := h3.out.after hC
    have c0 := hc.l0
    have q1 := q0.out.below hC q0.out.lt
    have c1 := q1.one 0 rfl
    have c2 := q1.one 1 rfl
    go_simp) ?_
  simp only [Act.put, List.setIfInBounds_toArray, List.set_cons_succ, List.set_cons_zero]
  refine wpQuiet_val rfl (.int .i64 0) (fun w' hC => by
    have hc := h3.out.after hC
    have c0 := hc.l0
    have q1 := q0.out.below hC q0.out.lt
    have c1 := q1.one 0 rfl
    have c2 := q1.one 1 rfl
    go_simp) ?_
  simp only [Act.put, List.setIfInBounds_toArray, List.set_cons_succ, List.set_cons_zero]
  refine wpQuiet_nil fun w4 hC => ?_
  have b4 : Below q w w4 := b0.trans (hC.mono (by have := b0.size; omega))
  have hqh := Lib.hid hq
  clear hq
  have p4 := Lib.hid (p0.out.below hC p0.out.lt)
  have k4 : Hid (KRow w4) := k3.out.below hC k3.out.1 hC.size
  clear R h3 hC hw3 q0 p0 k3 b0 hrd
  go_wp2_with (refine wpList_store_row rfl 41 _ _ rfl (q + 1) #[.int .u8 0, .int .u64 0, .string ⟨#[]⟩] rfl rfl 41 _ p4.out (size_frame _ rfl) rfl (by simp [Value.oneCell']) ?_)
  refine bodyPost_ret (v := .tuple #[.agg #[.int .u8 0, .int .u64 0, .string ⟨#[]⟩], .int .i64 3]) ?_ rfl ⟨rfl, by rw [hqh.out]; exact below_setRow' b4 (Nat.le_succ _) _⟩
  exact results_row_one Tryz.results11 _ _ (q + 1) 41 #[.int .u8 0, .int .u64 0, .string ⟨#[]⟩] (0, 0) _ rfl (p4.out.setRow _) Tryz.underlying41 rfl (size_frame _ rfl)

set_option maxHeartbeats 1000000 in
set_option maxRecDepth 8000 in
theorem lread_yes (B : Nat) (w : World) (lp : Nat) (L : Lay) (S : St) (hv : Value) (G : Sg) (h : Hid (Lg B w lp L S hv G)) (hk : Hid (KRow w)) (z y : Int) (s : ByteArray) (hs : s.size ≤ 100000) (hrd : Hid (readV L.n L.m S z y = #[.string s, .bool true, .int .i64 0])) :
    Calls Tryz.prog 11 #[.pointer (some ⟨lp, 0, none⟩), .agg #[.int .i64 z, .int .i64 y]] w fun e w' => e = .returned (.tuple #[gotV s.data.toList, .int .i64 (gotE s.data.toList)]) ∧ Below w.heap.size w w' := by
  have b0 : Below w.heap.size w (((w.alloc (.cells #[.int .i64 z, .int .i64 y] 34)).alloc (.cells #[.int .u8 0, .int .u64 0, .string ⟨#[]⟩] 41)).drew) := (((Below.refl _ w).alloc (Nat.le_refl _) _).alloc (by simp) _).drew
  have q0 : RowAt (((w.alloc (.cells #[.int .i64 z, .int .i64 y] 34)).alloc (.cells #[.int .u8 0, .int .u64 0, .string ⟨#[]⟩] 41)).drew) w.heap.size 34 #[.int .i64 z, .int .i64 y] := (RowAt.new _ _ _).alloc _
  have p0 : RowAt (((w.alloc (.cells #[.int .i64 z, .int .i64 y] 34)).alloc (.cells #[.int .u8 0, .int .u64 0, .string ⟨#[]⟩] 41)).drew) (w.heap.size + 1) 41 #[.int .u8 0, .int .u64 0, .string ⟨#[]⟩] := by
    have := RowAt.new (w.alloc (.cells #[.int .i64 z, .int .i64 y] 34)) 41 #[.int .u8 0, .int .u64 0, .string ⟨#[]⟩]
    rw [World.size_alloc] at this
    exact this
  have h3 := Lib.hid (h.out.after b0)
  have k3 : Hid (KRow (((w.alloc (.cells #[.int .i64 z, .int .i64 y] 34)).alloc (.cells #[.int .u8 0, .int .u64 0, .string ⟨#[]⟩] 41)).drew)) := hk.out.below b0 hk.out.1 b0.size
  replace q0 := Lib.hid q0
  replace p0 := Lib.hid p0
  go_enter Tryz.func11, Tryz.ntmps11
  go_wp2_with fail
  generalize hw3 : ((w.alloc (.cells #[.int .i64 z, .int .i64 y] 34)).alloc (.cells #[.int .u8 0, .int .u64 0, .string ⟨#[]⟩] 41)).drew = w3 at *
  generalize hq : w.heap.size = q at *
  have R := Lib.hid (fun w' (hC : Below w3.heap.size w3 w') => read_any B w' L S hv (Lib.hid (h3.out.after hC).ch) z y)
  rw [hrd.out] at R
  refine wp_region_class (fun w' => Below w3.heap.size w3 w') (by kernel_rfl) (by kernel_rfl) (by rw [hw3]; exact Below.refl _ _) ?_
  refine wpQuiet_val rfl (.pointer (some ⟨lp, 0, none⟩)) (fun w' hC => by
    have hc := h3.out.after hC
    have c0 := hc.l0
    have q1 := q0.out.below hC q0.out.lt
    have c1 := q1.one 0 rfl
    have c2 := q1.one 1 rfl
    go_simp) ?_
  simp only [Act.put, List.setIfInBounds_toArray, List.set_cons_succ, List.set_cons_zero]
  refine wpQuiet_val rfl (.pointer (some ⟨lp, 0, none⟩)) (fun w' hC => by
    have hc := h3.out.after hC
    have c0 := hc.l0
    have q1 := q0.out.below hC q0.out.lt
    have c1 := q1.one 0 rfl
    have c2 := q1.one 1 rfl
    go_simp) ?_
  simp only [Act.put, List.setIfInBounds_toArray, List.set_cons_succ, List.set_cons_zero]
  refine wpQuiet_val rfl (.pointer (some ⟨lp, 0, none⟩)) (fun w' hC => by
    have hc := h3.out.after hC
    have c0 := hc.l0
    have q1 := q0.out.below hC q0.out.lt
    have c1 := q1.one 0 rfl
    have c2 := q1.one 1 rfl
    go_simp) ?_
  simp only [Act.put, List.setIfInBounds_toArray, List.set_cons_succ, List.set_cons_zero]
  refine wpQuiet_val rfl (.pointer (some ⟨L.cp, 0, none⟩)) (fun w' hC => by
    have hc := h3.out.after hC
    have c0 := hc.l0
    have q1 := q0.out.below hC q0.out.lt
    have c1 := q1.one 0 rfl
    have c2 := q1.one 1 rfl
    go_simp) ?_
  simp only [Act.put, List.setIfInBounds_toArray, List.set_cons_succ, List.set_cons_zero]
  refine wpQuiet_val rfl (.pointer (some ⟨q, 0, none⟩)) (fun w' hC => by
    have hc := h3.out.after hC
    have c0 := hc.l0
    have q1 := q0.out.below hC q0.out.lt
    have c1 := q1.one 0 rfl
    have c2 := q1.one 1 rfl
    go_simp) ?_
  simp only [Act.put, List.setIfInBounds_toArray, List.set_cons_succ, List.set_cons_zero]
  refine wpQuiet_val rfl (.int .i64 z) (fun w' hC => by
    have hc := h3.out.after hC
    have c0 := hc.l0
    have q1 := q0.out.below hC q0.out.lt
    have c1 := q1.one 0 rfl
    have c2 := q1.one 1 rfl
    go_simp) ?_
  simp only [Act.put, List.setIfInBounds_toArray, List.set_cons_succ, List.set_cons_zero]
  refine wpQuiet_val rfl (.pointer (some ⟨q, 1, none⟩)) (fun w' hC => by
    have hc := h3.out.after hC
    have c0 := hc.l0
    have q1 := q0.out.below hC q0.out.lt
    have c1 := q1.one 0 rfl
    have c2 := q1.one 1 rfl
    go_simp) ?_
  simp only [Act.put, List.setIfInBounds_toArray, List.set_cons_succ, List.set_cons_zero]
  refine wpQuiet_val rfl (.int .i64 y) (fun w' hC => by
    have hc := h3.out.after hC
    have c0 := hc.l0
    have q1 := q0.out.below hC q0.out.lt
    have c1 := q1.one 0 rfl
    have c2 := q1.one 1 rfl
    go_simp) ?_
  simp only [Act.put, List.setIfInBounds_toArray, List.set_cons_succ, List.set_cons_zero]
  (go_big_quiet_want; go_big_quiet_op; apply Exists.intro; refine ⟨fun w' hC => (R.out w' hC).mono fun e w'' h => ⟨h.1, hC.trans (h.2.mono hC.size)⟩, ?_⟩; go_big_quiet_on)
  refine wpQuiet_val rfl (.tuple #[.string s, .bool true, .int .i64 0]) (fun w' hC => by
    have hc := h3.out.after hC
    have c0 := hc.l0
    have q1 := q0.out.below hC q0.out.lt
    have c1 := q1.one 0 rfl
    have c2 := q1.one 1 rfl
    go_simp) ?_
  simp only [Act.put, List.setIfInBounds_toArray, List.set_cons_succ, List.set_cons_zero]
  refine wpQuiet_val rfl (.string s) (fun w' hC => by
    have hc := h3.out.after hC
    have c0 := hc.l0
    have q1 := q0.out.below hC q0.out.lt
    have c1 := q1.one 0 rfl
    have c2 := q1.one 1 rfl
    go_simp) ?_
  simp only [Act.put, List.setIfInBounds_toArray, List.set_cons_succ, List.set_cons_zero]
  refine wpQuiet_val rfl (.bool true) (fun w' hC => by
    have hc := h3.out.after hC
    have c0 := hc.l0
    have q1 := q0.out.below hC q0.out.lt
    have c1 := q1.one 0 rfl
    have c2 := q1.one 1 rfl
    go_simp) ?_
  simp only [Act.put, List.setIfInBounds_toArray, List.set_cons_succ, List.set_cons_zero]
  refine wpQuiet_val rfl (.int .i64 0) (fun w' hC => by
    have hc := h3.out.after hC
    have c0 := hc.l0
    have q1 := q0.out.below hC q0.out.lt
    have c1 := q1.one 0 rfl
    have c2 := q1.one 1 rfl
    go_simp) ?_
  simp only [Act.put, List.setIfInBounds_toArray, List.set_cons_succ, List.set_cons_zero]
  refine wpQuiet_val rfl (.string s) (fun w' hC => by
    have hc := h3.out.after hC
    have c0 := hc.l0
    have q1 := q0.out.below hC q0.out.lt
    have c1 := q1.one 0 rfl
    have c2 := q1.one 1 rfl
    go_simp) ?_
  simp only [Act.put, List.setIfInBounds_toArray, List.set_cons_succ, List.set_cons_zero]
  refine wpQuiet_val rfl (.bool true) (fun w' hC => by
    have hc := h3.out.after hC
    have c0 := hc.l0
    have q1 := q0.out.below hC q0.out.lt
    have c1 := q1.one 0 rfl
    have c2 := q1.one 1 rfl
    go_simp) ?_
  simp only [Act.put, List.setIfInBounds_toArray, List.set_cons_succ, List.set_cons_zero]
  refine wpQuiet_val rfl (.int .i64 0) (fun w' hC => by
    have hc := h3.out.after hC
    have c0 := hc.l0
    have q1 := q0.out.below hC q0.out.lt
    have c1 := q1.one 0 rfl
    have c2 := q1.one 1 rfl
    go_simp) ?_
  simp only [Act.put, List.setIfInBounds_toArray, List.set_cons_succ, List.set_cons_zero]
  refine wpQuiet_nil fun w4 hC => ?_
  have b4 : Below q w w4 := b0.trans (hC.mono (by have := b0.size; omega))
  have hqh := Lib.hid hq
  clear hq
  have p4 := Lib.hid (p0.out.below hC p0.out.lt)
  have k4 : Hid (KRow w4) := k3.out.below hC k3.out.1 hC.size
  clear R h3 hC hw3 q0 p0 k3 b0 hrd
  have GE := Lib.hid (get_any s hs w4 k4)
  clear k4
  go_wp2_with fail
  refine GE.out.mono ?_
  rintro e w5 ⟨rfl, b5⟩
  have b6 : Below q w w5 := b4.trans (b5.mono (by have := b4.size; have := hqh.out; omega))
  have p5 := Lib.hid (p4.out.below b5 p4.out.lt)
  clear GE b5 p4 b4
  obtain ⟨f1, f2, f3, hf⟩ := gotV_agg s.data.toList
  have hf' := Lib.hid hf
  rw [hf]
  have hF : Hid (#[f1, f2, f3].toList.all (·.oneCell') = true) := gotV_one hf
  obtain ⟨ge, hge⟩ : ∃ ge, Hid (gotE s.data.toList = ge) := ⟨_, rfl⟩
  rw [hge.out]
  clear hf
  go_wp2_with (refine wpList_store_row rfl 41 _ _ rfl (q + 1) #[f1, f2, f3] rfl rfl 41 _ p5.out (size_frame _ rfl) rfl (by simpa using hF.out) ?_)
  refine bodyPost_ret (v := .tuple #[.agg #[f1, f2, f3], .int .i64 ge]) ?_ rfl ⟨by rw [hf'.out, hge.out], by rw [hqh.out]; exact below_setRow' b6 (Nat.le_succ _) _⟩
  exact results_row_one Tryz.results11 _ _ (q + 1) 41 #[f1, f2, f3] (0, 0) _ rfl (p5.out.setRow _) Tryz.underlying41 rfl (size_frame _ rfl)

/-- What Read tells of the page y of segment z. -/
def rdV (n m : Nat) (S : St) (z y : Int) : Value := if (inB z n && inB y m) = true ∧ isB (S.page z.toNat y.toNat) = true then gotV (S.page z.toNat y.toNat).data.toList else .agg #[.int .u8 0, .int .u64 0, .string ⟨#[]⟩]
def rdE (n m : Nat) (S : St) (z y : Int) : Int := if (inB z n && inB y m) = false then 1 else if isB (S.page z.toNat y.toNat) = false then 3 else gotE (S.page z.toNat y.toNat).data.toList

theorem isB_nil {s : ByteArray} (h : isB s = false) : s = ⟨#[]⟩ := by
  unfold isB at h
  have h1 : s.toList = [] := by
    cases hl : s.toList with
    | nil => rfl
    | cons a l => rw [hl] at h; cases h
  rw [ByteArray.toList_eq] at h1
  cases s with
  | mk d =>
    have h2 : d.toList = [] := h1
    congr
    exact Array.toList_eq_nil_iff.1 h2

theorem lread_any (B : Nat) (w : World) (lp : Nat) (L : Lay) (S : St) (hv : Value) (G : Sg) (h : Hid (Lg B w lp L S hv G)) (hk : Hid (KRow w)) (z y : Int) :
    Calls Tryz.prog 11 #[.pointer (some ⟨lp, 0, none⟩), .agg #[.int .i64 z, .int .i64 y]] w fun e w' => e = .returned (.tuple #[rdV L.n L.m S z y, .int .i64 (rdE L.n L.m S z y)]) ∧ Below w.heap.size w w' := by
  unfold rdV rdE
  by_cases hin : (inB z L.n && inB y L.m) = false
  · rw [if_neg (by rw [hin]; simp), if_pos hin]
    exact lread_arg B w lp L S hv G h hk z y hin
  have hin' : (inB z L.n && inB y L.m) = true := by simpa using hin
  have hu : ¬ S.up = false := by rw [h.out.up]; decide
  rw [if_neg hin]
  by_cases hb : isB (S.page z.toNat y.toNat) = false
  · rw [if_neg (by rw [hb]; simp), if_pos hb]
    refine lread_none B w lp L S hv G h hk z y ?_
    unfold Hid readV
    rw [if_neg hu, if_neg hin, hb, isB_nil hb]
  · have hb' : isB (S.page z.toNat y.toNat) = true := by simpa using hb
    rw [if_pos ⟨hin', hb'⟩, if_neg hb]
    refine lread_yes B w lp L S hv G h hk z y _ (by have := h.out.wide z.toNat y.toNat; omega) ?_
    unfold Hid readV
    rw [if_neg hu, if_neg hin, hb']

end Go.Proofs.YtapebaoajknepaaGreatDoor
