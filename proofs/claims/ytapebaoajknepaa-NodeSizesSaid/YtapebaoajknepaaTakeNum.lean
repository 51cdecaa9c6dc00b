/-
  Contracts of the functions of package field that take numbers.
-/
import Derived.Test.YtapebaoajknepaaTakeOne
import Derived.Lib.Strings
namespace Go.Proofs.Ytapebaoajknepaa
open Go.RowKit

theorem or_step (a b j : Nat) (hj : j ≤ 7) (ha : a < 256 ^ j) (hb : b < 256) :
    bits BinOp.or IntKind.u64 (a : Int) (IntKind.u64.wrap (IntKind.u64.wrap (b : Int) * 2 ^ (8 * j))) = ((a + 256 ^ j * b : Nat) : Int) := by
  have hp : 256 ^ j ≤ 256 ^ 7 := Nat.pow_le_pow_right (by decide) hj
  have h7 : (256 : Nat) ^ 7 = 72057594037927936 := by decide
  have hbp : b * 256 ^ j ≤ 255 * 256 ^ 7 := Nat.mul_le_mul (by omega) hp
  have h0 : 0 ≤ b * 256 ^ j := Nat.zero_le _
  have e1 : IntKind.u64.wrap (b : Int) = (b : Int) := IntWalk.u64_in _ (by omega)
  have e2 : (b : Int) * 2 ^ (8 * j) = ((b * 256 ^ j : Nat) : Int) := by rw [pow2_8, Int.natCast_mul]
  have e3 : IntKind.u64.wrap ((b * 256 ^ j : Nat) : Int) = ((b * 256 ^ j : Nat) : Int) := IntWalk.u64_in _ ⟨by omega, by omega⟩
  rw [e1, e2, e3, u64_or_nat _ _ (by omega) (by omega)]
  congr 1
  have e4 : (256 : Nat) ^ j = 2 ^ (8 * j) := by rw [Nat.pow_mul]
  rw [e4] at ha ⊢
  rw [Nat.mul_comm b, Nat.or_comm, ← Nat.two_pow_add_eq_or_of_lt ha, Nat.add_comm]

/-- What the closure of TakeNumber leaves. -/
def KeptNum (base p q : Nat) (w : World) (a sh : Nat) (e : Ending) (w' : World) : Prop :=
  e = .returned (.tuple #[]) ∧ w'.heap[p]? = some (.cells #[.int .u64 (a : Int)] 24 (0, 0)) ∧ w'.heap[q]? = some (.cells #[.int .i64 (sh : Int)] 3 (0, 0)) ∧ Below base w w'

set_option maxHeartbeats 400000 in
theorem keepNum (base p q : Nat) (b a sh j : Nat) (w : World) (hsh : Hid (sh = 8 * j)) (hs2 : sh ≤ 56) (ha : Hid (a < 256 ^ j)) (hb : b < 256)
    (hp : w.heap[p]? = some (.cells #[.int .u64 (a : Int)] 24 (0, 0))) (hq : w.heap[q]? = some (.cells #[.int .i64 (sh : Int)] 3 (0, 0))) (hbp : base ≤ p) (hbq : base ≤ q) (hpq : p ≠ q) :
    Calls Try.prog 53 #[.int .u8 b, .pointer (some ⟨p, 0, none⟩), .pointer (some ⟨q, 0, none⟩)] w (KeptNum base p q w (a + 256 ^ j * b) (sh + 8)) := by
  have cp := cell_of_one hp
  have cq := cell_of_one hq
  have fp := free_of_one hp
  have fq := free_of_one hq
  have HP := Lib.hid hp
  have HQ := Lib.hid hq
  clear hp hq
  go_enter Try.func53, Try.ntmps53
  go_wp2
  go_region
  go_wp2
  go_end0
  have hj : j ≤ 7 := by have := hsh.out; omega
  have hstep := or_step a b j hj ha.out hb
  have e1 : IntKind.u64.wrap (b : Int) = (b : Int) := IntWalk.u64_in _ (by omega)
  rw [e1, ← hsh.out] at hstep
  rw [hstep]
  refine ⟨rfl, ?_, ?_, ?_⟩
  · show (((w.setCell _ _).setCell _ _)).heap[p]? = _
    rw [Below.heap_setCell _ _ _ _ (by simpa using hpq)]
    exact one_setCell HP.out
  · show (((w.setCell _ _).setCell _ _)).heap[q]? = _
    rw [one_setCell (v := .int .i64 (sh : Int)) (t := 3)]
    · rfl
    · rw [Below.heap_setCell _ _ _ _ (by simpa using hpq.symm)]
      exact HQ.out
  · exact (((Below.refl _ _).setCell hbp _).setCell hbq _).drew

/-- What takeEach over TakeNumber's closure leaves. -/
def EachNum (base p : Nat) (w : World) (a : Nat) (r : ByteArray) (e : Ending) (w' : World) : Prop :=
  e = .returned (.tuple #[.string r, .int .i64 0]) ∧ w'.heap[p]? = some (.cells #[.int .u64 (a : Int)] 24 (0, 0)) ∧ Below base w w'

set_option maxHeartbeats 400000 in
theorem eachNum_yes (base p q : Nat) (s : ByteArray) (k : Nat) (w : World) (hk8 : k ≤ 8) (hks : Hid (k ≤ s.data.toList.length))
    (hp : w.heap[p]? = some (.cells #[.int .u64 0] 24 (0, 0))) (hq : w.heap[q]? = some (.cells #[.int .i64 0] 3 (0, 0))) (hbp : base ≤ p) (hbq : base ≤ q) (hpq : p ≠ q) :
    Calls Try.prog 50 #[.string s, .int .i64 (k : Int), .func (.func 51) #[] #[], .func (.func 53) #[] #[.pointer (some ⟨p, 0, none⟩), .pointer (some ⟨q, 0, none⟩)]] w
      (EachNum base p w (numV (s.data.toList.take k)) (bs (s.data.toList.drop k))) := by
  have HP := Lib.hid hp
  have HQ := Lib.hid hq
  clear hp hq
  go_enter Try.func50, Try.ntmps50
  go_wp2
  go_loopw [0, 14] (fun t i wr => ∃ (j a sh : Nat) (tk : List UInt8) (r : ByteArray), j ≤ k ∧ i = .int .i64 j ∧ t = .string r ∧ Hid (s.data.toList = tk ++ r.data.toList) ∧ Hid (tk.length = j) ∧ Hid (sh = 8 * j) ∧ Hid (a = numV tk) ∧
      Hid (wr.heap[p]? = some (.cells #[.int .u64 (a : Int)] 24 (0, 0))) ∧ Hid (wr.heap[q]? = some (.cells #[.int .i64 (sh : Int)] 3 (0, 0))) ∧ Below base w wr)
    (fun _ i _ => k - (intOf i).toNat)
  case atStart => exact ⟨0, 0, 0, [], s, by omega, rfl, rfl, rfl, rfl, rfl, rfl, HP, HQ, Below.refl _ _⟩
  case round =>
    obtain ⟨j, a, sh, tk, r, hj, rfl, rfl, hs, htk, hsh, ha, hp, hq, hbl⟩ := hrel
    by_cases hlt : j < k
    · obtain ⟨b, r1, hr1⟩ := list_more hs.out htk.out hlt hks.out
      have hb : Hid (r.data.toList = b :: (bs r1).data.toList) := hr1
      have hs1 : Hid (s.data.toList = (tk ++ [b]) ++ (bs r1).data.toList) := by unfold Hid; rw [hs.out, hr1]; simp [bs]
      have htk1 : Hid ((tk ++ [b]).length = j + 1) := by unfold Hid; rw [← htk.out]; simp
      have haN : Hid (a < 256 ^ j) := by unfold Hid; rw [ha.out, ← htk.out]; exact numV_lt tk
      have ha1 : Hid (a + 256 ^ j * b.toNat = numV (tk ++ [b])) := by unfold Hid; rw [numV_snoc, ha.out, htk.out]
      have hs56 : sh ≤ 56 := by have := hsh.out; omega
      have hsh1 : Hid (sh + 8 = 8 * (j + 1)) := by unfold Hid; rw [hsh.out]; omega
      have hb256 : b.toNat < 256 := b.toNat_lt
      clear hr1
      go_wp2_with fail
      refine (takeByte_yes r (bs r1) b hb _).mono ?_
      rintro e w' ⟨rfl, n, rfl⟩
      go_wp2_with fail
      refine (keepNum base p q b.toNat a sh j (wr.drewN n) hsh hs56 haN hb256 hp.out hq.out hbp hbq hpq).mono ?_
      rintro e w' ⟨rfl, hp', hq', hbl'⟩
      have hp2 := Lib.hid hp'; clear hp'
      have hq2 := Lib.hid hq'; clear hq'
      have hbl2 : Below base w w' := (below_drewN hbl n).trans hbl'
      clear hbl'
      go_wp2
      go_roundw
      case rel => exact ⟨j + 1, _, _, tk ++ [b], bs r1, by omega, by go_num, rfl, hs1, htk1, hsh1, ha1, hp2, hq2, hbl2⟩
      case measure => simp [intOf]; omega
    · have : j = k := by omega
      subst this
      have E := list_end hs.out htk.out
      have E1 := Lib.hid E.1
      have E2 := Lib.hid E.2
      clear E
      go_wp2
      go_ret2
      refine ⟨?_, ?_, hbl⟩
      · rw [← E2.out, bs_data]; rfl
      · rw [← E1.out, ← ha.out]; exact hp.out

set_option maxHeartbeats 400000 in
theorem eachNum_no (base p q : Nat) (s : ByteArray) (k : Nat) (w : World) (hk8 : k ≤ 8) (hks : Hid (s.data.toList.length < k))
    (hp : w.heap[p]? = some (.cells #[.int .u64 0] 24 (0, 0))) (hq : w.heap[q]? = some (.cells #[.int .i64 0] 3 (0, 0))) (hbp : base ≤ p) (hbq : base ≤ q) (hpq : p ≠ q) :
    Calls Try.prog 50 #[.string s, .int .i64 (k : Int), .func (.func 51) #[] #[], .func (.func 53) #[] #[.pointer (some ⟨p, 0, none⟩), .pointer (some ⟨q, 0, none⟩)]] w
      (EachShort base w) := by
  have HP := Lib.hid hp
  have HQ := Lib.hid hq
  clear hp hq
  go_enter Try.func50, Try.ntmps50
  go_wp2
  go_loopw [0, 14] (fun t i wr => ∃ (j a sh : Nat) (tk : List UInt8) (r : ByteArray), j < k ∧ i = .int .i64 j ∧ t = .string r ∧ Hid (s.data.toList = tk ++ r.data.toList) ∧ Hid (tk.length = j) ∧ Hid (sh = 8 * j) ∧ Hid (a = numV tk) ∧
      Hid (wr.heap[p]? = some (.cells #[.int .u64 (a : Int)] 24 (0, 0))) ∧ Hid (wr.heap[q]? = some (.cells #[.int .i64 (sh : Int)] 3 (0, 0))) ∧ Below base w wr)
    (fun _ i _ => k - (intOf i).toNat)
  case atStart => exact ⟨0, 0, 0, [], s, by have := hks.out; omega, rfl, rfl, rfl, rfl, rfl, rfl, HP, HQ, Below.refl _ _⟩
  case round =>
    obtain ⟨j, a, sh, tk, r, hlt, rfl, rfl, hs, htk, hsh, ha, hp, hq, hbl⟩ := hrel
    rcases hr1 : r.data.toList with _ | ⟨b, r1⟩
    · have h0 : Hid (r.size = 0) := by unfold Hid; rw [← ba_size, hr1]; rfl
      clear hr1
      go_wp2_with fail
      refine (takeByte_no r h0.out _).mono ?_
      rintro e w' ⟨rfl, rfl⟩
      go_wp2
      go_ret2
      exact ⟨rfl, hbl⟩
    · have hb : Hid (r.data.toList = b :: (bs r1).data.toList) := hr1
      have hs1 : Hid (s.data.toList = (tk ++ [b]) ++ (bs r1).data.toList) := by unfold Hid; rw [hs.out, hr1]; simp [bs]
      have htk1 : Hid ((tk ++ [b]).length = j + 1) := by unfold Hid; rw [← htk.out]; simp
      have haN : Hid (a < 256 ^ j) := by unfold Hid; rw [ha.out, ← htk.out]; exact numV_lt tk
      have ha1 : Hid (a + 256 ^ j * b.toNat = numV (tk ++ [b])) := by unfold Hid; rw [numV_snoc, ha.out, htk.out]
      have hs56 : sh ≤ 56 := by have := hsh.out; omega
      have hsh1 : Hid (sh + 8 = 8 * (j + 1)) := by unfold Hid; rw [hsh.out]; omega
      have hb256 : b.toNat < 256 := b.toNat_lt
      have hj1 : j + 1 < k := by
        have h1 := hks.out
        have h2 := congrArg List.length hs1.out
        rw [List.length_append, htk1.out] at h2
        omega
      clear hr1
      go_wp2_with fail
      refine (takeByte_yes r (bs r1) b hb _).mono ?_
      rintro e w' ⟨rfl, n, rfl⟩
      go_wp2_with fail
      refine (keepNum base p q b.toNat a sh j (wr.drewN n) hsh hs56 haN hb256 hp.out hq.out hbp hbq hpq).mono ?_
      rintro e w' ⟨rfl, hp', hq', hbl'⟩
      have hp2 := Lib.hid hp'; clear hp'
      have hq2 := Lib.hid hq'; clear hq'
      have hbl2 : Below base w w' := (below_drewN hbl n).trans hbl'
      clear hbl'
      go_wp2
      go_roundw
      case rel => exact ⟨j + 1, _, _, tk ++ [b], bs r1, hj1, by go_num, rfl, hs1, htk1, hsh1, ha1, hp2, hq2, hbl2⟩
      case measure => simp [intOf]; omega

set_option maxHeartbeats 400000 in
theorem takeNumber_yes (s : ByteArray) (k : Int) (h1 : 1 ≤ k) (h2 : k ≤ 8) (hks : Hid (k.toNat ≤ s.data.toList.length)) (w : World) :
    Calls Try.prog 49 #[.string s, .int .i64 k] w fun e w' => e = .returned (.tuple #[.int .u64 (numV (s.data.toList.take k.toNat) : Int), .string (bs (s.data.toList.drop k.toNat)), .int .i64 0]) ∧ Below w.heap.size w w' := by
  obtain ⟨k, rfl⟩ := Int.eq_ofNat_of_zero_le (show 0 ≤ k by omega)
  simp only [Int.toNat_natCast] at hks ⊢
  go_enter Try.func49, Try.ntmps49
  go_wp2_with fail
  refine (isWidth_yes k h1 h2 _).mono ?_
  rintro e w' ⟨rfl, rfl⟩
  go_wp2_with fail
  refine (eachNum_yes w.heap.size w.heap.size (w.heap.size + 1) s k _ (by omega) hks ?hp ?hq (Nat.le_refl _) (by omega) (by omega)).mono ?_
  case hp => exact (Below.heap_alloc _ _ _ (by simp)).trans (heap_alloc_new w _)
  case hq => exact heap_new2 w _ _
  rintro e w1 ⟨rfl, hp, hbl⟩
  have hc := cell_of_one hp
  clear hp
  have hb2 : Below w.heap.size w w1 := (((Below.refl _ _).alloc (Nat.le_refl _) _).alloc (by simp) _).trans hbl
  clear hbl
  go_wp2
  go_ret3
  exact ⟨rfl, hb2⟩

set_option maxHeartbeats 400000 in
theorem takeNumber_short (s : ByteArray) (k : Int) (h1 : 1 ≤ k) (h2 : k ≤ 8) (hks : Hid (s.data.toList.length < k.toNat)) (w : World) :
    Calls Try.prog 49 #[.string s, .int .i64 k] w fun e w' => e = .returned (.tuple #[.int .u64 0, .string (bs []), .int .i64 10]) ∧ Below w.heap.size w w' := by
  obtain ⟨k, rfl⟩ := Int.eq_ofNat_of_zero_le (show 0 ≤ k by omega)
  simp only [Int.toNat_natCast] at hks ⊢
  go_enter Try.func49, Try.ntmps49
  go_wp2_with fail
  refine (isWidth_yes k h1 h2 _).mono ?_
  rintro e w' ⟨rfl, rfl⟩
  go_wp2_with fail
  refine (eachNum_no w.heap.size w.heap.size (w.heap.size + 1) s k _ (by omega) hks ?hp ?hq (Nat.le_refl _) (by omega) (by omega)).mono ?_
  case hp => exact (Below.heap_alloc _ _ _ (by simp)).trans (heap_alloc_new w _)
  case hq => exact heap_new2 w _ _
  rintro e w1 ⟨rfl, hbl⟩
  have hb2 : Below w.heap.size w w1 := (((Below.refl _ _).alloc (Nat.le_refl _) _).alloc (by simp) _).trans hbl
  clear hbl
  go_wp2
  go_ret3
  exact ⟨rfl, hb2⟩

set_option maxHeartbeats 400000 in
theorem takeNumber_arg (s : ByteArray) (k : Int) (h : k < 1 ∨ 8 < k) (w : World) :
    Calls Try.prog 49 #[.string s, .int .i64 k] w fun e w' => e = .returned (.tuple #[.int .u64 0, .string (bs []), .int .i64 1]) ∧ Below w.heap.size w w' := by
  have H := Lib.hid h; clear h
  go_enter Try.func49, Try.ntmps49
  go_wp2_with fail
  refine (isWidth_no k H.out _).mono ?_
  rintro e w' ⟨rfl, rfl⟩
  go_wp2
  go_ret3
  exact ⟨rfl, Below.refl _ _⟩

/-- TakeNumber's answers: the number, what is behind it, the error. -/
def tnN (s : ByteArray) (k : Int) : Int := if k < 1 ∨ 8 < k then 0 else if s.data.toList.length < k.toNat then 0 else numV (s.data.toList.take k.toNat)
def tnR (s : ByteArray) (k : Int) : ByteArray := if k < 1 ∨ 8 < k then bs [] else if s.data.toList.length < k.toNat then bs [] else bs (s.data.toList.drop k.toNat)
def tnE (s : ByteArray) (k : Int) : Int := if k < 1 ∨ 8 < k then 1 else if s.data.toList.length < k.toNat then 10 else 0

theorem takeNumber_any (s : ByteArray) (k : Int) (w : World) :
    Calls Try.prog 49 #[.string s, .int .i64 k] w fun e w' => e = .returned (.tuple #[.int .u64 (tnN s k), .string (tnR s k), .int .i64 (tnE s k)]) ∧ Below w.heap.size w w' := by
  unfold tnN tnR tnE
  by_cases h : k < 1 ∨ 8 < k
  · rw [if_pos h, if_pos h, if_pos h]
    exact takeNumber_arg s k h w
  · rw [if_neg h, if_neg h, if_neg h]
    by_cases h2 : s.data.toList.length < k.toNat
    · rw [if_pos h2, if_pos h2, if_pos h2]
      exact takeNumber_short s k (by omega) (by omega) h2 w
    · rw [if_neg h2, if_neg h2, if_neg h2]
      exact takeNumber_yes s k (by omega) (by omega) (Nat.le_of_not_lt h2) w

end Go.Proofs.Ytapebaoajknepaa
