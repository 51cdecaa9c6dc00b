/-
  Texts 6 of 6, merged.
-/
import Derived.Test.YtacekpjkgkkekaaDoorAll5
import Derived.Lib.Strings
import Derived.BigQuiet
/-
  Contract: Seal.
-/
namespace Go.Proofs.YtacekpjkgkkekaaDoor
open Go.RowKit

/-- What layer 6 calls, as contracts in all worlds that have the numbers K. -/
theorem keyHide (k : Nat → Nat) (hkb : Hid (Bytes k)) (p : Nat) (w : World) (hk : KRow w) (hr : RowAt w p 23 (rowOf 16 (w8 k))) :
    Calls Tryd.prog 19 #[.string ⟨#[104, 105, 100, 101]⟩, .pointer (some ⟨p, 0, none⟩)] w fun e w' => e = .returned (.agg (rowOf 16 (w8 (hkN k)))) ∧ Below w.heap.size w w' :=
  keyFn_any k hkb hideL (by decide) p w hk hr

theorem keyTag (k : Nat → Nat) (hkb : Hid (Bytes k)) (p : Nat) (w : World) (hk : KRow w) (hr : RowAt w p 23 (rowOf 16 (w8 k))) :
    Calls Tryd.prog 19 #[.string ⟨#[116, 97, 103]⟩, .pointer (some ⟨p, 0, none⟩)] w fun e w' => e = .returned (.agg (rowOf 16 (w8 (tkN k)))) ∧ Below w.heap.size w w' :=
  keyFn_any k hkb tagL (by decide) p w hk hr

theorem number8 (n : Nat) (h : n < 18446744073709551616) (w : World) :
    Calls Tryd.prog 11 #[.int .u64 (n : Int), .int .i64 8] w fun e w' => e = .returned (.tuple #[.string (bs (numB 8 n)), .int .i64 0]) ∧ Below w.heap.size w w' := by
  have := number_yes (n : Int) 8 (by omega) (by unfold Hid; omega) (by decide) (by decide) (fits_8 _ (by omega)) w
  exact this

theorem seal_no (k : Nat → Nat) (nonce kind : Nat) (s : ByteArray) (hs : 1000 < s.size) (w : World) :
    Calls Tryd.prog 6 #[.agg (rowOf 16 (w8 k)), .int .u64 (nonce : Int), .int .u8 (kind : Int), .string s] w fun e w' => e = .returned (.string (bs [])) ∧ Below w.heap.size w w' := by
  have hz : (1000 : Int) < (s.size : Int) := by omega
  go_enter Tryd.func6, Tryd.ntmps6
  go_wp2
  go_ret
  exact ⟨rfl, (Below.refl _ _).alloc (Nat.le_refl _) _⟩

set_option maxHeartbeats 1000000 in
set_option maxRecDepth 8000 in
theorem seal_yes (k : Nat → Nat) (hkb : Hid (Bytes k)) (nonce : Nat) (hn : Hid (nonce < 18446744073709551616)) (kind : Nat) (hkd : Hid (kind < 256)) (s : ByteArray) (hs : s.size ≤ 1000) (w : World) (hk : Hid (KRow w)) :
    Calls Tryd.prog 6 #[.agg (rowOf 16 (w8 k)), .int .u64 (nonce : Int), .int .u8 (kind : Int), .string s] w fun e w' => e = .returned (.string (sealS k nonce kind s)) ∧ Below w.heap.size w w' := by
  have r0 : Hid (RowAt (w.alloc (.cells (rowOf 16 (w8 k)) 23)) w.heap.size 23 (rowOf 16 (w8 k))) := RowAt.new _ _ _
  have b0 : Below w.heap.size w (w.alloc (.cells (rowOf 16 (w8 k)) 23)) := (Below.refl _ _).alloc (Nat.le_refl _) _
  have hz : ¬ (1000 : Int) < (s.size : Int) := by omega
  have KH := Lib.hid (keyHide k hkb)
  have KT := Lib.hid (keyTag k hkb)
  have NU := Lib.hid (number8 nonce hn.out)
  have CR : Hid (∀ w', Calls Tryd.prog 12 #[.agg (rowOf 16 (w8 (hkN k))), .int .u64 (nonce : Int), .string s] w' fun e w'' => e = .returned (.string (hideS (hkN k) nonce s)) ∧ Below w'.heap.size w' w'') :=
    fun w' => crypt_yes (hkN k) (hkN_bytes k) nonce hn s (by omega) w'
  have TG : Hid (∀ w', KRow w' → Calls Tryd.prog 13 #[.agg (rowOf 16 (w8 (tkN k))), .int .u8 (kind : Int), .string (bs (numB 8 nonce) ++ hideS (hkN k) nonce s)] w' fun e w'' => e = .returned (.string (tagS (tkN k) kind (aheadS k nonce s))) ∧ Below w'.heap.size w' w'') :=
    fun w' h => tagOf_any (tkN k) (tkN_bytes k) kind hkd (aheadS k nonce s) (by rw [aheadS_size]; omega) w' h
  have E : Hid (sealS k nonce kind s = (bs (numB 8 nonce) ++ hideS (hkN k) nonce s) ++ tagS (tkN k) kind (aheadS k nonce s)) := rfl
  have z1 : (bs (numB 8 nonce)).size = 8 := num8_size _
  have z2 : (hideS (hkN k) nonce s).size = s.size := hideS_size _ _ _
  have z3 : (tagS (tkN k) kind (aheadS k nonce s)).size = 16 := tagS_size _ _ _
  have z4 : (bs (numB 8 nonce) ++ hideS (hkN k) nonce s).size = s.size + 8 := by rw [ByteArray.size_append]; omega
  generalize tagS (tkN k) kind (aheadS k nonce s) = tg at *
  generalize hideS (hkN k) nonce s = hd at *
  generalize bs (numB 8 nonce) = nb at *
  generalize hkN k = hk1 at *
  generalize tkN k = tk1 at *
  generalize sealS k nonce kind s = sl at *
  clear hkb hn hkd
  go_enter Tryd.func6, Tryd.ntmps6
  go_wp2_with (refine wpList_load_row rfl 23 _ rfl w.heap.size rfl 23 (rowOf 16 (w8 k)) (0, 0) _ r0.out Tryd.underlying23 rfl (info_key _) ?_)
  generalize w.alloc (.cells (rowOf 16 (w8 k)) 23) = w1 at *
  refine (keysOf_any k w1).mono ?_
  rintro e w2 ⟨rfl, r2, hb2⟩
  have l2 := b0.size
  generalize w1.heap.size = p at *
  replace r2 := Lib.hid r2
  replace b0 := b0.trans (hb2.mono l2)
  clear hb2 r0
  unfold keyFn
  go_wp2_with fail
  refine (NU.out w2).mono ?_
  rintro e w3 ⟨rfl, hb3⟩
  replace r2 := Lib.hid (r2.out.below hb3 r2.out.lt)
  replace b0 := b0.trans (hb3.mono b0.size)
  clear hb3 NU
  go_wp2_with fail
  refine (KH.out p w3 (hk.out.below b0 hk.out.1 b0.size) r2.out).mono ?_
  rintro e w4 ⟨rfl, hb4⟩
  replace r2 := Lib.hid (r2.out.below hb4 r2.out.lt)
  replace b0 := b0.trans (hb4.mono b0.size)
  clear hb4 KH
  go_wp2_with fail
  refine (CR.out w4).mono ?_
  rintro e w5 ⟨rfl, hb5⟩
  replace r2 := Lib.hid (r2.out.below hb5 r2.out.lt)
  replace b0 := b0.trans (hb5.mono b0.size)
  clear hb5 CR
  go_wp2_with fail
  refine (KT.out p w5 (hk.out.below b0 hk.out.1 b0.size) r2.out).mono ?_
  rintro e w6 ⟨rfl, hb6⟩
  replace b0 := b0.trans (hb6.mono b0.size)
  clear hb6 KT r2
  go_wp2_with fail
  refine (TG.out w6 (hk.out.below b0 hk.out.1 b0.size)).mono ?_
  rintro e w7 ⟨rfl, hb7⟩
  replace b0 := b0.trans (hb7.mono b0.size)
  clear hb7 TG
  go_wp2
  go_ret
  exact ⟨by rw [E.out]; rfl, b0⟩

end Go.Proofs.YtacekpjkgkkekaaDoor
/-
  Contract: Same.
-/
namespace Go.Proofs.YtacekpjkgkkekaaDoor
open Go.RowKit

/-- Are two texts the same? As the walk tells it. -/
theorem same_any (a b : ByteArray) (w : World) :
    Calls Tryd.prog 14 #[.string a, .string b] w fun e w' => e = .returned (.bool (a.toList == b.toList)) ∧ w' = w := by
  go_enter Tryd.func14, Tryd.ntmps14
  go_wp2
  go_ret
  exact ⟨rfl, rfl⟩

end Go.Proofs.YtacekpjkgkkekaaDoor
/-
  Contracts of the functions of package field that take numbers.
-/
namespace Go.Proofs.YtacekpjkgkkekaaDoor
open Go.RowKit

theorem or_step (a b j : Nat) (hj : j ≤ 7) (ha : a < 256 ^ j) (hb : b < 256) :
    bits BinOp.or IntKind.u64 (a : Int) (IntKind.u64.wrap (IntKind.u64.wrap (b : Int) * 2 ^ (8 * j))) = ((a + 256 ^ j * b : Nat) : Int) := by
  have hp : 256 ^ j ≤ 256 ^ 7 := Nat.pow_le_pow_right (by decide) hj
  have h7 : (256 : Nat) ^ 7 = 72057594037927936 := by decide
  have hbp : b * 256 ^ j ≤ 255 * 256 ^ 7 := Nat.mul_le_mul (by omega) hp
  have h0 : 0 ≤ b * 256 ^ j := Nat.zero_le _
  have e1 : IntKind.u64.wrap (b : Int) = (b : Int) := IntWalk.u64_in _ (by omega)
  have e2 : (b : Int) * 2 ^ (8 * j) = ((b * 256 ^ j : Nat) : Int) := by rw [pow2_8, Int.natCast_mul]
  have e3 : IntKind.u64.wrap ((b * 256 ^ j : Nat) : Int) = ((b * 256 ^ j : Nat) : Int) := IntWalk.u64_in _ ⟨by omega, by omega⟩
  rw [e1, e2, e3, u64_or_nat _ _ (by omega) (by omega)]
  congr 1
  have e4 : (256 : Nat) ^ j = 2 ^ (8 * j) := by rw [Nat.pow_mul]
  rw [e4] at ha ⊢
  rw [Nat.mul_comm b, Nat.or_comm, ← Nat.two_pow_add_eq_or_of_lt ha, Nat.add_comm]

/-- What the closure of TakeNumber leaves. -/
def KeptNum (base p q : Nat) (w : World) (a sh : Nat) (e : Ending) (w' : World) : Prop :=
  e = .returned (.tuple #[]) ∧ w'.heap[p]? = some (.cells #[.int .u64 (a : Int)] 24 (0, 0)) ∧ w'.heap[q]? = some (.cells #[.int .i64 (sh : Int)] 3 (0, 0)) ∧ Below base w w'

set_option maxHeartbeats 400000 in
theorem keepNum (base p q : Nat) (b a sh j : Nat) (w : World) (hsh : Hid (sh = 8 * j)) (hs2 : sh ≤ 56) (ha : Hid (a < 256 ^ j)) (hb : b < 256)
    (hp : w.heap[p]? = some (.cells #[.int .u64 (a : Int)] 24 (0, 0))) (hq : w.heap[q]? = some (.cells #[.int .i64 (sh : Int)] 3 (0, 0))) (hbp : base ≤ p) (hbq : base ≤ q) (hpq : p ≠ q) :
    Calls Tryd.prog 28 #[.int .u8 b, .pointer (some ⟨p, 0, none⟩), .pointer (some ⟨q, 0, none⟩)] w (KeptNum base p q w (a + 256 ^ j * b) (sh + 8)) := by
  have cp := cell_of_one hp
  have cq := cell_of_one hq
  have fp := free_of_one hp
  have fq := free_of_one hq
  have HP := Lib.hid hp
  have HQ := Lib.hid hq
  clear hp hq
  go_enter Tryd.func28, Tryd.ntmps28
  go_wp2
  go_region
  go_wp2
  go_end0
  have hj : j ≤ 7 := by have := hsh.out; omega
  have hstep := or_step a b j hj ha.out hb
  have e1 : IntKind.u64.wrap (b : Int) = (b : Int) := IntWalk.u64_in _ (by omega)
  rw [e1, ← hsh.out] at hstep
  rw [hstep]
  refine ⟨rfl, ?_, ?_, ?_⟩
  · show (((w.setCell _ _).setCell _ _)).heap[p]? = _
    rw [Below.heap_setCell _ _ _ _ (by simpa using hpq)]
    exact one_setCell HP.out
  · show (((w.setCell _ _).setCell _ _)).heap[q]? = _
    rw [one_setCell (v := .int .i64 (sh : Int)) (t := 3)]
    · rfl
    · rw [Below.heap_setCell _ _ _ _ (by simpa using hpq.symm)]
      exact HQ.out
  · exact (((Below.refl _ _).setCell hbp _).setCell hbq _).drew

/-- What takeEach over TakeNumber's closure leaves. -/
def EachNum (base p : Nat) (w : World) (a : Nat) (r : ByteArray) (e : Ending) (w' : World) : Prop :=
  e = .returned (.tuple #[.string r, .int .i64 0]) ∧ w'.heap[p]? = some (.cells #[.int .u64 (a : Int)] 24 (0, 0)) ∧ Below base w w'

set_option maxHeartbeats 400000 in
theorem eachNum_yes (base p q : Nat) (s : ByteArray) (k : Nat) (w : World) (hk8 : k ≤ 8) (hks : Hid (k ≤ s.data.toList.length))
    (hp : w.heap[p]? = some (.cells #[.int .u64 0] 24 (0, 0))) (hq : w.heap[q]? = some (.cells #[.int .i64 0] 3 (0, 0))) (hbp : base ≤ p) (hbq : base ≤ q) (hpq : p ≠ q) :
    Calls Tryd.prog 26 #[.string s, .int .i64 (k : Int), .func (.func 27) #[] #[], .func (.func 28) #[] #[.pointer (some ⟨p, 0, none⟩), .pointer (some ⟨q, 0, none⟩)]] w
      (EachNum base p w (numV (s.data.toList.take k)) (bs (s.data.toList.drop k))) := by
  have HP := Lib.hid hp
  have HQ := Lib.hid hq
  clear hp hq
  go_enter Tryd.func26, Tryd.ntmps26
  go_wp2
  go_loopw [0, 14] (fun t i wr => ∃ (j a sh : Nat) (tk : List UInt8) (r : ByteArray), j ≤ k ∧ i = .int .i64 j ∧ t = .string r ∧ Hid (s.data.toList = tk ++ r.data.toList) ∧ Hid (tk.length = j) ∧ Hid (sh = 8 * j) ∧ Hid (a = numV tk) ∧
      Hid (wr.heap[p]? = some (.cells #[.int .u64 (a : Int)] 24 (0, 0))) ∧ Hid (wr.heap[q]? = some (.cells #[.int .i64 (sh : Int)] 3 (0, 0))) ∧ Below base w wr)
    (fun _ i _ => k - (intOf i).toNat)
  case atStart => exact ⟨0, 0, 0, [], s, by omega, rfl, rfl, rfl, rfl, rfl, rfl, HP, HQ, Below.refl _ _⟩
  case round =>
    obtain ⟨j, a, sh, tk, r, hj, rfl, rfl, hs, htk, hsh, ha, hp, hq, hbl⟩ := hrel
    by_cases hlt : j < k
    · obtain ⟨b, r1, hr1⟩ := list_more hs.out htk.out hlt hks.out
      have hb : Hid (r.data.toList = b :: (bs r1).data.toList) := hr1
      have hs1 : Hid (s.data.toList = (tk ++ [b]) ++ (bs r1).data.toList) := by unfold Hid; rw [hs.out, hr1]; simp [bs]
      have htk1 : Hid ((tk ++ [b]).length = j + 1) := by unfold Hid; rw [← htk.out]; simp
      have haN : Hid (a < 256 ^ j) := by unfold Hid; rw [ha.out, ← htk.out]; exact numV_lt tk
      have ha1 : Hid (a + 256 ^ j * b.toNat = numV (tk ++ [b])) := by unfold Hid; rw [numV_snoc, ha.out, htk.out]
      have hs56 : sh ≤ 56 := by have := hsh.out; omega
      have hsh1 : Hid (sh + 8 = 8 * (j + 1)) := by unfold Hid; rw [hsh.out]; omega
      have hb256 : b.toNat < 256 := b.toNat_lt
      clear hr1
      go_wp2_with fail
      refine (takeByte_yes r (bs r1) b hb _).mono ?_
      rintro e w' ⟨rfl, n, rfl⟩
      go_wp2_with fail
      refine (keepNum base p q b.toNat a sh j (wr.drewN n) hsh hs56 haN hb256 hp.out hq.out hbp hbq hpq).mono ?_
      rintro e w' ⟨rfl, hp', hq', hbl'⟩
      have hp2 := Lib.hid hp'; clear hp'
      have hq2 := Lib.hid hq'; clear hq'
      have hbl2 : Below base w w' := (below_drewN hbl n).trans hbl'
      clear hbl'
      go_wp2
      go_roundw
      case rel => exact ⟨j + 1, _, _, tk ++ [b], bs r1, by omega, by go_num, rfl, hs1, htk1, hsh1, ha1, hp2, hq2, hbl2⟩
      case measure => simp [intOf]; omega
    · have : j = k := by omega
      subst this
      have E := list_end hs.out htk.out
      have E1 := Lib.hid E.1
      have E2 := Lib.hid E.2
      clear E
      go_wp2
      go_ret2
      refine ⟨?_, ?_, hbl⟩
      · rw [← E2.out, bs_data]; rfl
      · rw [← E1.out, ← ha.out]; exact hp.out

set_option maxHeartbeats 400000 in
theorem eachNum_no (base p q : Nat) (s : ByteArray) (k : Nat) (w : World) (hk8 : k ≤ 8) (hks : Hid (s.data.toList.length < k))
    (hp : w.heap[p]? = some (.cells #[.int .u64 0] 24 (0, 0))) (hq : w.heap[q]? = some (.cells #[.int .i64 0] 3 (0, 0))) (hbp : base ≤ p) (hbq : base ≤ q) (hpq : p ≠ q) :
    Calls Tryd.prog 26 #[.string s, .int .i64 (k : Int), .func (.func 27) #[] #[], .func (.func 28) #[] #[.pointer (some ⟨p, 0, none⟩), .pointer (some ⟨q, 0, none⟩)]] w
      (EachShort base w) := by
  have HP := Lib.hid hp
  have HQ := Lib.hid hq
  clear hp hq
  go_enter Tryd.func26, Tryd.ntmps26
  go_wp2
  go_loopw [0, 14] (fun t i wr => ∃ (j a sh : Nat) (tk : List UInt8) (r : ByteArray), j < k ∧ i = .int .i64 j ∧ t = .string r ∧ Hid (s.data.toList = tk ++ r.data.toList) ∧ Hid (tk.length = j) ∧ Hid (sh = 8 * j) ∧ Hid (a = numV tk) ∧
      Hid (wr.heap[p]? = some (.cells #[.int .u64 (a : Int)] 24 (0, 0))) ∧ Hid (wr.heap[q]? = some (.cells #[.int .i64 (sh : Int)] 3 (0, 0))) ∧ Below base w wr)
    (fun _ i _ => k - (intOf i).toNat)
  case atStart => exact ⟨0, 0, 0, [], s, by have := hks.out; omega, rfl, rfl, rfl, rfl, rfl, rfl, HP, HQ, Below.refl _ _⟩
  case round =>
    obtain ⟨j, a, sh, tk, r, hlt, rfl, rfl, hs, htk, hsh, ha, hp, hq, hbl⟩ := hrel
    rcases hr1 : r.data.toList with _ | ⟨b, r1⟩
    · have h0 : Hid (r.size = 0) := by unfold Hid; rw [← ba_size, hr1]; rfl
      clear hr1
      go_wp2_with fail
      refine (takeByte_no r h0.out _).mono ?_
      rintro e w' ⟨rfl, rfl⟩
      go_wp2
      go_ret2
      exact ⟨rfl, hbl⟩
    · have hb : Hid (r.data.toList = b :: (bs r1).data.toList) := hr1
      have hs1 : Hid (s.data.toList = (tk ++ [b]) ++ (bs r1).data.toList) := by unfold Hid; rw [hs.out, hr1]; simp [bs]
      have htk1 : Hid ((tk ++ [b]).length = j + 1) := by unfold Hid; rw [← htk.out]; simp
      have haN : Hid (a < 256 ^ j) := by unfold Hid; rw [ha.out, ← htk.out]; exact numV_lt tk
      have ha1 : Hid (a + 256 ^ j * b.toNat = numV (tk ++ [b])) := by unfold Hid; rw [numV_snoc, ha.out, htk.out]
      have hs56 : sh ≤ 56 := by have := hsh.out; omega
      have hsh1 : Hid (sh + 8 = 8 * (j + 1)) := by unfold Hid; rw [hsh.out]; omega
      have hb256 : b.toNat < 256 := b.toNat_lt
      have hj1 : j + 1 < k := by
        have h1 := hks.out
        have h2 := congrArg List.length hs1.out
        rw [List.length_append, htk1.out] at h2
        omega
      clear hr1
      go_wp2_with fail
      refine (takeByte_yes r (bs r1) b hb _).mono ?_
      rintro e w' ⟨rfl, n, rfl⟩
      go_wp2_with fail
      refine (keepNum base p q b.toNat a sh j (wr.drewN n) hsh hs56 haN hb256 hp.out hq.out hbp hbq hpq).mono ?_
      rintro e w' ⟨rfl, hp', hq', hbl'⟩
      have hp2 := Lib.hid hp'; clear hp'
      have hq2 := Lib.hid hq'; clear hq'
      have hbl2 : Below base w w' := (below_drewN hbl n).trans hbl'
      clear hbl'
      go_wp2
      go_roundw
      case rel => exact ⟨j + 1, _, _, tk ++ [b], bs r1, hj1, by go_num, rfl, hs1, htk1, hsh1, ha1, hp2, hq2, hbl2⟩
      case measure => simp [intOf]; omega

set_option maxHeartbeats 400000 in
theorem takeNumber_yes (s : ByteArray) (k : Int) (h1 : 1 ≤ k) (h2 : k ≤ 8) (hks : Hid (k.toNat ≤ s.data.toList.length)) (w : World) :
    Calls Tryd.prog 15 #[.string s, .int .i64 k] w fun e w' => e = .returned (.tuple #[.int .u64 (numV (s.data.toList.take k.toNat) : Int), .string (bs (s.data.toList.drop k.toNat)), .int .i64 0]) ∧ Below w.heap.size w w' := by
  obtain ⟨k, rfl⟩ := Int.eq_ofNat_of_zero_le (show 0 ≤ k by omega)
  simp only [Int.toNat_natCast] at hks ⊢
  go_enter Tryd.func15, Tryd.ntmps15
  go_wp2_with fail
  refine (isWidth_yes k h1 h2 _).mono ?_
  rintro e w' ⟨rfl, rfl⟩
  go_wp2_with fail
  refine (eachNum_yes w.heap.size w.heap.size (w.heap.size + 1) s k _ (by omega) hks ?hp ?hq (Nat.le_refl _) (by omega) (by omega)).mono ?_
  case hp => exact (Below.heap_alloc _ _ _ (by simp)).trans (heap_alloc_new w _)
  case hq => exact heap_new2 w _ _
  rintro e w1 ⟨rfl, hp, hbl⟩
  have hc := cell_of_one hp
  clear hp
  have hb2 : Below w.heap.size w w1 := (((Below.refl _ _).alloc (Nat.le_refl _) _).alloc (by simp) _).trans hbl
  clear hbl
  go_wp2
  go_ret3
  exact ⟨rfl, hb2⟩

set_option maxHeartbeats 400000 in
theorem takeNumber_short (s : ByteArray) (k : Int) (h1 : 1 ≤ k) (h2 : k ≤ 8) (hks : Hid (s.data.toList.length < k.toNat)) (w : World) :
    Calls Tryd.prog 15 #[.string s, .int .i64 k] w fun e w' => e = .returned (.tuple #[.int .u64 0, .string (bs []), .int .i64 10]) ∧ Below w.heap.size w w' := by
  obtain ⟨k, rfl⟩ := Int.eq_ofNat_of_zero_le (show 0 ≤ k by omega)
  simp only [Int.toNat_natCast] at hks ⊢
  go_enter Tryd.func15, Tryd.ntmps15
  go_wp2_with fail
  refine (isWidth_yes k h1 h2 _).mono ?_
  rintro e w' ⟨rfl, rfl⟩
  go_wp2_with fail
  refine (eachNum_no w.heap.size w.heap.size (w.heap.size + 1) s k _ (by omega) hks ?hp ?hq (Nat.le_refl _) (by omega) (by omega)).mono ?_
  case hp => exact (Below.heap_alloc _ _ _ (by simp)).trans (heap_alloc_new w _)
  case hq => exact heap_new2 w _ _
  rintro e w1 ⟨rfl, hbl⟩
  have hb2 : Below w.heap.size w w1 := (((Below.refl _ _).alloc (Nat.le_refl _) _).alloc (by simp) _).trans hbl
  clear hbl
  go_wp2
  go_ret3
  exact ⟨rfl, hb2⟩

set_option maxHeartbeats 400000 in
theorem takeNumber_arg (s : ByteArray) (k : Int) (h : k < 1 ∨ 8 < k) (w : World) :
    Calls Tryd.prog 15 #[.string s, .int .i64 k] w fun e w' => e = .returned (.tuple #[.int .u64 0, .string (bs []), .int .i64 1]) ∧ Below w.heap.size w w' := by
  have H := Lib.hid h; clear h
  go_enter Tryd.func15, Tryd.ntmps15
  go_wp2_with fail
  refine (isWidth_no k H.out _).mono ?_
  rintro e w' ⟨rfl, rfl⟩
  go_wp2
  go_ret3
  exact ⟨rfl, Below.refl _ _⟩

/-- TakeNumber's answers: the number, what is behind it, the error. -/
def tnN (s : ByteArray) (k : Int) : Int := if k < 1 ∨ 8 < k then 0 else if s.data.toList.length < k.toNat then 0 else numV (s.data.toList.take k.toNat)
def tnR (s : ByteArray) (k : Int) : ByteArray := if k < 1 ∨ 8 < k then bs [] else if s.data.toList.length < k.toNat then bs [] else bs (s.data.toList.drop k.toNat)
def tnE (s : ByteArray) (k : Int) : Int := if k < 1 ∨ 8 < k then 1 else if s.data.toList.length < k.toNat then 10 else 0

theorem takeNumber_any (s : ByteArray) (k : Int) (w : World) :
    Calls Tryd.prog 15 #[.string s, .int .i64 k] w fun e w' => e = .returned (.tuple #[.int .u64 (tnN s k), .string (tnR s k), .int .i64 (tnE s k)]) ∧ Below w.heap.size w w' := by
  unfold tnN tnR tnE
  by_cases h : k < 1 ∨ 8 < k
  · rw [if_pos h, if_pos h, if_pos h]
    exact takeNumber_arg s k h w
  · rw [if_neg h, if_neg h, if_neg h]
    by_cases h2 : s.data.toList.length < k.toNat
    · rw [if_pos h2, if_pos h2, if_pos h2]
      exact takeNumber_short s k (by omega) (by omega) h2 w
    · rw [if_neg h2, if_neg h2, if_neg h2]
      exact takeNumber_yes s k (by omega) (by omega) (Nat.le_of_not_lt h2) w

end Go.Proofs.YtacekpjkgkkekaaDoor
/-
  Contract: Open.
-/
namespace Go.Proofs.YtacekpjkgkkekaaDoor
open Go.RowKit

theorem open_short (k : Nat → Nat) (kind : Nat) (s : ByteArray) (hs : s.size < 24) (w : World) :
    Calls Tryd.prog 7 #[.agg (rowOf 16 (w8 k)), .int .u8 (kind : Int), .string s] w fun e w' => e = .returned (.tuple #[.string (bs []), .int .u64 0, .int .i64 10]) ∧ Below w.heap.size w w' := by
  have hz : (s.size : Int) < 24 := by omega
  go_enter Tryd.func7, Tryd.ntmps7
  go_wp2
  go_ret3
  exact ⟨rfl, (Below.refl _ _).alloc (Nat.le_refl _) _⟩

/-- The bytes of what opens bytes. -/
theorem take8 (s : ByteArray) (h : 8 ≤ s.size) (w : World) :
    Calls Tryd.prog 15 #[.string s, .int .i64 8] w fun e w' => e = .returned (.tuple #[.int .u64 (numOf s : Int), .string (restOf s), .int .i64 0]) ∧ Below w.heap.size w w' :=
  takeNumber_yes s 8 (by decide) (by decide) (by unfold Hid; simp; omega) w

set_option maxHeartbeats 1000000 in
set_option maxRecDepth 8000 in
theorem open_long (k : Nat → Nat) (hkb : Hid (Bytes k)) (kind : Nat) (hkd : Hid (kind < 256)) (s : ByteArray) (h1 : 24 ≤ s.size) (h2 : s.size ≤ 4000) (b : Bool) (hb : Hid (((tailS s).toList == (tagS (tkN k) kind (headS s)).toList) = b)) (w : World) (hk : Hid (KRow w)) :
    Calls Tryd.prog 7 #[.agg (rowOf 16 (w8 k)), .int .u8 (kind : Int), .string s] w fun e w' => e = .returned (.tuple (if b = true then #[.string (hideS (hkN k) (numOf (headS s)) (restOf (headS s))), .int .u64 (numOf (headS s) : Int), .int .i64 0] else #[.string (bs []), .int .u64 0, .int .i64 60])) ∧ Below w.heap.size w w' := by
  have r0 : Hid (RowAt (w.alloc (.cells (rowOf 16 (w8 k)) 23)) w.heap.size 23 (rowOf 16 (w8 k))) := RowAt.new _ _ _
  have b0 : Below w.heap.size w (w.alloc (.cells (rowOf 16 (w8 k)) 23)) := (Below.refl _ _).alloc (Nat.le_refl _) _
  have KH := Lib.hid (keyHide k hkb)
  have KT := Lib.hid (keyTag k hkb)
  have hh : (headS s).size = s.size - 16 := headS_size s
  have CR : Hid (∀ w', Calls Tryd.prog 12 #[.agg (rowOf 16 (w8 (hkN k))), .int .u64 (numOf (headS s) : Int), .string (restOf (headS s))] w' fun e w'' => e = .returned (.string (hideS (hkN k) (numOf (headS s)) (restOf (headS s)))) ∧ Below w'.heap.size w' w'') :=
    fun w' => crypt_yes (hkN k) (hkN_bytes k) (numOf (headS s)) (numOf_lt _) (restOf (headS s)) (by rw [restOf_size]; omega) w'
  have TG : Hid (∀ w', KRow w' → Calls Tryd.prog 13 #[.agg (rowOf 16 (w8 (tkN k))), .int .u8 (kind : Int), .string (headS s)] w' fun e w'' => e = .returned (.string (tagS (tkN k) kind (headS s))) ∧ Below w'.heap.size w' w'') :=
    fun w' h => tagOf_any (tkN k) (tkN_bytes k) kind hkd (headS s) (by omega) w' h
  have TK := Lib.hid (take8 (headS s) (by omega))
  have SA : Hid (∀ w', Calls Tryd.prog 14 #[.string (tailS s), .string (tagS (tkN k) kind (headS s))] w' fun e w'' => e = .returned (.bool b) ∧ w'' = w') := fun w' => by
    have h := same_any (tailS s) (tagS (tkN k) kind (headS s)) w'
    rw [hb.out] at h
    exact h
  have hz : ¬ (s.size : Int) < 24 := by omega
  obtain ⟨z, hzz⟩ : ∃ z, s.size = z + 16 := ⟨s.size - 16, by omega⟩
  have e1 : (s.size : Int) - 16 = (z : Int) := by omega
  have e2 : z ≤ s.size := by omega
  have e3 : (z : Int) ≤ (s.size : Int) := by omega
  have eh : headS s = s.extract 0 z := by unfold headS; rw [hzz, Nat.add_sub_cancel]
  have et : tailS s = s.extract z s.size := by unfold tailS; rw [hzz, Nat.add_sub_cancel]
  rw [eh] at CR TG TK SA hh
  rw [et] at SA
  rw [eh]
  clear hb eh et hkb hkd
  generalize tagS (tkN k) kind (s.extract 0 z) = tg at *
  generalize hideS (hkN k) (numOf (s.extract 0 z)) (restOf (s.extract 0 z)) = pl at *
  generalize numOf (s.extract 0 z) = nn at *
  generalize restOf (s.extract 0 z) = rr at *
  generalize hkN k = hk1 at *
  generalize tkN k = tk1 at *
  replace hzz := Lib.hid hzz
  replace hh := Lib.hid hh
  go_enter Tryd.func7, Tryd.ntmps7
  go_wp2_with (refine wpList_load_row rfl 23 _ rfl w.heap.size rfl 23 (rowOf 16 (w8 k)) (0, 0) _ r0.out Tryd.underlying23 rfl (info_key _) ?_)
  generalize w.alloc (.cells (rowOf 16 (w8 k)) 23) = w1 at *
  refine (keysOf_any k w1).mono ?_
  rintro e w2 ⟨rfl, r2, hb2⟩
  have l2 := b0.size
  generalize w1.heap.size = p at *
  replace r2 := Lib.hid r2
  replace b0 := b0.trans (hb2.mono l2)
  clear hb2 r0
  unfold keyFn
  go_wp2_with fail
  go_quiet (fail)
  replace r2 := Lib.hid (r2.out.drewN nq)
  replace b0 : Below w.heap.size w (w2.drewN nq) := b0.trans ⟨rfl, rfl, rfl, Nat.le_refl _, fun _ _ => rfl⟩
  generalize w2.drewN nq = w3 at *
  clear e1 e2 e3
  generalize s.extract 0 z = hd at *
  generalize s.extract z s.size = tl at *
  go_wp2_with fail
  refine (KT.out p w3 (hk.out.below b0 hk.out.1 b0.size) r2.out).mono ?_
  rintro e w4 ⟨rfl, hb4⟩
  replace r2 := Lib.hid (r2.out.below hb4 r2.out.lt)
  replace b0 := b0.trans (hb4.mono b0.size)
  clear hb4 KT
  go_wp2_with fail
  refine (TG.out w4 (hk.out.below b0 hk.out.1 b0.size)).mono ?_
  rintro e w5 ⟨rfl, hb5⟩
  replace r2 := Lib.hid (r2.out.below hb5 r2.out.lt)
  replace b0 := b0.trans (hb5.mono b0.size)
  clear hb5 TG
  go_wp2_with fail
  refine (SA.out w5).mono ?_
  rintro e w6 ⟨rfl, rfl⟩
  clear SA
  cases b with
  | false =>
    go_wp2
    go_ret3
    exact ⟨rfl, b0⟩
  | true =>
    go_wp2_with fail
    refine (TK.out w6).mono ?_
    rintro e w7 ⟨rfl, hb7⟩
    replace r2 := Lib.hid (r2.out.below hb7 r2.out.lt)
    replace b0 := b0.trans (hb7.mono b0.size)
    clear hb7 TK
    go_wp2_with fail
    refine (KH.out p w7 (hk.out.below b0 hk.out.1 b0.size) r2.out).mono ?_
    rintro e w8 ⟨rfl, hb8⟩
    replace b0 := b0.trans (hb8.mono b0.size)
    clear hb8 KH r2
    go_wp2_with fail
    refine (CR.out w8).mono ?_
    rintro e w9 ⟨rfl, hb9⟩
    replace b0 := b0.trans (hb9.mono b0.size)
    clear hb9 CR
    go_wp2
    go_ret3
    exact ⟨rfl, b0⟩

/-- What bytes open to: the text, the nonce, the error. -/
def opensB (k : Nat → Nat) (kind : Nat) (s : ByteArray) : Bool := (tailS s).toList == (tagS (tkN k) kind (headS s)).toList
def openV (k : Nat → Nat) (kind : Nat) (s : ByteArray) : Array Value :=
  if s.size < 24 then #[.string (bs []), .int .u64 0, .int .i64 10]
  else if opensB k kind s = true then #[.string (hideS (hkN k) (numOf (headS s)) (restOf (headS s))), .int .u64 (numOf (headS s) : Int), .int .i64 0] else #[.string (bs []), .int .u64 0, .int .i64 60]

theorem open_any (k : Nat → Nat) (hkb : Hid (Bytes k)) (kind : Nat) (hkd : Hid (kind < 256)) (s : ByteArray) (h2 : s.size ≤ 4000) (w : World) (hk : Hid (KRow w)) :
    Calls Tryd.prog 7 #[.agg (rowOf 16 (w8 k)), .int .u8 (kind : Int), .string s] w fun e w' => e = .returned (.tuple (openV k kind s)) ∧ Below w.heap.size w w' := by
  unfold openV
  by_cases h : s.size < 24
  · rw [if_pos h]
    exact open_short k kind s h w
  · rw [if_neg h]
    exact open_long k hkb kind hkd s (by omega) h2 (opensB k kind s) rfl w hk

/-- What was sealed opens to what it was. -/
theorem openV_seal (k : Nat → Nat) (nonce : Nat) (hn : nonce < 18446744073709551616) (kind : Nat) (s : ByteArray) : openV k kind (sealS k nonce kind s) = #[.string s, .int .u64 (nonce : Int), .int .i64 0] := by
  have h1 : ¬ (sealS k nonce kind s).size < 24 := by rw [sealS_size]; omega
  have h2 : opensB k kind (sealS k nonce kind s) = true := by unfold opensB; rw [sealS_head, sealS_tail]; exact beq_self_eq_true _
  unfold openV
  rw [if_neg h1, if_pos h2, sealS_head, open_sealed k nonce hn, ahead_num k nonce hn]

end Go.Proofs.YtacekpjkgkkekaaDoor
/-
  Contract: shown: a text is sealed, and opened.
-/
namespace Go.Proofs.YtacekpjkgkkekaaDoor
open Go.RowKit

theorem wf6_i64 {n : Int} (h : (Lit.int .i64 n).wf = true) : -9223372036854775808 ≤ n ∧ n < 9223372036854775808 := by
  simp [Lit.wf, IntKind.min, IntKind.max, IntKind.signed, IntKind.bits] at h
  omega
theorem wf6_u64 {n : Int} (h : (Lit.int .u64 n).wf = true) : 0 ≤ n ∧ n < 18446744073709551616 := by
  simp [Lit.wf, IntKind.min, IntKind.max, IntKind.signed, IntKind.bits] at h
  omega
theorem wf6_u8 {n : Int} (h : (Lit.int .u8 n).wf = true) : 0 ≤ n ∧ n < 256 := by
  simp [Lit.wf, IntKind.min, IntKind.max, IntKind.signed, IntKind.bits] at h
  omega

set_option maxHeartbeats 1000000 in
set_option maxRecDepth 8000 in
theorem shown6_any (w : World) (hk : Hid (KRow w)) :
    Calls Tryd.prog 5 #[] w fun e w' => e = .returned (.bool true) ∧ Below w.heap.size w w' := by
  have A1 : Hid (∀ w, KRow w → Calls Tryd.prog 6 #[.agg (rowOf 16 (w8 oneK)), .int .u64 5, .int .u8 2, .string abcS] w fun e w' => e = .returned (.string (sealS oneK 5 2 abcS)) ∧ Below w.heap.size w w') :=
    fun w h => seal_yes oneK oneK_byt 5 (by unfold Hid; decide) 2 (by unfold Hid; decide) abcS (by decide) w h
  have hsz : (sealS oneK 5 2 abcS).size = 27 := sealS_size _ _ _ _
  have A2 : Hid (∀ w, KRow w → Calls Tryd.prog 7 #[.agg (rowOf 16 (w8 oneK)), .int .u8 2, .string (sealS oneK 5 2 abcS)] w fun e w' => e = .returned (.tuple (openV oneK 2 (sealS oneK 5 2 abcS))) ∧ Below w.heap.size w w') :=
    fun w h => open_any oneK oneK_byt 2 (by unfold Hid; decide) _ (by rw [hsz]; decide) w h
  rw [openV_seal oneK 5 (by decide) 2 abcS, show ((5 : Nat) : Int) = 5 from rfl] at A2
  have A3 := Lib.hid (boxSize_any 3)
  rw [show sizeI 3 = 27 from rfl] at A3
  rw [oneK_row] at A1 A2
  generalize sealS oneK 5 2 abcS = X at *
  unfold abcS at *
  go_enter Tryd.func5, Tryd.ntmps5
  go_wp2_with fail
  refine (A1.out _ hk.out).mono ?_
  rintro e w1 ⟨rfl, hb1⟩
  clear A1
  go_wp2_with fail
  refine (A2.out _ (hk.out.below hb1 hk.out.1 hb1.size)).mono ?_
  rintro e w2 ⟨rfl, hb2⟩
  clear A2
  have hb3 := hb1.trans (hb2.mono hb1.size)
  clear hb1 hb2
  go_wp2_with fail
  refine (A3.out _).mono ?_
  rintro e w3 ⟨rfl, rfl⟩
  go_wp2
  go_ret
  exact ⟨rfl, hb3⟩

end Go.Proofs.YtacekpjkgkkekaaDoor
/-
  Contract: the document's tag.
-/
namespace Go.Proofs.YtacekpjkgkkekaaDoor
open Go.RowKit

theorem refTagMac (K : Nat → Nat) (kind : Nat) (s : ByteArray) (hs : s.size ≤ 80000) (w : World) :
    Calls Tryd.prog 32 #[.string (bs (listB 16 K)), .string (kindS kind ++ s)] w fun e w' => e = .returned (.agg (rowOf 32 (w8 (tagN K kind s)))) ∧ Below w.heap.size w w' := by
  have h := refMac_any (bs (listB 16 K)) (by rw [bs_size, listB_length]; decide) (kindS kind ++ s) (by rw [ByteArray.size_append, kindS_size]; omega) w
  rw [bs_append, kindS_data] at h
  exact h

set_option maxHeartbeats 1000000 in
set_option maxRecDepth 8000 in
theorem refTag_any (k : Nat → Nat) (hkb : Hid (Bytes k)) (kind : Nat) (hkd : Hid (kind < 256)) (s : ByteArray) (hs : s.size ≤ 80000) (w : World) :
    Calls Tryd.prog 18 #[.agg (rowOf 16 (w8 k)), .int .u8 (kind : Int), .string s] w fun e w' => e = .returned (.string (tagS (tkN k) kind s)) ∧ Below w.heap.size w w' := by
  have r0 : Hid (RowAt (w.alloc (.cells (rowOf 16 (w8 k)) 23)) w.heap.size 23 (rowOf 16 (w8 k))) := RowAt.new _ _ _
  have b0 : Below w.heap.size w (w.alloc (.cells (rowOf 16 (w8 k)) 23)) := (Below.refl _ _).alloc (Nat.le_refl _) _
  have D : Hid (∀ w', Calls Tryd.prog 31 #[.agg (rowOf 16 (w8 k)), .string tagL, .int .u64 0] w' fun e w'' => e = .returned (.agg (rowOf 16 (w8 (tkN k)))) ∧ Below w'.heap.size w' w'') :=
    fun w' => refDerive_any k hkb tagL (by decide) 0 (by unfold Hid; decide) w'
  have M : Hid (∀ w', Calls Tryd.prog 32 #[.string (bs (listB 16 (tkN k))), .string (kindS kind ++ s)] w' fun e w'' => e = .returned (.agg (rowOf 32 (w8 (tagN (tkN k) kind s)))) ∧ Below w'.heap.size w' w'') :=
    fun w' => refTagMac (tkN k) kind s hs w'
  have hZ := Lib.hid (tagN_bytes (tkN k) kind s)
  have hK := Lib.hid (tkN_bytes k)
  have E : Hid (tagS (tkN k) kind s = bs (listB 16 (tagN (tkN k) kind s))) := rfl
  have ns : ¬ 9223372036854775807 < (kindS kind).size + s.size := by rw [kindS_size]; omega
  generalize tagN (tkN k) kind s = z at *
  generalize tkN k = K at *
  unfold tagL at D
  clear hkb hs
  go_enter Tryd.func18, Tryd.ntmps18
  go_wp2_with (refine wpList_load_row rfl 23 _ rfl w.heap.size rfl 23 (rowOf 16 (w8 k)) (0, 0) _ r0.out Tryd.underlying23 rfl (info_key _) ?_)
  generalize w.alloc (.cells (rowOf 16 (w8 k)) 23) = w1 at *
  refine (D.out w1).mono ?_
  rintro e w2 ⟨rfl, hb2⟩
  replace b0 := b0.trans (hb2.mono b0.size)
  clear hb2 D r0
  have HC : BoxC w2 w2.heap.size K (w2.alloc (.cells (rowOf 16 (w8 K)) 23)).drew := ⟨((Below.refl _ _).alloc (Nat.le_refl _) _).drew, (RowAt.new _ _ _).drew⟩
  go_wp2_with (refine wpList_store_row rfl 23 _ _ rfl w2.heap.size (rowOf 16 (w8 K)) rfl rfl 23 _ (RowAt.new _ _ _) (info_key _) (by rw [rowOf_size]; rfl) (rowOf_cells8 _ _) ?_; rw [World.setRow_alloc_new])
  have hp := b0.size
  generalize w2.alloc (.cells (rowOf 16 (w8 K)) 23) = w3 at *
  have sl := run_slice_all (P := Tryd.prog) Tryd.underlying23 sz8 w2.heap.size
  have cv : Hid (∀ w', RowAt w' w2.heap.size 23 (rowOf 16 (w8 K)) → (convert 45 9 (.slice (some ⟨w2.heap.size, 0, none⟩) 16 16)).run Tryd.prog w' = .ok (.string (bs (listB 16 K))) w') :=
    fun w' hr => block_string hK.out Tryd.underlying45 Tryd.underlying5 Tryd.underlying9 hr
  generalize w2.heap.size = p at *
  simp only [Act.put]
  refine wp_region_rely_tail 9 (BoxC w2 p K) [eqv (.slice (some ⟨p, 0, none⟩) 16 16), eqv (.string (bs (listB 16 K))), eqv (.int .u8 (kind : Int)), heldv 5 1 (rowOf 1 (w8 fun _ => kind)), eqv (.string (kindS kind)), eqv (.string s), eqv (.string (kindS kind ++ s)), eqv (.agg (rowOf 32 (w8 z))), freshv (p + 1) 49 (rowOf 32 (w8 zeroN))] (by kernel_rfl) (by kernel_rfl) HC
    (.cons (steady_eqv _) (.cons (steady_eqv _) (.cons (steady_eqv _) (.cons (steady_heldv _ _ _) (.cons (steady_eqv _) (.cons (steady_eqv _) (.cons (steady_eqv _) (.cons (steady_eqv _) (.cons (steady_freshv _ _ _) .nil))))))))) ?_
  intro R hR
  simp only [List.take_succ_cons, List.take_zero, List.drop_succ_cons, List.drop_zero]
  refine wpRely_cons (fun w' hC hf => ?_) (fun v0 => ?_)
  · (repeat (first | (obtain ⟨rfl, hf⟩ := hf) | (obtain ⟨⟨q, rfl, hq⟩, hf⟩ := hf) | (obtain ⟨_, hf⟩ := hf)))
    exact grows_eqv (by rfl) hC (by go_simp)
  simp only [Act.put, List.setIfInBounds_toArray, List.set_cons_succ, List.set_cons_zero, List.nil_append]
  refine wpRely_cons (fun w' hC hf => ?_) (fun v1 => ?_)
  · (repeat (first | (obtain ⟨rfl, hf⟩ := hf) | (obtain ⟨⟨q, rfl, hq⟩, hf⟩ := hf) | (obtain ⟨_, hf⟩ := hf)))
    have cw := cv.out w' hC.row
    exact grows_eqv (by rfl) hC (by go_simp)
  simp only [Act.put, List.setIfInBounds_toArray, List.set_cons_succ, List.set_cons_zero, List.nil_append, List.cons_append]
  refine wpRely_cons (fun w' hC hf => ?_) (fun v2 => ?_)
  · (repeat (first | (obtain ⟨rfl, hf⟩ := hf) | (obtain ⟨⟨q, rfl, hq⟩, hf⟩ := hf) | (obtain ⟨_, hf⟩ := hf)))
    exact grows_eqv (by rfl) hC (by go_simp)
  simp only [Act.put, List.setIfInBounds_toArray, List.set_cons_succ, List.set_cons_zero, List.nil_append, List.cons_append]
  refine wpRely_cons (fun w' hC hf => ?_) (fun v3 => ?_)
  · (repeat (first | (obtain ⟨rfl, hf⟩ := hf) | (obtain ⟨⟨q, rfl, hq⟩, hf⟩ := hf) | (obtain ⟨_, hf⟩ := hf)))
    exact grows_held hR (fun _ _ hb h => h.after hb) hC (by rfl) (by go_simp; rfl)
  simp only [Act.put, List.setIfInBounds_toArray, List.set_cons_succ, List.set_cons_zero, List.nil_append, List.cons_append]
  refine wpRely_cons (fun w' hC hf => ?_) (fun v4 => ?_)
  · (repeat (first | (obtain ⟨rfl, hf⟩ := hf) | (obtain ⟨⟨q, rfl, hq⟩, hf⟩ := hf) | (obtain ⟨_, hf⟩ := hf)))
    have cw : (convert 45 9 (.slice (some ⟨q, 0, none⟩) 1 1)).run Tryd.prog w' = .ok (.string (kindS kind)) w' := block_string (kind_bytes hkd.out) Tryd.underlying45 Tryd.underlying5 Tryd.underlying9 hq
    exact grows_eqv (by rfl) hC (by go_simp)
  simp only [Act.put, List.setIfInBounds_toArray, List.set_cons_succ, List.set_cons_zero, List.nil_append, List.cons_append]
  refine wpRely_cons (fun w' hC hf => ?_) (fun v5 => ?_)
  · (repeat (first | (obtain ⟨rfl, hf⟩ := hf) | (obtain ⟨⟨q, rfl, hq⟩, hf⟩ := hf) | (obtain ⟨_, hf⟩ := hf)))
    exact grows_eqv (by rfl) hC (by go_simp)
  simp only [Act.put, List.setIfInBounds_toArray, List.set_cons_succ, List.set_cons_zero, List.nil_append, List.cons_append]
  refine wpRely_cons (fun w' hC hf => ?_) (fun v6 => ?_)
  · (repeat (first | (obtain ⟨rfl, hf⟩ := hf) | (obtain ⟨⟨q, rfl, hq⟩, hf⟩ := hf) | (obtain ⟨_, hf⟩ := hf)))
    exact grows_eqv (by rfl) hC (by go_simp)
  simp only [Act.put, List.setIfInBounds_toArray, List.set_cons_succ, List.set_cons_zero, List.nil_append, List.cons_append]
  refine wpRely_cons (fun w' hC hf => ?_) (fun v7 => ?_)
  · (repeat (first | (obtain ⟨rfl, hf⟩ := hf) | (obtain ⟨⟨q, rfl, hq⟩, hf⟩ := hf) | (obtain ⟨_, hf⟩ := hf)))
    exact grows_calls hR (fun _ _ hb h => h.after hb) hC (by rfl) (by go_simp) (M.out w')
  simp only [Act.put, List.setIfInBounds_toArray, List.set_cons_succ, List.set_cons_zero, List.nil_append, List.cons_append]
  refine wpRely_cons (fun w' hC hf => ?_) (fun v8 => ?_)
  · (repeat (first | (obtain ⟨rfl, hf⟩ := hf) | (obtain ⟨⟨q, rfl, hq⟩, hf⟩ := hf) | (obtain ⟨_, hf⟩ := hf)))
    exact grows_fresh hR (fun _ _ hb h => h.after hb) hC (by rfl) (by rw [z8_32]; go_simp) (by have := hC.row.lt; omega)
  simp only [Act.put, List.setIfInBounds_toArray, List.set_cons_succ, List.set_cons_zero, List.nil_append, List.cons_append]
  refine wpRely_nil fun w9 hC hf => ?_
  obtain ⟨_, _, _, _, _, _, _, rfl, ⟨l, rfl, hq, hr⟩, _⟩ := hf
  have b9 : Below w.heap.size w (w9.setRow l (rowOf 32 (w8 z))) := below_setRow' (b0.trans (hC.rest.mono hp)) (by omega) _
  have r9 : RowAt (w9.setRow l (rowOf 32 (w8 z))) l 49 (rowOf 32 (w8 z)) := hr.setRow _
  clear hC HC M cv sl ns
  refine wpList_store_row rfl 49 _ _ rfl l (rowOf 32 (w8 z)) rfl rfl 49 _ hr (info_hash _) (by rw [rowOf_size, rowOf_size]) (rowOf_cells8 _ _) ?_
  generalize World.setRow _ _ _ = w5 at *
  have sl := run_slice_h (P := Tryd.prog) Tryd.underlying49 sz8 l 16 16 rfl (by decide) (by decide) w5
  have cv : (convert 45 9 (.slice (some ⟨l, 0, none⟩) 16 32)).run Tryd.prog w5 = .ok (.string (bs (listB 16 z))) w5 := block_head hZ.out (by decide) Tryd.underlying45 Tryd.underlying5 Tryd.underlying9 r9
  clear hr r9
  go_wp2
  go_ret
  exact ⟨by rw [E.out]; rfl, b9⟩

end Go.Proofs.YtacekpjkgkkekaaDoor
/-
  The document's Xor.
-/
namespace Go.Proofs.YtacekpjkgkkekaaDoor
open Go.RowKit

/-- Two texts, byte by byte. -/
def xorS (s t : ByteArray) : Nat → Nat := fun j => byteS s j ^^^ byteS t j

theorem byteS_get (s : ByteArray) (j : Nat) (h : j < s.size) : byteS s j = (s[j]'h).toNat := by
  unfold byteS
  rw [List.getD_eq_getElem?_getD, List.getElem?_eq_getElem (by rw [ba_size]; exact h)]
  rfl

theorem own_kept {W W' : World} {n₀ : Nat} {v : Value} {n : Nat} {xs : List Value} (h : W.ownsRow n₀ 5 1 v n xs) (hb : Below W.heap.size W W') : W'.ownsRow n₀ 5 1 v n xs :=
  own_same h fun _ _ hg => block_some hb hg

set_option maxHeartbeats 2000000 in
set_option maxRecDepth 8000 in
theorem refXor_any (s t : ByteArray) (h1 : s.size ≤ t.size) (h2 : s.size ≤ 100000) (w : World) :
    Calls Tryd.prog 29 #[.string s, .string t] w fun e w' => e = .returned (.string (bs (listB s.size (xorS s t)))) ∧ Below w.heap.size w w' := by
  obtain ⟨i0, hi, hz0, hz1, hz2⟩ := info_parts Tryd.info5
  have hi' := Lib.hid hi; have hz0' := Lib.hid hz0; have hz1' := Lib.hid hz1; have hz2' := Lib.hid hz2
  clear hi hz0 hz1 hz2
  go_enter Tryd.func29, Tryd.ntmps29
  go_wp2
  go_loopw [5, 6] (fun v i wr => ∃ j : Nat, j ≤ s.size ∧ i = .int .i64 (j : Int) ∧ Hid (wr.ownsRow w.heap.size 5 1 v j ((listB j (xorS s t)).map bv)) ∧ Below w.heap.size w wr)
    (fun _ i _ => s.size - (intOf i).toNat)
  case atStart => exact ⟨0, by omega, rfl, World.ownsRow_made _ _ _ (Nat.le_refl _) (by unfold maxLen; omega) (by simp), (Below.refl _ _).alloc (Nat.le_refl _) _⟩
  case round =>
    obtain ⟨j, hj, rfl, hown, hbl⟩ := hrel
    by_cases hlt : j < s.size
    · have hj1 : (j : Int) < (s.size : Int) := by omega
      have hj2 : j < t.size := by omega
      have hj3 : (j : Int) < (t.size : Int) := by omega
      obtain ⟨a, ha⟩ : ∃ a, (s[j]'hlt).toNat = a := ⟨_, rfl⟩
      obtain ⟨b, hb⟩ : ∃ b, (t[j]'hj2).toNat = b := ⟨_, rfl⟩
      have ha8 : a < 256 := by rw [← ha]; exact UInt8.toNat_lt _
      have hb8 : b < 256 := by rw [← hb]; exact UInt8.toNat_lt _
      have hxb := Lib.hid (u8_xor_nat a b ha8 hb8)
      have hc8 : a ^^^ b < 256 := xor_byte ha8 hb8
      have e1 : Hid (listB j (xorS s t) ++ [UInt8.ofNat (a ^^^ b)] = listB (j + 1) (xorS s t)) := by unfold Hid; rw [listB_succ]; unfold xorS; rw [byteS_get s j hlt, byteS_get t j hj2, ha, hb]
      replace ha := Lib.hid ha
      replace hb := Lib.hid hb
      go_wp2
      refine wp_region_rely_tail 9 (fun w' => Below wr.drew.heap.size wr.drew w') [eqv u5, eqv (.string s), eqv (.int .i64 (j : Int)), eqv (.int .u8 (a : Int)), eqv (.string t), eqv (.int .i64 (j : Int)), eqv (.int .u8 (b : Int)), eqv (.int .u8 ((a ^^^ b : Nat) : Int)), heldv 5 1 #[.int .u8 ((a ^^^ b : Nat) : Int)]] (by kernel_rfl) (by kernel_rfl) (Below.refl _ _)
        (.cons (steady_eqv _) (.cons (steady_eqv _) (.cons (steady_eqv _) (.cons (steady_eqv _) (.cons (steady_eqv _) (.cons (steady_eqv _) (.cons (steady_eqv _) (.cons (steady_eqv _) (.cons (steady_heldv _ _ _) .nil))))))))) ?_
      intro R hR
      simp only [List.take_succ_cons, List.take_zero, List.drop_succ_cons, List.drop_zero]
      refine wpRely_cons (fun w' hC hf => ?_) (fun v0 => ?_)
      · (repeat (first | (obtain ⟨rfl, hf⟩ := hf) | (obtain ⟨⟨q, rfl, hq⟩, hf⟩ := hf) | (obtain ⟨_, hf⟩ := hf)))
        exact grows_eqv (by rfl) hC (by go_simp)
      simp only [Act.put, List.setIfInBounds_toArray, List.set_cons_succ, List.set_cons_zero, List.nil_append]
      refine wpRely_cons (fun w' hC hf => ?_) (fun v1 => ?_)
      · (repeat (first | (obtain ⟨rfl, hf⟩ := hf) | (obtain ⟨⟨q, rfl, hq⟩, hf⟩ := hf) | (obtain ⟨_, hf⟩ := hf)))
        exact grows_eqv (by rfl) hC (by go_simp)
      simp only [Act.put, List.setIfInBounds_toArray, List.set_cons_succ, List.set_cons_zero, List.nil_append, List.cons_append]
      refine wpRely_cons (fun w' hC hf => ?_) (fun v2 => ?_)
      · (repeat (first | (obtain ⟨rfl, hf⟩ := hf) | (obtain ⟨⟨q, rfl, hq⟩, hf⟩ := hf) | (obtain ⟨_, hf⟩ := hf)))
        exact grows_eqv (by rfl) hC (by go_simp)
      simp only [Act.put, List.setIfInBounds_toArray, List.set_cons_succ, List.set_cons_zero, List.nil_append, List.cons_append]
      refine wpRely_cons (fun w' hC hf => ?_) (fun v3 => ?_)
      · (repeat (first | (obtain ⟨rfl, hf⟩ := hf) | (obtain ⟨⟨q, rfl, hq⟩, hf⟩ := hf) | (obtain ⟨_, hf⟩ := hf)))
        exact grows_eqv (by rfl) hC (by rw [← ha.out]; go_simp)
      simp only [Act.put, List.setIfInBounds_toArray, List.set_cons_succ, List.set_cons_zero, List.nil_append, List.cons_append]
      refine wpRely_cons (fun w' hC hf => ?_) (fun v4 => ?_)
      · (repeat (first | (obtain ⟨rfl, hf⟩ := hf) | (obtain ⟨⟨q, rfl, hq⟩, hf⟩ := hf) | (obtain ⟨_, hf⟩ := hf)))
        exact grows_eqv (by rfl) hC (by go_simp)
      simp only [Act.put, List.setIfInBounds_toArray, List.set_cons_succ, List.set_cons_zero, List.nil_append, List.cons_append]
      refine wpRely_cons (fun w' hC hf => ?_) (fun v5 => ?_)
      · (repeat (first | (obtain ⟨rfl, hf⟩ := hf) | (obtain ⟨⟨q, rfl, hq⟩, hf⟩ := hf) | (obtain ⟨_, hf⟩ := hf)))
        exact grows_eqv (by rfl) hC (by go_simp)
      simp only [Act.put, List.setIfInBounds_toArray, List.set_cons_succ, List.set_cons_zero, List.nil_append, List.cons_append]
      refine wpRely_cons (fun w' hC hf => ?_) (fun v6 => ?_)
      · (repeat (first | (obtain ⟨rfl, hf⟩ := hf) | (obtain ⟨⟨q, rfl, hq⟩, hf⟩ := hf) | (obtain ⟨_, hf⟩ := hf)))
        exact grows_eqv (by rfl) hC (by rw [← hb.out]; go_simp)
      simp only [Act.put, List.setIfInBounds_toArray, List.set_cons_succ, List.set_cons_zero, List.nil_append, List.cons_append]
      refine wpRely_cons (fun w' hC hf => ?_) (fun v7 => ?_)
      · (repeat (first | (obtain ⟨rfl, hf⟩ := hf) | (obtain ⟨⟨q, rfl, hq⟩, hf⟩ := hf) | (obtain ⟨_, hf⟩ := hf)))
        exact grows_eqv (by rfl) hC (by rw [← hxb.out]; go_simp)
      simp only [Act.put, List.setIfInBounds_toArray, List.set_cons_succ, List.set_cons_zero, List.nil_append, List.cons_append]
      refine wpRely_cons (fun w' hC hf => ?_) (fun v8 => ?_)
      · (repeat (first | (obtain ⟨rfl, hf⟩ := hf) | (obtain ⟨⟨q, rfl, hq⟩, hf⟩ := hf) | (obtain ⟨_, hf⟩ := hf)))
        exact grows_held hR (fun _ _ hb h => h.trans (hb.mono h.size)) hC (by rfl) (by go_simp)
      simp only [Act.put, List.setIfInBounds_toArray, List.set_cons_succ, List.set_cons_zero, List.nil_append, List.cons_append]
      refine wpRely_nil fun w9 hC hf => ?_
      (repeat (first | (obtain ⟨rfl, hf⟩ := hf) | (obtain ⟨⟨q, rfl, hq⟩, hf⟩ := hf) | (obtain ⟨_, hf⟩ := hf)))
      have b9 := hC
      have hr9 := Lib.hid (own_kept (W := wr) hown.out ((Below.refl _ _).drew.trans b9))
      have hbl9 : Below w.heap.size w w9 := hbl.trans (((Below.refl _ _).drew.trans b9).mono hbl.size)
      have q9 : Hid (∀ i u, [Value.int .u8 ((a ^^^ b : Nat) : Int)][i]? = some u → w9.cell? ((⟨q, 0, none⟩ : Addr).add i) = some u) := fun i u hu => by
        match i, hu with
        | 0, hu => simp only [List.getElem?_cons_zero, Option.some.injEq] at hu; subst hu; exact cell_of_one hq
      clear hq b9 hown hC
      generalize a ^^^ b = c at *
      go_wp2_with (at_builtin; refine wpList_append_own _ rfl _ _ 45 rfl w.heap.size 5 i0 (.int .u8 0) 1 1 Tryd.underlying45 hi'.out hz0'.out hz1'.out hz2'.out rfl (by decide) _ _ _ rfl hr9.out ⟨q, 0, none⟩ 1 1 [.int .u8 (c : Int)] rfl rfl q9.out (one_cell c) (by unfold maxLen; omega) (by omega) hbl9.size ?_; intro v1 w4 hown hgrow _; refine Hid.out ?_)
      unfold Hid
      have hown' : Hid (w4.ownsRow w.heap.size 5 1 v1 (j + 1) ((listB (j + 1) (xorS s t)).map bv)) := by unfold Hid; rw [← e1.out, List.map_append, List.map_singleton, ← bv_nat hc8]; exact hown
      have hbl4 : Below w.heap.size w w4 := hbl9.grown hgrow hbl9.size (fun g hg => (hr9.out.lt g hg).1)
      clear hown hgrow hr9 hbl9
      go_wp2
      go_roundw
      case rel => exact ⟨j + 1, by omega, by go_num, hown', hbl4⟩
      case measure => simp [intOf]; omega
    · have hje : j = s.size := by omega
      subst hje
      have hcv := own_string (P := Tryd.prog) (src := 45) (dst := 9) (listB s.size (xorS s t)) Tryd.underlying45 Tryd.underlying5 Tryd.underlying9 hown.out
      have hx2 : ¬ ((s.size : Int) < (s.size : Int)) := by omega
      go_wp2
      go_ret
      exact ⟨rfl, hbl⟩

end Go.Proofs.YtacekpjkgkkekaaDoor
/-
  The document's way to hide is the program's.
-/
namespace Go.Proofs.YtacekpjkgkkekaaDoor
open Go.RowKit

/-- The document's way to hide. -/
theorem xor_stream {key : Nat → Nat} (hk : Byt key) (nonce M : Nat) (s : ByteArray) (h : s.size ≤ M) : bs (listB s.size (xorS s (bs (listB M (streamN key nonce))))) = bs (listB s.size (hideN key nonce 0 s)) := by
  have e : listB s.size (xorS s (bs (listB M (streamN key nonce)))) = listB s.size (hideN key nonce 0 s) := listB_congr fun j hj => by
    rw [hideN_at]
    show byteS s j ^^^ byteS (bs (listB M (streamN key nonce))) j = _
    rw [byteS_bs _ _ (stream_byt hk nonce) j (by omega), Nat.zero_add, Nat.xor_comm]
  rw [e]

end Go.Proofs.YtacekpjkgkkekaaDoor
/-
  Contract: the document's Rounds.
-/
namespace Go.Proofs.YtacekpjkgkkekaaDoor
open Go.RowKit

theorem zero176 : (Tryd.prog.info? 88).map (fun i => (i.zero, i.size)) = some (some (.agg (rowOf 176 (w8 zeroN))), 176) := by kernel_rfl
theorem info_176 (f : Nat → Value) : (Tryd.prog.info? 88).map (·.size) = some (rowOf 176 f).size := by rw [rowOf_size]; kernel_rfl

theorem ring_at2 (key : Nat → Nat) (i j : Nat) (hj : j < 16) : ringN key (i * 16 + j) = rkN key i j := by rw [Nat.mul_comm]; exact ring_at key i j hj

theorem ring_first (key : Nat → Nat) : rowOf 176 (laidV (w8 zeroN) (w8 key) 0 16) = rowOf 176 (w8 (part (ringN key) zeroN (1 * 16))) := rowOf_congr fun j _ => by
  unfold laidV
  by_cases h : j < 16
  · rw [if_pos (by omega)]
    unfold w8
    rw [part_below _ _ _ _ (by omega), show ringN key j = rkN key 0 j by have := ring_at2 key 0 j h; rwa [Nat.zero_mul, Nat.zero_add] at this]
    rfl
  · rw [if_neg (by omega)]
    unfold w8
    rw [part_above _ _ _ _ (by omega)]

theorem rk_zero (key : Nat → Nat) (k : Nat) (y : Nat) (hy : y = 13) : rkN key k 0 ^^^ (boxN (rkN key k y) ^^^ xtsN 1 k) = rkN key (k + 1) 0 := by subst hy; rfl
theorem rk_row (key : Nat → Nat) (k j y : Nat) (hj : j < 4) (h0 : j ≠ 0) (hy : y = 12 + (j + 1) % 4) : rkN key k j ^^^ boxN (rkN key k y) = rkN key (k + 1) j := by
  subst hy
  show _ = rkCol (rkN key k) (xtsN 1 k) (j / 4) (j % 4)
  rw [show j / 4 = 0 by omega, show j % 4 = j by omega]
  unfold rkCol
  rw [if_neg h0]

set_option maxHeartbeats 4000000 in
set_option maxRecDepth 8000 in
theorem refRounds_any (key : Nat → Nat) (hk : Hid (Byt key)) (w : World) :
    Calls Tryd.prog 53 #[.agg (rowOf 256 (w8 boxN)), .agg (rowOf 16 (w8 key))] w fun e w' => e = .returned (.agg (rowOf 176 (w8 (ringN key)))) ∧ Below w.heap.size w w' := by
  have zv := (zero_of_info zero176).1
  have hw1 := Lib.hid (allocs_row [.cells (rowOf 256 (w8 boxN)) 86, .cells (rowOf 16 (w8 key)) 23, .cells (rowOf 176 (w8 zeroN)) 88, .cells (rowOf 176 (w8 zeroN)) 88] w)
  have r0 : Hid (RowAt ((((w.alloc (.cells (rowOf 256 (w8 boxN)) 86)).alloc (.cells (rowOf 16 (w8 key)) 23)).alloc (.cells (rowOf 176 (w8 zeroN)) 88)).alloc (.cells (rowOf 176 (w8 zeroN)) 88)) w.heap.size 86 (rowOf 256 (w8 boxN))) := hw1.out 0 _ _ rfl
  have r1 : Hid (RowAt ((((w.alloc (.cells (rowOf 256 (w8 boxN)) 86)).alloc (.cells (rowOf 16 (w8 key)) 23)).alloc (.cells (rowOf 176 (w8 zeroN)) 88)).alloc (.cells (rowOf 176 (w8 zeroN)) 88)) (w.heap.size + 1) 23 (rowOf 16 (w8 key))) := hw1.out 1 _ _ rfl
  have r2 : Hid (RowAt ((((w.alloc (.cells (rowOf 256 (w8 boxN)) 86)).alloc (.cells (rowOf 16 (w8 key)) 23)).alloc (.cells (rowOf 176 (w8 zeroN)) 88)).alloc (.cells (rowOf 176 (w8 zeroN)) 88)) (w.heap.size + 1 + 1) 88 (rowOf 176 (w8 zeroN))) := hw1.out 2 _ _ rfl
  have r3 : Hid (RowAt ((((w.alloc (.cells (rowOf 256 (w8 boxN)) 86)).alloc (.cells (rowOf 16 (w8 key)) 23)).alloc (.cells (rowOf 176 (w8 zeroN)) 88)).alloc (.cells (rowOf 176 (w8 zeroN)) 88)) (w.heap.size + 1 + 1 + 1) 88 (rowOf 176 (w8 zeroN))) := hw1.out 3 _ _ rfl
  have b0 : Below w.heap.size w ((((w.alloc (.cells (rowOf 256 (w8 boxN)) 86)).alloc (.cells (rowOf 16 (w8 key)) 23)).alloc (.cells (rowOf 176 (w8 zeroN)) 88)).alloc (.cells (rowOf 176 (w8 zeroN)) 88)) := allocs_below [.cells (rowOf 256 (w8 boxN)) 86, .cells (rowOf 16 (w8 key)) 23, .cells (rowOf 176 (w8 zeroN)) 88, .cells (rowOf 176 (w8 zeroN)) 88] w
  clear hw1
  have q0 := Lib.hid ((r0.out.setRowOther (w.heap.size + 1 + 1 + 1) (rowOf 176 (w8 zeroN)) (by omega)).setRowOther (w.heap.size + 1 + 1 + 1) (rowOf 176 (laidV (w8 zeroN) (w8 key) 0 16)) (by omega))
  have q1 := Lib.hid (r1.out.setRowOther (w.heap.size + 1 + 1 + 1) (rowOf 176 (w8 zeroN)) (by omega))
  have q2 := Lib.hid ((r2.out.setRowOther (w.heap.size + 1 + 1 + 1) (rowOf 176 (w8 zeroN)) (by omega)).setRowOther (w.heap.size + 1 + 1 + 1) (rowOf 176 (laidV (w8 zeroN) (w8 key) 0 16)) (by omega))
  have q3 := Lib.hid (r3.out.setRow (rowOf 176 (w8 zeroN)))
  have q4 := Lib.hid (q3.out.setRow (rowOf 176 (laidV (w8 zeroN) (w8 key) 0 16)))
  have b2 := below_setRow' (below_setRow' b0 (show w.heap.size ≤ (w.heap.size + 1 + 1 + 1) by omega) (rowOf 176 (w8 zeroN))) (show w.heap.size ≤ (w.heap.size + 1 + 1 + 1) by omega) (rowOf 176 (laidV (w8 zeroN) (w8 key) 0 16))
  go_enter Tryd.func53, Tryd.ntmps53
  go_wp2_with (first | (refine wpList_buildTo rfl 88 _ rfl _ rfl (rowOf 176 (w8 zeroN)) (by kernel_rfl) ?_) | (refine wpList_store_row rfl 88 _ _ rfl (w.heap.size + 1 + 1 + 1) (rowOf 176 (w8 zeroN)) rfl rfl 88 _ r3.out (info_176 _) (by rw [rowOf_size]) (rowOf_cells8 _ _) ?_) | (refine wpList_load_row rfl 23 _ rfl (w.heap.size + 1) rfl 23 _ (0, 0) _ q1.out Tryd.underlying23 rfl (info_key _) ?_) | (refine wpList_store_at rfl 23 _ _ rfl (w.heap.size + 1 + 1 + 1) 0 176 16 (w8 zeroN) (w8 key) rfl rfl 88 q3.out (by kernel_rfl) (rowOf_cells8 _ _) (by decide) ?_))
  clear zv r0 r1 r2 r3 b0 q1 q3
  generalize World.setRow _ _ _ = w2 at *
  replace q4 := Lib.hid (q4.out.congr (ring_first key))
  go_loopw [6, 7] (fun y c wr => ∃ k i x : Nat, i = k + 1 ∧ k ≤ 10 ∧ c = .int .i64 i ∧ y = .int .u8 x ∧ x < 256 ∧ Hid (x = xtsN 1 k) ∧ Hid (RowAt wr (w.heap.size + 1 + 1 + 1) 88 (rowOf 176 (w8 (part (ringN key) zeroN (i * 16))))) ∧ Below (w.heap.size + 1 + 1 + 1) w2 wr)
    (fun _ c _ => 11 - (intOf c).toNat)
  case atStart => exact ⟨0, 1, 1, rfl, by omega, rfl, rfl, by omega, rfl, q4, Below.refl _ _⟩
  case round =>
    clear q4
    obtain ⟨k, i, x, hi, hk10, rfl, rfl, hx, hxx, h3, hbl⟩ := hrel
    by_cases hlt : k < 10
    · have ei : (i : Int) - 1 = (k : Int) := by omega
      have lk : (k : Int) < 11 := by omega
      have li : (i : Int) < 11 := by omega
      have BK := Lib.hid (rk_byt hk.out k)
      have HI := Lib.hid hi
      have KI : k * 16 + 16 = i * 16 := by omega
      have k10 : k < 10 := hlt
      clear hi hk10 hlt
      go_wp2
      go_loopw [8] (fun c wr' => ∃ j : Nat, j ≤ 4 ∧ c = .int .i64 j ∧ Hid (RowAt wr' (w.heap.size + 1 + 1 + 1) 88 (rowOf 176 (w8 (part (ringN key) zeroN (i * 16 + j))))) ∧ Below (w.heap.size + 1 + 1 + 1) w2 wr')
        (fun c _ => 4 - (intOf c).toNat)
      case atStart => exact ⟨0, by omega, rfl, h3, hbl⟩
      case round =>
        clear h3 hbl
        obtain ⟨j, hj, rfl, h3, hbl⟩ := hrel
        by_cases hlj : j < 4
        · obtain ⟨y, hy⟩ : ∃ y, y = 12 + (j + 1) % 4 := ⟨_, rfl⟩
          have ey : (12 : Int) + ((j : Int) + 1) % 4 = (y : Int) := by omega
          have ly : (y : Int) < 16 := by omega
          have ly' : y < 16 := by omega
          have lj : (j : Int) < 16 := by omega
          have c0 := h3.out.cell (k * 16 + y) (by omega)
          unfold w8 at c0
          rw [part_below _ _ _ _ (by omega), ring_at2 _ _ _ ly'] at c0
          have lz : rkN key k y < 256 := BK.out y
          have c1 := (q0.out.below hbl (by omega)).cell (rkN key k y) lz
          unfold w8 at c1
          have lz' : ((rkN key k y : Nat) : Int) < 256 := by omega
          by_cases h0 : j = 0
          · have d0 : ((j : Int) == 0) = true := by simp; omega
            have N : Hid (rkN key k j ^^^ (boxN (rkN key k y) ^^^ x) = ringN key (i * 16 + j)) := by
              unfold Hid
              rw [hxx.out, ring_at2 _ _ _ (by omega), HI.out, h0]
              exact rk_zero key k y (by omega)
            replace h0 := Lib.hid h0
            clear hy
            have X1 := u8_xor_nat (boxN (rkN key k y)) x (box_lt_any _) hx
            have lc : boxN (rkN key k y) ^^^ x < 256 := xor8 (box_lt_any _) hx
            generalize boxN (rkN key k y) ^^^ x = cc at *
            generalize boxN (rkN key k y) = bb at *
            generalize hz : rkN key k y = z at *
            clear hz
            go_wp2
            clear X1
            refine wp_region_still_tail 12 (by kernel_rfl) (by kernel_rfl) ?_
            change wpStill _ _ wr.drew (fun a' => wpList _ _ _ _ a' wr.drew) _ _
            replace h3 : Hid (RowAt wr.drew (w.heap.size + 1 + 1 + 1) 88 (rowOf 176 (w8 (part (ringN key) zeroN (i * 16 + j))))) := h3
            replace hbl : Below (w.heap.size + 1 + 1 + 1) w2 wr.drew := hbl.drew
            generalize wr.drew = w9 at *
            have c4 := h3.out.cell (k * 16 + j) (by omega)
            have c5 := h3.out.cell (i * 16 + j) (by omega)
            have f5 := h3.out.free (i * 16 + j)
            unfold w8 at c4
            rw [part_below _ _ _ _ (by omega), ring_at2 _ _ _ (by omega)] at c4
            have E1 := Lib.hid (u8_xor_nat (rkN key k j) cc (BK.out j) lc)
            rw [N.out] at E1
            have e3 := Lib.hid (u8_row 176 (ringN key) zeroN (i * 16 + j))
            clear c0 c1
            simp only [List.take_succ_cons, List.take_zero, List.drop_succ_cons, List.drop_zero]
            refine wpStill_of_quiet _ _ ?_
            repeat (first | go_big_quiet_skip | (go_big_quiet_want; go_big_quiet_op; go_big_quiet_on))
            refine wpQuiet_nil ?_
            go_wp2
            go_roundw
            case rel =>
              refine ⟨j + 1, by omega, by go_num, ?_, hbl.setCell (Nat.le_refl _) _⟩
              rw [E1.out]
              exact (h3.out.set (i * 16 + j) _).congr e3.out
            case measure => simp [intOf]; omega
          · have d0 : ((j : Int) == 0) = false := by simp; omega
            have N : Hid (rkN key k j ^^^ boxN (rkN key k y) = ringN key (i * 16 + j)) := by
              unfold Hid
              rw [ring_at2 _ _ _ (by omega), HI.out]
              exact rk_row key k j y hlj h0 hy
            clear hy h0
            have lc : boxN (rkN key k y) < 256 := box_lt_any _
            generalize boxN (rkN key k y) = bb at *
            generalize hz : rkN key k y = z at *
            clear hz
            go_wp2
            refine wp_region_still_tail 12 (by kernel_rfl) (by kernel_rfl) ?_
            change wpStill _ _ wr.drew (fun a' => wpList _ _ _ _ a' wr.drew) _ _
            replace h3 : Hid (RowAt wr.drew (w.heap.size + 1 + 1 + 1) 88 (rowOf 176 (w8 (part (ringN key) zeroN (i * 16 + j))))) := h3
            replace hbl : Below (w.heap.size + 1 + 1 + 1) w2 wr.drew := hbl.drew
            generalize wr.drew = w9 at *
            have c4 := h3.out.cell (k * 16 + j) (by omega)
            have c5 := h3.out.cell (i * 16 + j) (by omega)
            have f5 := h3.out.free (i * 16 + j)
            unfold w8 at c4
            rw [part_below _ _ _ _ (by omega), ring_at2 _ _ _ (by omega)] at c4
            have E1 := Lib.hid (u8_xor_nat (rkN key k j) bb (BK.out j) lc)
            rw [N.out] at E1
            have e3 := Lib.hid (u8_row 176 (ringN key) zeroN (i * 16 + j))
            clear c0 c1
            simp only [List.take_succ_cons, List.take_zero, List.drop_succ_cons, List.drop_zero]
            refine wpStill_of_quiet _ _ ?_
            repeat (first | go_big_quiet_skip | (go_big_quiet_want; go_big_quiet_op; go_big_quiet_on))
            refine wpQuiet_nil ?_
            go_wp2
            go_roundw
            case rel =>
              refine ⟨j + 1, by omega, by go_num, ?_, hbl.setCell (Nat.le_refl _) _⟩
              rw [E1.out]
              exact (h3.out.set (i * 16 + j) _).congr e3.out
            case measure => simp [intOf]; omega
        · have : j = 4 := by omega
          subst this
          go_wp2
          go_loopw [10] (fun c wr' => ∃ j : Nat, 4 ≤ j ∧ j ≤ 16 ∧ c = .int .i64 j ∧ Hid (RowAt wr' (w.heap.size + 1 + 1 + 1) 88 (rowOf 176 (w8 (part (ringN key) zeroN (i * 16 + j))))) ∧ Below (w.heap.size + 1 + 1 + 1) w2 wr')
            (fun c _ => 16 - (intOf c).toNat)
          case atStart => exact ⟨4, by omega, by omega, rfl, h3, hbl⟩
          case round =>
            clear h3 hbl
            obtain ⟨j, hj4, hj, rfl, h3, hbl⟩ := hrel
            by_cases hlj : j < 16
            · obtain ⟨m, hm⟩ : ∃ m, j = m + 4 := ⟨j - 4, by omega⟩
              have em : (j : Int) - 4 = (m : Int) := by omega
              have lm : (m : Int) < 16 := by omega
              have lj : (j : Int) < 16 := by omega
              have N : Hid (rkN key k j ^^^ rkN key i m = ringN key (i * 16 + j)) := by
                unfold Hid
                rw [ring_at2 _ _ _ hlj, HI.out]
                exact next_col (rkN key k) (xtsN 1 k) j m hm
              have mj : m < j := by omega
              have lr : rkN key i m < 256 := rk_byt hk.out i m
              clear hm
              go_wp2
              refine wp_region_still_tail 17 (by kernel_rfl) (by kernel_rfl) ?_
              change wpStill _ _ wr.drew (fun a' => wpList _ _ _ _ a' wr.drew) _ _
              replace h3 : Hid (RowAt wr.drew (w.heap.size + 1 + 1 + 1) 88 (rowOf 176 (w8 (part (ringN key) zeroN (i * 16 + j))))) := h3
              replace hbl : Below (w.heap.size + 1 + 1 + 1) w2 wr.drew := hbl.drew
              generalize wr.drew = w9 at *
              have c4 := h3.out.cell (k * 16 + j) (by omega)
              have c5 := h3.out.cell (i * 16 + j) (by omega)
              have c6 := h3.out.cell (i * 16 + m) (by omega)
              have f5 := h3.out.free (i * 16 + j)
              unfold w8 at c4 c6
              rw [part_below _ _ _ _ (by omega), ring_at2 _ _ _ (by omega)] at c4
              rw [part_below _ _ _ _ (by omega), ring_at2 _ _ _ (by omega)] at c6
              have E1 := Lib.hid (u8_xor_nat (rkN key k j) (rkN key i m) (BK.out j) lr)
              rw [N.out] at E1
              have e3 := Lib.hid (u8_row 176 (ringN key) zeroN (i * 16 + j))
              generalize rkN key i m = z at *
              simp only [List.take_succ_cons, List.take_zero, List.drop_succ_cons, List.drop_zero]
              refine wpStill_of_quiet _ _ ?_
              repeat (first | go_big_quiet_skip | (go_big_quiet_want; go_big_quiet_op; go_big_quiet_on))
              refine wpQuiet_nil ?_
              go_wp2
              go_roundw
              case rel =>
                refine ⟨j + 1, by omega, by omega, by go_num, ?_, hbl.setCell (Nat.le_refl _) _⟩
                rw [E1.out]
                exact (h3.out.set (i * 16 + j) _).congr e3.out
              case measure => simp [intOf]; omega
            · have : j = 16 := by omega
              subst this
              have T := Lib.hid (fun W => refTimes_any x 2 hx (by decide) W)
              rw [times_two hx] at T
              have l1 := xt_lt hx
              have A1 : Hid (xtN x = xtsN 1 i) := by unfold Hid; rw [hxx.out, HI.out]; rfl
              have i10 : i ≤ 10 := by omega
              have r16 : Hid (i * 16 + 16 = (i + 1) * 16) := by unfold Hid; omega
              rw [r16.out] at h3
              go_wp2_with fail
              refine (T.out _).mono ?_
              rintro e w4 ⟨rfl, rfl⟩
              clear T
              go_wp2
              go_roundw
              case rel => exact ⟨i, i + 1, xtN x, rfl, i10, by go_num, rfl, l1, A1, h3, hbl⟩
              case measure => simp [intOf]; omega
    · have : k = 10 := by omega
      subst this
      have : i = 11 := by omega
      subst this
      have hr3 : Hid (RowAt wr (w.heap.size + 1 + 1 + 1) 88 (rowOf 176 (w8 (ringN key)))) := h3.out.congr (part_all 176 _ _)
      have h2 : Hid (RowAt wr (w.heap.size + 1 + 1) 88 (rowOf 176 (w8 zeroN))) := q2.out.below hbl (by omega)
      clear h3
      go_wp2_with (first | (refine wpList_load_row rfl 88 _ rfl (w.heap.size + 1 + 1 + 1) rfl 88 _ (0, 0) _ hr3.out Tryd.underlying88 rfl (info_176 _) ?_) | (refine wpList_store_row rfl 88 _ _ rfl (w.heap.size + 1 + 1) (rowOf 176 (w8 (ringN key))) rfl rfl 88 _ h2.out (info_176 _) (by rw [rowOf_size, rowOf_size]) (rowOf_cells8 _ _) ?_))
      refine bodyPost_ret (v := .agg (rowOf 176 (w8 (ringN key)))) ?_ rfl ⟨rfl, below_setRow' (b2.trans (hbl.mono (by omega))) (by omega) _⟩
      exact results_cell_row Tryd.results53 _ _ (w.heap.size + 1 + 1) 88 (rowOf 176 (w8 (ringN key))) (0, 0) _ rfl (h2.out.setRow _) Tryd.underlying88 rfl (info_176 _)

end Go.Proofs.YtacekpjkgkkekaaDoor
/-
  Contract: the document's Lock.
-/
namespace Go.Proofs.YtacekpjkgkkekaaDoor
open Go.RowKit

theorem aMix_at (t : Nat → Nat) (c r y y1 y2 y3 : Nat) (hr : r < 4) (h : y = 4 * c + r) (h1 : y1 = 4 * c + (r + 1) % 4) (h2 : y2 = 4 * c + (r + 2) % 4) (h3 : y3 = 4 * c + (r + 3) % 4) :
    timesN (t y) 2 ^^^ timesN (t y1) 3 ^^^ t y2 ^^^ t y3 = aMix t y := by
  unfold aMix colN
  rw [show 4 * (y / 4) + (y % 4 + 1) % 4 = y1 by omega, show 4 * (y / 4) + (y % 4 + 2) % 4 = y2 by omega, show 4 * (y / 4) + (y % 4 + 3) % 4 = y3 by omega]
theorem aShift_at (s : Nat → Nat) (c r y z : Nat) (hr : r < 4) (h : y = 4 * c + r) (hz : z = 4 * ((c + r) % 4) + r) : boxN (s z) = aShift (aSub s) y := by
  unfold aShift aSub
  rw [show 4 * ((y / 4 + y % 4) % 4) + y % 4 = z by omega]

/-- While the document's Lock goes on: room for the answer (two above the key), the boxes at x, the round keys at l, the block s at q; the rest as it was. -/
structure RlI (w : World) (x l q : Nat) (key s : Nat → Nat) (w' : World) : Prop where
  room : RowAt w' (w.heap.size + 1 + 1) 23 (rowOf 16 (w8 zeroN))
  box : RowAt w' x 86 (rowOf 256 (w8 boxN))
  rks : RowAt w' l 88 (rowOf 176 (w8 (ringN key)))
  blk : RowAt w' q 23 (rowOf 16 (w8 s))
  rest : Below w.heap.size w w'
  hx : w.heap.size + 1 + 1 < x
  hl : w.heap.size + 1 + 1 < l
  hq : w.heap.size + 1 + 1 < q
  hxq : x ≠ q
  hlq : l ≠ q

section
variable {w w1 w2 : World} {x l q : Nat} {key s : Nat → Nat}
theorem RlI.after (hb : Below w1.heap.size w1 w2) (h : RlI w x l q key s w1) : RlI w x l q key s w2 :=
  ⟨h.room.below hb h.room.lt, h.box.below hb h.box.lt, h.rks.below hb h.rks.lt, h.blk.below hb h.blk.lt, h.rest.trans (hb.mono h.rest.size), h.hx, h.hl, h.hq, h.hxq, h.hlq⟩
/-- What lies above all of it may turn. -/
theorem RlI.over {B : Nat} (hb : Below B w1 w2) (h : RlI w x l q key s w1) (h1 : x < B) (h2 : l < B) (h3 : q < B) : RlI w x l q key s w2 := by
  have := h.hx
  exact ⟨h.room.below hb (by omega), h.box.below hb h1, h.rks.below hb h2, h.blk.below hb h3, h.rest.trans (hb.mono (by omega)), h.hx, h.hl, h.hq, h.hxq, h.hlq⟩
theorem RlI.store (h : RlI w x l q key s w1) (t : Nat → Nat) : RlI w x l q key t (w1.setRow q (rowOf 16 (w8 t))) := by
  have := h.hq
  exact ⟨h.room.setRowOther q _ (by omega), h.box.setRowOther q _ h.hxq, h.rks.setRowOther q _ h.hlq, h.blk.setRow _, below_setRow' h.rest (by omega) _, h.hx, h.hl, h.hq, h.hxq, h.hlq⟩
end

/-- A second block, t, above all of it. -/
structure R2I (w : World) (x l q v : Nat) (key s t : Nat → Nat) (w' : World) : Prop where
  rl : RlI w x l q key s w'
  out : RowAt w' v 23 (rowOf 16 (w8 t))
  hv1 : x < v
  hv2 : l < v
  hv3 : q < v

section
variable {w w1 w2 : World} {x l q v : Nat} {key s t : Nat → Nat}
theorem R2I.after (hb : Below w1.heap.size w1 w2) (h : R2I w x l q v key s t w1) : R2I w x l q v key s t w2 := ⟨h.rl.after hb, h.out.below hb h.out.lt, h.hv1, h.hv2, h.hv3⟩
theorem R2I.drew (h : R2I w x l q v key s t w1) : R2I w x l q v key s t w1.drew := h.after (Below.refl _ _).drew
theorem R2I.over (hb : Below (v + 1) w1 w2) (h : R2I w x l q v key s t w1) : R2I w x l q v key s t w2 := by
  have := h.hv1
  have := h.hv2
  have := h.hv3
  exact ⟨h.rl.over hb (by omega) (by omega) (by omega), h.out.below hb (by omega), h.hv1, h.hv2, h.hv3⟩
theorem R2I.store (h : R2I w x l q v key s t w1) (u : Nat → Nat) : R2I w x l q v key s u (w1.setRow v (rowOf 16 (w8 u))) :=
  ⟨h.rl.over (below_setRow' (Below.refl v _) (Nat.le_refl _) _) h.hv1 h.hv2 h.hv3, h.out.setRow _, h.hv1, h.hv2, h.hv3⟩
theorem R2I.cell {y : Nat} {f g : Nat → Nat} (h : R2I w x l q v key s (part f g y) w1) : R2I w x l q v key s (part f g (y + 1)) (w1.setCell ⟨v, y, none⟩ (.int .u8 ((f y : Nat) : Int))) :=
  ⟨h.rl.over ((Below.refl v _).setCell (Nat.le_refl _) _) h.hv1 h.hv2 h.hv3, (h.out.set y _).congr (u8_row 16 f g y), h.hv1, h.hv2, h.hv3⟩
theorem R2I.congr {u : Nat → Nat} (h : R2I w x l q v key s t w1) (e : ∀ j, j < 16 → t j = u j) : R2I w x l q v key s u w1 :=
  ⟨h.rl, h.out.congr (rowOf_congr fun j hj => by unfold w8; rw [e j hj]), h.hv1, h.hv2, h.hv3⟩
end

theorem R2I.start {w w1 : World} {x l q : Nat} {key s : Nat → Nat} (h : RlI w x l q key s w1) : R2I w x l q w1.heap.size key s zeroN ((w1.alloc (.cells (rowOf 16 (w8 zeroN)) 23)).setRow w1.heap.size (rowOf 16 (w8 zeroN))) :=
  ⟨h.after (below_setRow' ((Below.refl _ _).alloc (Nat.le_refl _) _) (Nat.le_refl _) _), (RowAt.new w1 23 (rowOf 16 (w8 zeroN))).setRow _, h.box.lt, h.rks.lt, h.blk.lt⟩

theorem zero16 : (Tryd.prog.info? 23).map (fun i => (i.zero, i.size)) = some (some (.agg (rowOf 16 (w8 zeroN))), 16) := by kernel_rfl
theorem ring_get (key : Nat → Nat) (i : Nat) (hi : i < 11) : ∀ j, j < 16 → (rowOf 176 (w8 (ringN key)))[i * 16 + j]? = some (w8 (rkN key i) j) := fun j hj => by
  rw [rowOf_get _ _ _ (by omega)]
  unfold w8
  rw [ring_at2 key i j hj]

set_option maxHeartbeats 8000000 in
set_option maxRecDepth 8000 in
theorem refLock_any (key b : Nat → Nat) (hk : Hid (Byt key)) (hb : Hid (Byt b)) (w : World) :
    Calls Tryd.prog 39 #[.agg (rowOf 16 (w8 key)), .agg (rowOf 16 (w8 b))] w fun e w' => e = .returned (.agg (rowOf 16 (w8 (lockN key b)))) ∧ Below w.heap.size w w' := by
  have zv := (zero_of_info zero176).1
  have zv2 := (zero_of_info zero256).1
  have zv3 := (zero_of_info zero16).1
  have hw1 := Lib.hid (allocs_row [.cells (rowOf 16 (w8 key)) 23, .cells (rowOf 16 (w8 b)) 23, .cells (rowOf 16 (w8 zeroN)) 23] w)
  have r0 : Hid (RowAt (((w.alloc (.cells (rowOf 16 (w8 key)) 23)).alloc (.cells (rowOf 16 (w8 b)) 23)).alloc (.cells (rowOf 16 (w8 zeroN)) 23)) w.heap.size 23 (rowOf 16 (w8 key))) := hw1.out 0 _ _ rfl
  have r1 : Hid (RowAt (((w.alloc (.cells (rowOf 16 (w8 key)) 23)).alloc (.cells (rowOf 16 (w8 b)) 23)).alloc (.cells (rowOf 16 (w8 zeroN)) 23)) (w.heap.size + 1) 23 (rowOf 16 (w8 b))) := hw1.out 1 _ _ rfl
  have r2 : Hid (RowAt (((w.alloc (.cells (rowOf 16 (w8 key)) 23)).alloc (.cells (rowOf 16 (w8 b)) 23)).alloc (.cells (rowOf 16 (w8 zeroN)) 23)) (w.heap.size + 1 + 1) 23 (rowOf 16 (w8 zeroN))) := hw1.out 2 _ _ rfl
  have b0 : Below w.heap.size w (((w.alloc (.cells (rowOf 16 (w8 key)) 23)).alloc (.cells (rowOf 16 (w8 b)) 23)).alloc (.cells (rowOf 16 (w8 zeroN)) 23)) := allocs_below [.cells (rowOf 16 (w8 key)) 23, .cells (rowOf 16 (w8 b)) 23, .cells (rowOf 16 (w8 zeroN)) 23] w
  clear hw1
  go_enter Tryd.func39, Tryd.ntmps39
  go_wp2_with fail
  generalize (((w.alloc (.cells (rowOf 16 (w8 key)) 23)).alloc (.cells (rowOf 16 (w8 b)) 23)).alloc (.cells (rowOf 16 (w8 zeroN)) 23)) = w1 at *
  refine (refBoxes_any w1).mono ?_
  rintro e w2 ⟨rfl, hb2⟩
  replace r0 := Lib.hid (r0.out.below hb2 r0.out.lt)
  replace r1 := Lib.hid (r1.out.below hb2 r1.out.lt)
  replace r2 := Lib.hid (r2.out.below hb2 r2.out.lt)
  replace b0 := b0.trans (hb2.mono b0.size)
  clear hb2
  have r3 := Lib.hid (RowAt.new w2 86 (rowOf 256 (w8 zeroN)))
  have q3 := Lib.hid (r3.out.setRow (rowOf 256 (w8 boxN)))
  have hb3 : Below w2.heap.size w2 ((w2.alloc (.cells (rowOf 256 (w8 zeroN)) 86)).setRow w2.heap.size (rowOf 256 (w8 boxN))) := below_setRow' ((Below.refl _ _).alloc (Nat.le_refl _) _) (Nat.le_refl _) _
  have l2 := r2.out.lt
  replace r0 := Lib.hid (r0.out.below hb3 r0.out.lt)
  replace r1 := Lib.hid (r1.out.below hb3 r1.out.lt)
  replace r2 := Lib.hid (r2.out.below hb3 r2.out.lt)
  replace b0 := b0.trans (hb3.mono b0.size)
  clear hb3
  go_wp2_with (first | (refine wpList_store_row rfl 86 _ _ rfl w2.heap.size (rowOf 256 (w8 boxN)) rfl rfl 86 _ r3.out (info_256 _) (by rw [rowOf_size, rowOf_size]) (rowOf_cells8 _ _) ?_) | (refine wpList_load_row rfl 86 _ rfl w2.heap.size rfl 86 _ (0, 0) _ q3.out Tryd.underlying86 rfl (info_256 _) ?_) | (refine wpList_load_row rfl 23 _ rfl w.heap.size rfl 23 _ (0, 0) _ r0.out Tryd.underlying23 rfl (info_key _) ?_))
  clear r3
  generalize World.setRow _ _ _ = w3 at *
  generalize w2.heap.size = x at *
  refine (refRounds_any key hk w3).mono ?_
  rintro e w4 ⟨rfl, hb4⟩
  have l3 := q3.out.lt
  replace r1 := Lib.hid (r1.out.below hb4 r1.out.lt)
  replace r2 := Lib.hid (r2.out.below hb4 r2.out.lt)
  replace q3 := Lib.hid (q3.out.below hb4 q3.out.lt)
  replace b0 := b0.trans (hb4.mono b0.size)
  have l4 := hb4.size
  clear hb4 r0
  have r4 := Lib.hid (RowAt.new w4 88 (rowOf 176 (w8 zeroN)))
  have q4 := Lib.hid (r4.out.setRow (rowOf 176 (w8 (ringN key))))
  have hb5 : Below w4.heap.size w4 ((w4.alloc (.cells (rowOf 176 (w8 zeroN)) 88)).setRow w4.heap.size (rowOf 176 (w8 (ringN key)))) := below_setRow' ((Below.refl _ _).alloc (Nat.le_refl _) _) (Nat.le_refl _) _
  replace r1 := Lib.hid (r1.out.below hb5 r1.out.lt)
  replace r2 := Lib.hid (r2.out.below hb5 r2.out.lt)
  replace q3 := Lib.hid (q3.out.below hb5 q3.out.lt)
  replace b0 := b0.trans (hb5.mono b0.size)
  clear hb5
  have g0 : Hid (∀ j, j < 16 → (rowOf 176 (w8 (ringN key)))[0 + j]? = some (w8 (rkN key 0) j)) := fun j hj => by
    rw [rowOf_get _ _ _ (by omega)]
    unfold w8
    rw [show ringN key (0 + j) = rkN key 0 j by have := ring_at2 key 0 j hj; rwa [Nat.zero_mul] at this]
  go_wp2_with (first | (refine wpList_store_row rfl 88 _ _ rfl w4.heap.size (rowOf 176 (w8 (ringN key))) rfl rfl 88 _ r4.out (info_176 _) (by rw [rowOf_size, rowOf_size]) (rowOf_cells8 _ _) ?_) | (refine wpList_load_row rfl 23 _ rfl (w.heap.size + 1) rfl 23 _ (0, 0) _ r1.out Tryd.underlying23 rfl (info_key _) ?_) | (refine wpList_load_at rfl 23 _ rfl w4.heap.size 0 rfl 88 _ _ 16 (w8 (rkN key 0)) q4.out g0.out Tryd.underlying23 rfl (by kernel_rfl) ?_))
  clear r4 g0 zv zv2
  generalize World.setRow _ _ _ = w5 at *
  have lxl : x < w4.heap.size := by omega
  generalize w4.heap.size = l at *
  refine (refXor_keys b (rkN key 0) hb (Lib.hid (rk_byt hk.out 0)) w5).mono ?_
  rintro e w6 ⟨rfl, hb6⟩
  have l5 := q4.out.lt
  have l6 := hb6.size
  replace r2 := Lib.hid (r2.out.below hb6 r2.out.lt)
  replace q3 := Lib.hid (q3.out.below hb6 q3.out.lt)
  replace q4 := Lib.hid (q4.out.below hb6 q4.out.lt)
  replace b0 := b0.trans (hb6.mono b0.size)
  clear hb6 r1
  have r7 := Lib.hid (RowAt.new w6 23 (rowOf 16 (w8 zeroN)))
  have hb7 : Below w6.heap.size w6 ((w6.alloc (.cells (rowOf 16 (w8 zeroN)) 23)).setRow w6.heap.size (rowOf 16 (w8 (aAdd b (rkN key 0))))) := below_setRow' ((Below.refl _ _).alloc (Nat.le_refl _) _) (Nat.le_refl _) _
  have hI : Hid (RlI w x l w6.heap.size key (aAdd b (rkN key 0)) ((w6.alloc (.cells (rowOf 16 (w8 zeroN)) 23)).setRow w6.heap.size (rowOf 16 (w8 (aAdd b (rkN key 0)))))) :=
    ⟨r2.out.below hb7 r2.out.lt, q3.out.below hb7 q3.out.lt, q4.out.below hb7 q4.out.lt, r7.out.setRow _, b0.trans (hb7.mono b0.size), by omega, by omega, by omega, by omega, by omega⟩
  clear hb7 r2 q3 q4 b0
  go_wp2_with (refine wpList_store_row rfl 23 _ _ rfl w6.heap.size (rowOf 16 (w8 (aAdd b (rkN key 0)))) rfl rfl 23 _ r7.out (info_key _) (by rw [rowOf_size, rowOf_size]) (rowOf_cells8 _ _) ?_)
  clear r7
  generalize World.setRow _ _ _ = w7 at *
  generalize w6.heap.size = q at *
  clear l2 l3 l4 l5 l6 lxl
  go_loopw [8] (fun y wr => ∃ k i : Nat, i = k + 1 ∧ k ≤ 10 ∧ y = .int .i64 i ∧ Hid (RlI w x l q key (lockTo key b k) wr))
    (fun y _ => 11 - (intOf y).toNat)
  case atStart => exact ⟨0, 1, rfl, by omega, rfl, hI⟩
  case round =>
    clear hI
    obtain ⟨k, i, hi, hk10, rfl, hI⟩ := hrel
    by_cases hlt : k < 10
    · have BS := Lib.hid (lockTo_byt hk.out hb.out k)
      have BK := Lib.hid (rk_byt hk.out i)
      have L1 : Hid (lockTo key b i = roundS (lockTo key b k) (rkN key i) (decide (i = 10))) := by unfold Hid; rw [hi]; rfl
      generalize lockTo key b k = s at *
      have i10 : i ≤ 10 := by omega
      have li : (i : Int) < 11 := by omega
      have hi1 : 1 ≤ i := by omega
      have d0 : decide ((i : Int) < 11) = true := decide_eq_true (by omega)
      clear hi hk10 hlt
      have r8 := Lib.hid (RowAt.new wr 23 (rowOf 16 (w8 zeroN)))
      have hJ := Lib.hid (R2I.start hI.out)
      clear hI
      go_wp2_with (first | (refine wpList_buildTo rfl 23 _ rfl _ rfl (rowOf 16 (w8 zeroN)) (by kernel_rfl) ?_) | (refine wpList_store_row rfl 23 _ _ rfl wr.heap.size (rowOf 16 (w8 zeroN)) rfl rfl 23 _ r8.out (info_key _) (by rw [rowOf_size]) (rowOf_cells8 _ _) ?_))
      clear r8
      generalize World.setRow _ _ _ = w8' at *
      generalize wr.heap.size = v at *
      go_loopw [10] (fun y wr' => ∃ c : Nat, c ≤ 4 ∧ y = .int .i64 c ∧ Hid (R2I w x l q v key s (part (aShift (aSub s)) zeroN (4 * c)) wr'))
        (fun y _ => 4 - (intOf y).toNat)
      case atStart => exact ⟨0, by omega, rfl, by rw [Nat.mul_zero, part_zero]; exact hJ⟩
      case round =>
        clear hJ
        obtain ⟨c, hc, rfl, hJ⟩ := hrel
        by_cases hlc : c < 4
        · go_wp2
          go_loopw [11] (fun y wr'' => ∃ r : Nat, r ≤ 4 ∧ y = .int .i64 r ∧ Hid (R2I w x l q v key s (part (aShift (aSub s)) zeroN (4 * c + r)) wr''))
            (fun y _ => 4 - (intOf y).toNat)
          case atStart => exact ⟨0, by omega, rfl, hJ⟩
          case round =>
            clear hJ
            obtain ⟨r, hr, rfl, hJ⟩ := hrel
            by_cases hlr : r < 4
            · obtain ⟨y, hy⟩ : ∃ y, y = 4 * c + r := ⟨_, rfl⟩
              obtain ⟨z, hz⟩ : ∃ z, z = 4 * ((c + r) % 4) + r := ⟨_, rfl⟩
              have ey : (4 : Int) * (c : Int) + (r : Int) = (y : Int) := by omega
              have ez : (4 : Int) * (((c : Int) + (r : Int)) % 4) + (r : Int) = (z : Int) := by omega
              have ly : y < 16 := by omega
              have lz : z < 16 := by omega
              have N := Lib.hid (aShift_at s c r y z hlr hy hz)
              rw [← hy] at hJ
              have Y := Lib.hid hy
              clear hy hz
              have c0 := hJ.out.rl.blk.cell z lz
              have lb := BS.out z
              have c1 := hJ.out.rl.box.cell (s z) lb
              have c2 := hJ.out.out.cell y ly
              have f2 := hJ.out.out.free y
              unfold w8 at c0 c1
              have F := Lib.hid (hJ.out.cell)
              rw [← N.out] at F
              generalize boxN (s z) = bb at *
              generalize hsz : s z = sz at *
              clear hsz N
              go_wp2
              go_roundw
              case rel => exact ⟨r + 1, by omega, by go_num, by rw [show 4 * c + (r + 1) = y + 1 by rw [Y.out]; omega]; exact F⟩
              case measure => simp [intOf]; omega
            · have : r = 4 := by omega
              subst this
              go_wp2
              go_roundw
              case rel => exact ⟨c + 1, by omega, by go_num, hJ⟩
              case measure => simp [intOf]; omega
        · have : c = 4 := by omega
          subst this
          replace hJ := Lib.hid (hJ.out.congr (u := aShift (aSub s)) fun j hj => part_below _ _ _ _ hj)
          have BT := Lib.hid (aShift_byt (aSub_byt s))
          by_cases h10 : i < 10
          · have d1 : decide ((i : Int) < 10) = true := decide_eq_true (by omega)
            have d2 : decide (i = 10) = false := decide_eq_false (by omega)
            rw [d2] at L1
            replace L1 : Hid (lockTo key b i = aAdd (aMix (aShift (aSub s))) (rkN key i)) := L1.out
            generalize aShift (aSub s) = t at *
            have r9 := Lib.hid (RowAt.new wr 23 (rowOf 16 (w8 zeroN)))
            have hU : Hid (RowAt ((wr.alloc (.cells (rowOf 16 (w8 zeroN)) 23)).setRow wr.heap.size (rowOf 16 (w8 zeroN))) wr.heap.size 23 (rowOf 16 (w8 zeroN))) := r9.out.setRow _
            have hb9 : Below wr.heap.size wr ((wr.alloc (.cells (rowOf 16 (w8 zeroN)) 23)).setRow wr.heap.size (rowOf 16 (w8 zeroN))) := below_setRow' ((Below.refl _ _).alloc (Nat.le_refl _) _) (Nat.le_refl _) _
            have lv := hJ.out.out.lt
            replace hJ := Lib.hid (hJ.out.after hb9)
            clear hb9
            go_wp2_with (first | (refine wpList_buildTo rfl 23 _ rfl _ rfl (rowOf 16 (w8 zeroN)) (by kernel_rfl) ?_) | (refine wpList_store_row rfl 23 _ _ rfl wr.heap.size (rowOf 16 (w8 zeroN)) rfl rfl 23 _ r9.out (info_key _) (by rw [rowOf_size]) (rowOf_cells8 _ _) ?_))
            clear r9
            generalize World.setRow _ _ _ = w9' at *
            generalize wr.heap.size = u at *
            go_loopw [13] (fun y wr' => ∃ c : Nat, c ≤ 4 ∧ y = .int .i64 c ∧ Hid (R2I w x l q v key s t wr') ∧ Hid (RowAt wr' u 23 (rowOf 16 (w8 (part (aMix t) zeroN (4 * c))))))
              (fun y _ => 4 - (intOf y).toNat)
            case atStart => exact ⟨0, by omega, rfl, hJ, by rw [Nat.mul_zero, part_zero]; exact hU⟩
            case round =>
              clear hJ hU
              obtain ⟨c, hc, rfl, hJ, hU⟩ := hrel
              by_cases hlc : c < 4
              · go_wp2
                go_loopw [14] (fun y wr'' => ∃ r : Nat, r ≤ 4 ∧ y = .int .i64 r ∧ Hid (R2I w x l q v key s t wr'') ∧ Hid (RowAt wr'' u 23 (rowOf 16 (w8 (part (aMix t) zeroN (4 * c + r))))))
                  (fun y _ => 4 - (intOf y).toNat)
                case atStart => exact ⟨0, by omega, rfl, hJ, hU⟩
                case round =>
                  clear hJ hU
                  obtain ⟨r, hr, rfl, hJ, hU⟩ := hrel
                  by_cases hlr : r < 4
                  · obtain ⟨y, hy⟩ : ∃ y, y = 4 * c + r := ⟨_, rfl⟩
                    obtain ⟨y1, hy1⟩ : ∃ y1, y1 = 4 * c + (r + 1) % 4 := ⟨_, rfl⟩
                    obtain ⟨y2, hy2⟩ : ∃ y2, y2 = 4 * c + (r + 2) % 4 := ⟨_, rfl⟩
                    obtain ⟨y3, hy3⟩ : ∃ y3, y3 = 4 * c + (r + 3) % 4 := ⟨_, rfl⟩
                    have ey : (4 : Int) * (c : Int) + (r : Int) = (y : Int) := by omega
                    have ey1 : (4 : Int) * (c : Int) + ((r : Int) + 1) % 4 = (y1 : Int) := by omega
                    have ey2 : (4 : Int) * (c : Int) + ((r : Int) + 2) % 4 = (y2 : Int) := by omega
                    have ey3 : (4 : Int) * (c : Int) + ((r : Int) + 3) % 4 = (y3 : Int) := by omega
                    have ly : y < 16 := by omega
                    have ly1 : y1 < 16 := by omega
                    have ly2 : y2 < 16 := by omega
                    have ly3 : y3 < 16 := by omega
                    have N := Lib.hid (aMix_at t c r y y1 y2 y3 hlr hy hy1 hy2 hy3)
                    rw [← hy] at hU
                    have Y := Lib.hid hy
                    clear hy hy1 hy2 hy3
                    have m0 := BT.out y
                    have m1 := BT.out y1
                    have m2 := BT.out y2
                    have m3 := BT.out y3
                    go_wp2
                    refine wp_region_still_tail 40 (by kernel_rfl) (by kernel_rfl) ?_
                    change wpStill _ _ wr.drew (fun a' => wpList _ _ _ _ a' wr.drew) _ _
                    replace hU : Hid (RowAt wr.drew u 23 (rowOf 16 (w8 (part (aMix t) zeroN y)))) := hU
                    replace hJ := Lib.hid hJ.out.drew
                    generalize wr.drew = w9 at *
                    have c0 := hJ.out.out.cell y ly
                    have c1 := hJ.out.out.cell y1 ly1
                    have c2 := hJ.out.out.cell y2 ly2
                    have c3 := hJ.out.out.cell y3 ly3
                    have cu := hU.out.cell y ly
                    have fu := hU.out.free y
                    unfold w8 at c0 c1 c2 c3
                    have T2 := Lib.hid (refTimes_any (t y) 2 m0 (by decide) w9)
                    have T3 := Lib.hid (refTimes_any (t y1) 3 m1 (by decide) w9)
                    have n0 := times_lt m0 2
                    have n1 := times_lt m1 3
                    generalize timesN (t y) 2 = a0 at *
                    generalize timesN (t y1) 3 = a1 at *
                    have E1 := u8_xor_nat a0 a1 n0 n1
                    have n2 := xor8 n0 n1
                    generalize a0 ^^^ a1 = a2 at *
                    have E2 := u8_xor_nat a2 (t y2) n2 m2
                    have n3 := xor8 n2 m2
                    generalize a2 ^^^ t y2 = a3 at *
                    have E3 := u8_xor_nat a3 (t y3) n3 m3
                    generalize a3 ^^^ t y3 = a4 at *
                    have e3 := Lib.hid (u8_row 16 (aMix t) zeroN y)
                    rw [← N.out] at e3
                    clear N
                    simp only [List.take_succ_cons, List.take_zero, List.drop_succ_cons, List.drop_zero]
                    refine wpStill_of_quiet _ _ ?_
                    repeat (first | go_big_quiet_skip | (go_big_quiet_want; go_big_quiet_op; go_big_quiet_on))
                    (go_big_quiet_want; go_big_quiet_op; apply Exists.intro; refine ⟨T2.out, ?_⟩; go_big_quiet_on)
                    repeat (first | go_big_quiet_skip | (go_big_quiet_want; go_big_quiet_op; go_big_quiet_on))
                    (go_big_quiet_want; go_big_quiet_op; apply Exists.intro; refine ⟨T3.out, ?_⟩; go_big_quiet_on)
                    repeat (first | go_big_quiet_skip | (go_big_quiet_want; go_big_quiet_op; go_big_quiet_on))
                    refine wpQuiet_nil ?_
                    clear T2 T3
                    go_wp2
                    go_roundw
                    case rel =>
                      refine ⟨r + 1, by omega, by go_num, Lib.hid (hJ.out.over ((Below.refl (v + 1) _).setCell (by show v + 1 ≤ u; omega) _)), ?_⟩
                      rw [show 4 * c + (r + 1) = y + 1 by rw [Y.out]; omega]
                      exact (hU.out.set y _).congr e3.out
                    case measure => simp [intOf]; omega
                  · have : r = 4 := by omega
                    subst this
                    go_wp2
                    go_roundw
                    case rel => exact ⟨c + 1, by omega, by go_num, hJ, hU⟩
                    case measure => simp [intOf]; omega
              · have : c = 4 := by omega
                subst this
                replace hU : Hid (RowAt wr u 23 (rowOf 16 (w8 (aMix t)))) := hU.out.congr (part_all 16 _ _)
                have BM := Lib.hid (aMix_byt BT.out)
                go_wp2_with (first | (refine wpList_load_row rfl 23 _ rfl u rfl 23 _ (0, 0) _ hU.out Tryd.underlying23 rfl (info_key _) ?_) | (refine wpList_store_row rfl 23 _ _ rfl v (rowOf 16 (w8 (aMix t))) rfl rfl 23 _ hJ.out.out (info_key _) (by rw [rowOf_size, rowOf_size]) (rowOf_cells8 _ _) ?_))
                replace hJ := Lib.hid (hJ.out.store (aMix t))
                clear hU
                generalize World.setRow _ _ _ = w10 at *
                refine wp_region_rely_tail 5 (R2I w x l q v key s (aMix t)) [eqv (.agg (rowOf 16 (w8 (aMix t)))), eqv (.int .i64 (i : Int)), eqv (.pointer (some ⟨l, i * 16, none⟩)), eqv (.agg (rowOf 16 (w8 (rkN key i)))), eqv (.agg (rowOf 16 (w8 (aAdd (aMix t) (rkN key i)))))] (by kernel_rfl) (by kernel_rfl) hJ.out.drew
                  (.cons (steady_eqv _) (.cons (steady_eqv _) (.cons (steady_eqv _) (.cons (steady_eqv _) (.cons (steady_eqv _) .nil))))) ?_
                intro R hR
                simp only [List.take_succ_cons, List.take_zero, List.drop_succ_cons, List.drop_zero]
                refine wpRely_cons (fun w' hC hf => ?_) (fun v0 => ?_)
                · (repeat (first | (obtain ⟨rfl, hf⟩ := hf) | (obtain ⟨⟨q, rfl, hq⟩, hf⟩ := hf) | (obtain ⟨_, hf⟩ := hf)))
                  exact grows_load (by rfl) hC rfl rfl (hC.out) Tryd.underlying23 rfl (info_key _)
                simp only [Act.put, List.setIfInBounds_toArray, List.set_cons_succ, List.set_cons_zero, List.nil_append]
                refine wpRely_cons (fun w' hC hf => ?_) (fun v1 => ?_)
                · (repeat (first | (obtain ⟨rfl, hf⟩ := hf) | (obtain ⟨⟨q, rfl, hq⟩, hf⟩ := hf) | (obtain ⟨_, hf⟩ := hf)))
                  exact grows_eqv (by rfl) hC (by go_simp)
                simp only [Act.put, List.setIfInBounds_toArray, List.set_cons_succ, List.set_cons_zero, List.nil_append, List.cons_append]
                refine wpRely_cons (fun w' hC hf => ?_) (fun v2 => ?_)
                · (repeat (first | (obtain ⟨rfl, hf⟩ := hf) | (obtain ⟨⟨q, rfl, hq⟩, hf⟩ := hf) | (obtain ⟨_, hf⟩ := hf)))
                  exact grows_eqv (by rfl) hC (by go_simp)
                simp only [Act.put, List.setIfInBounds_toArray, List.set_cons_succ, List.set_cons_zero, List.nil_append, List.cons_append]
                refine wpRely_cons (fun w' hC hf => ?_) (fun v3 => ?_)
                · (repeat (first | (obtain ⟨rfl, hf⟩ := hf) | (obtain ⟨⟨q, rfl, hq⟩, hf⟩ := hf) | (obtain ⟨_, hf⟩ := hf)))
                  exact grows_load_at (by rfl) hC rfl rfl hC.rl.rks (ring_get key i (by omega)) Tryd.underlying23 rfl (by kernel_rfl)
                simp only [Act.put, List.setIfInBounds_toArray, List.set_cons_succ, List.set_cons_zero, List.nil_append, List.cons_append]
                refine wpRely_cons (fun w' hC hf => ?_) (fun v4 => ?_)
                · (repeat (first | (obtain ⟨rfl, hf⟩ := hf) | (obtain ⟨⟨q, rfl, hq⟩, hf⟩ := hf) | (obtain ⟨_, hf⟩ := hf)))
                  exact grows_calls hR (fun _ _ hb h => h.after hb) hC (by rfl) (by go_simp) (refXor_keys (aMix t) (rkN key i) BM BK w')
                simp only [Act.put, List.setIfInBounds_toArray, List.set_cons_succ, List.set_cons_zero, List.nil_append, List.cons_append]
                refine wpRely_nil fun w9 hC hf => ?_
                obtain ⟨_, _, _, _, rfl, _⟩ := hf
                have hI := Lib.hid hC.rl
                clear hC
                refine wpList_store_row rfl 23 _ _ rfl q (rowOf 16 (w8 (aAdd (aMix t) (rkN key i)))) rfl rfl 23 _ hI.out.blk (info_key _) (by rw [rowOf_size, rowOf_size]) (rowOf_cells8 _ _) ?_
                replace hI := Lib.hid (hI.out.store (aAdd (aMix t) (rkN key i)))
                generalize World.setRow _ _ _ = w12 at *
                rw [← L1.out] at hI
                clear L1
                go_wp2
                go_roundw
                case rel => exact ⟨i, i + 1, rfl, i10, by go_num, hI⟩
                case measure => simp [intOf]; omega
          · have d1 : decide ((i : Int) < 10) = false := decide_eq_false (by omega)
            have d2 : decide (i = 10) = true := decide_eq_true (by omega)
            rw [d2] at L1
            replace L1 : Hid (lockTo key b i = aAdd (aShift (aSub s)) (rkN key i)) := L1.out
            generalize aShift (aSub s) = t at *
            go_wp2
            refine wp_region_rely_tail 5 (R2I w x l q v key s t) [eqv (.agg (rowOf 16 (w8 t))), eqv (.int .i64 (i : Int)), eqv (.pointer (some ⟨l, i * 16, none⟩)), eqv (.agg (rowOf 16 (w8 (rkN key i)))), eqv (.agg (rowOf 16 (w8 (aAdd t (rkN key i)))))] (by kernel_rfl) (by kernel_rfl) hJ.out.drew
              (.cons (steady_eqv _) (.cons (steady_eqv _) (.cons (steady_eqv _) (.cons (steady_eqv _) (.cons (steady_eqv _) .nil))))) ?_
            intro R hR
            simp only [List.take_succ_cons, List.take_zero, List.drop_succ_cons, List.drop_zero]
            refine wpRely_cons (fun w' hC hf => ?_) (fun v0 => ?_)
            · (repeat (first | (obtain ⟨rfl, hf⟩ := hf) | (obtain ⟨⟨q, rfl, hq⟩, hf⟩ := hf) | (obtain ⟨_, hf⟩ := hf)))
              exact grows_load (by rfl) hC rfl rfl (hC.out) Tryd.underlying23 rfl (info_key _)
            simp only [Act.put, List.setIfInBounds_toArray, List.set_cons_succ, List.set_cons_zero, List.nil_append]
            refine wpRely_cons (fun w' hC hf => ?_) (fun v1 => ?_)
            · (repeat (first | (obtain ⟨rfl, hf⟩ := hf) | (obtain ⟨⟨q, rfl, hq⟩, hf⟩ := hf) | (obtain ⟨_, hf⟩ := hf)))
              exact grows_eqv (by rfl) hC (by go_simp)
            simp only [Act.put, List.setIfInBounds_toArray, List.set_cons_succ, List.set_cons_zero, List.nil_append, List.cons_append]
            refine wpRely_cons (fun w' hC hf => ?_) (fun v2 => ?_)
            · (repeat (first | (obtain ⟨rfl, hf⟩ := hf) | (obtain ⟨⟨q, rfl, hq⟩, hf⟩ := hf) | (obtain ⟨_, hf⟩ := hf)))
              exact grows_eqv (by rfl) hC (by go_simp)
            simp only [Act.put, List.setIfInBounds_toArray, List.set_cons_succ, List.set_cons_zero, List.nil_append, List.cons_append]
            refine wpRely_cons (fun w' hC hf => ?_) (fun v3 => ?_)
            · (repeat (first | (obtain ⟨rfl, hf⟩ := hf) | (obtain ⟨⟨q, rfl, hq⟩, hf⟩ := hf) | (obtain ⟨_, hf⟩ := hf)))
              exact grows_load_at (by rfl) hC rfl rfl hC.rl.rks (ring_get key i (by omega)) Tryd.underlying23 rfl (by kernel_rfl)
            simp only [Act.put, List.setIfInBounds_toArray, List.set_cons_succ, List.set_cons_zero, List.nil_append, List.cons_append]
            refine wpRely_cons (fun w' hC hf => ?_) (fun v4 => ?_)
            · (repeat (first | (obtain ⟨rfl, hf⟩ := hf) | (obtain ⟨⟨q, rfl, hq⟩, hf⟩ := hf) | (obtain ⟨_, hf⟩ := hf)))
              exact grows_calls hR (fun _ _ hb h => h.after hb) hC (by rfl) (by go_simp) (refXor_keys t (rkN key i) BT BK w')
            simp only [Act.put, List.setIfInBounds_toArray, List.set_cons_succ, List.set_cons_zero, List.nil_append, List.cons_append]
            refine wpRely_nil fun w9 hC hf => ?_
            obtain ⟨_, _, _, _, rfl, _⟩ := hf
            have hI := Lib.hid hC.rl
            clear hC
            refine wpList_store_row rfl 23 _ _ rfl q (rowOf 16 (w8 (aAdd t (rkN key i)))) rfl rfl 23 _ hI.out.blk (info_key _) (by rw [rowOf_size, rowOf_size]) (rowOf_cells8 _ _) ?_
            replace hI := Lib.hid (hI.out.store (aAdd t (rkN key i)))
            generalize World.setRow _ _ _ = w12 at *
            rw [← L1.out] at hI
            clear L1
            go_wp2
            go_roundw
            case rel => exact ⟨i, i + 1, rfl, i10, by go_num, hI⟩
            case measure => simp [intOf]; omega
    · have : k = 10 := by omega
      subst this
      have : i = 11 := by omega
      subst this
      go_wp2_with (first | (refine wpList_load_row rfl 23 _ rfl q rfl 23 _ (0, 0) _ hI.out.blk Tryd.underlying23 rfl (info_key _) ?_) | (refine wpList_store_row rfl 23 _ _ rfl (w.heap.size + 1 + 1) (rowOf 16 (w8 (lockN key b))) rfl rfl 23 _ hI.out.room (info_key _) (by rw [rowOf_size, rowOf_size]) (rowOf_cells8 _ _) ?_))
      refine bodyPost_ret (v := .agg (rowOf 16 (w8 (lockN key b)))) ?_ rfl ⟨rfl, below_setRow' hI.out.rest (by omega) _⟩
      exact results_cell_row Tryd.results39 _ _ (w.heap.size + 1 + 1) 23 (rowOf 16 (w8 (lockN key b))) (0, 0) _ rfl (hI.out.room.setRow _) Tryd.underlying23 rfl (info_key _)

end Go.Proofs.YtacekpjkgkkekaaDoor
/-
  The document's Stream.
-/
namespace Go.Proofs.YtacekpjkgkkekaaDoor
open Go.RowKit

theorem refNumber8 (n : Nat) (h : n < 18446744073709551616) (w : World) :
    Calls Tryd.prog 16 #[.int .u64 (n : Int), .int .i64 8] w fun e w' => e = .returned (.tuple #[.string (bs (numB 8 n)), .int .i64 0]) ∧ Below w.heap.size w w' := by
  have := refNumber_any (n : Int) 8 (by omega) (by unfold Hid; omega) w
  rw [(numS_8 n h).1, (numS_8 n h).2] at this
  exact this

theorem refTakeKey_cnt (nonce i : Nat) : ∃ z : ByteArray, ∀ w, Calls Tryd.prog 38 #[.string (bs (numB 8 nonce) ++ bs (numB 8 i))] w fun e w' => e = .returned (.tuple #[.agg (rowOf 16 (w8 (cntN nonce i))), .string z, .int .i64 0]) ∧ Below w.heap.size w w' := by
  obtain ⟨hl, hk⟩ := cnt_key nonce i _ rfl
  refine ⟨bs ((bs (numB 8 nonce) ++ bs (numB 8 i)).data.toList.drop 16), fun w => ?_⟩
  rw [← hk]
  exact refTakeKey_yes _ (by rw [← ba_size, hl]; exact Nat.le_refl _) (by rw [← ba_size, hl]; decide) w

/-- Sixteen more bytes of the stream. -/
theorem stream_more (key : Nat → Nat) (nonce i : Nat) : bs (listB (16 * i) (streamN key nonce)) ++ bs (listB 16 (lockN key (cntN nonce i))) = bs (listB (16 * (i + 1)) (streamN key nonce)) := by
  have e : listB 16 (lockN key (cntN nonce i)) = listB 16 (fun j => streamN key nonce (16 * i + j)) :=
    listB_congr fun j hj => by unfold streamN; rw [show (16 * i + j) / 16 = i by omega, show (16 * i + j) % 16 = j by omega]
  rw [e, bs_app, listB_bs, show 16 * (i + 1) = 16 * i + 16 by omega, listB_append]

theorem bs_take (n m : Nat) (f : Nat → Nat) (h : m ≤ n) : (bs (listB n f)).extract 0 m = bs (listB m f) := by
  apply ba_ext
  rw [ba_take, listB_bs, listB_bs, listB_take _ _ _ h]

set_option maxHeartbeats 2000000 in
set_option maxRecDepth 8000 in
theorem refStream_any (key : Nat → Nat) (hk : Hid (Byt key)) (nonce : Nat) (hn : Hid (nonce < 18446744073709551616)) (m : Nat) (hm : m ≤ 4000) (w : World) :
    Calls Tryd.prog 30 #[.agg (rowOf 16 (w8 key)), .int .u64 (nonce : Int), .int .i64 (m : Int)] w fun e w' => e = .returned (.string (bs (listB m (streamN key nonce)))) ∧ Below w.heap.size w w' := by
  have N1 := Lib.hid (refNumber8 nonce hn.out)
  have r0 : Hid (RowAt (w.alloc (.cells (rowOf 16 (w8 key)) 23)) w.heap.size 23 (rowOf 16 (w8 key))) := RowAt.new _ _ _
  have b0 : Below w.heap.size w (w.alloc (.cells (rowOf 16 (w8 key)) 23)) := (Below.refl _ _).alloc (Nat.le_refl _) _
  go_enter Tryd.func30, Tryd.ntmps30
  go_wp2_with fail
  generalize w.alloc (.cells (rowOf 16 (w8 key)) 23) = w0 at *
  refine (N1.out w0).mono ?_
  rintro e w1 ⟨rfl, hb1⟩
  replace r0 := Lib.hid (r0.out.below hb1 r0.out.lt)
  replace b0 := b0.trans (hb1.mono b0.size)
  clear hb1 N1
  go_wp2
  go_loopw [7, 10] (fun t c wr => ∃ i : Nat, c = .int .i64 (i : Int) ∧ t = .string (bs (listB (16 * i) (streamN key nonce))) ∧ 16 * i < m + 16 ∧ Hid (RowAt wr w.heap.size 23 (rowOf 16 (w8 key))) ∧ Below w.heap.size w wr)
    (fun _ c _ => m - 16 * (intOf c).toNat)
  case atStart => exact ⟨0, rfl, rfl, by omega, r0, b0⟩
  case round =>
    clear r0 b0
    obtain ⟨i, rfl, rfl, hil, hr, hbl⟩ := hrel
    obtain ⟨z, hz⟩ : ∃ z, z = 16 * i := ⟨_, rfl⟩
    have hzs : (bs (listB (16 * i) (streamN key nonce))).size = z := by rw [bs_size, listB_length, hz]
    have E1 := Lib.hid (stream_more key nonce i)
    have E2 : Hid (¬ 16 * i < m → (bs (listB (16 * i) (streamN key nonce))).extract 0 m = bs (listB m (streamN key nonce))) := fun h => bs_take _ _ _ (by omega)
    generalize bs (listB (16 * i) (streamN key nonce)) = T at *
    by_cases hlt : z < m
    · have t1 : (z : Int) < (m : Int) := by omega
      have t2 : (i : Int) < 256 := by omega
      replace hz := Lib.hid hz
      obtain ⟨k9, TK⟩ := refTakeKey_cnt nonce i
      replace TK := Lib.hid TK
      have N2 := Lib.hid (refNumber8 i (by omega))
      have hs1 : (bs (numB 8 nonce)).size = 8 := by rw [bs_size, numB_length]
      have hs2 : (bs (numB 8 i)).size = 8 := by rw [bs_size, numB_length]
      go_wp2_with fail
      refine (N2.out wr).mono ?_
      rintro e w2 ⟨rfl, hb2⟩
      replace hr := Lib.hid (hr.out.below hb2 hr.out.lt)
      replace hbl := hbl.trans (hb2.mono hbl.size)
      clear hb2 N2
      go_wp2_with fail
      clear hs1 hs2
      refine (TK.out w2).mono ?_
      rintro e w3 ⟨rfl, hb2⟩
      replace hr := Lib.hid (hr.out.below hb2 hr.out.lt)
      replace hbl := hbl.trans (hb2.mono hbl.size)
      clear hb2 TK
      have hlt3 := hr.out.lt
      have r1 : Hid (RowAt (w3.alloc (.cells (rowOf 16 (w8 zeroN)) 23)) w3.heap.size 23 (rowOf 16 (w8 zeroN))) := RowAt.new _ _ _
      have hr4 : Hid (RowAt ((w3.alloc (.cells (rowOf 16 (w8 zeroN)) 23)).setRow w3.heap.size (rowOf 16 (w8 (cntN nonce i)))) w.heap.size 23 (rowOf 16 (w8 key))) := (hr.out.alloc _).setRowOther _ _ (by omega)
      have r4 : Hid (RowAt ((w3.alloc (.cells (rowOf 16 (w8 zeroN)) 23)).setRow w3.heap.size (rowOf 16 (w8 (cntN nonce i)))) w3.heap.size 23 (rowOf 16 (w8 (cntN nonce i)))) := r1.out.setRow _
      have hbl4 : Below w.heap.size w ((w3.alloc (.cells (rowOf 16 (w8 zeroN)) 23)).setRow w3.heap.size (rowOf 16 (w8 (cntN nonce i)))) := below_setRow' (hbl.alloc hbl.size _) hbl.size _
      rw [z8_16] at r1 hr4 r4 hbl4
      go_wp2_with (first | (refine wpList_store_row rfl 23 _ _ rfl w3.heap.size (rowOf 16 (w8 (cntN nonce i))) rfl rfl 23 _ r1.out (info_key _) (by rw [rowOf_size]; rfl) (rowOf_cells8 _ _) ?_) | (refine wpList_load_row rfl 23 _ rfl w.heap.size rfl 23 (rowOf 16 (w8 key)) (0, 0) _ hr4.out Tryd.underlying23 rfl (info_key _) ?_) | (refine wpList_load_row rfl 23 _ rfl w3.heap.size rfl 23 (rowOf 16 (w8 (cntN nonce i))) (0, 0) _ r4.out Tryd.underlying23 rfl (info_key _) ?_))
      generalize (World.alloc w3 _).setRow _ _ = w4 at *
      refine (refLock_any key (cntN nonce i) hk (cnt_byt nonce i) w4).mono ?_
      rintro e w5 ⟨rfl, hb5⟩
      have hL := Lib.hid (lock_byt hk.out (cnt_byt nonce i))
      generalize lockN key (cntN nonce i) = L at *
      replace hr4 := Lib.hid (hr4.out.below hb5 hr4.out.lt)
      replace hbl4 := hbl4.trans (hb5.mono hbl4.size)
      clear hb5 r4 r1 hr hbl
      have hlt5 := hr4.out.lt
      have r5 : Hid (RowAt (w5.alloc (.cells (rowOf 16 (w8 zeroN)) 23)) w5.heap.size 23 (rowOf 16 (w8 zeroN))) := RowAt.new _ _ _
      have hr6 : Hid (RowAt ((w5.alloc (.cells (rowOf 16 (w8 zeroN)) 23)).setRow w5.heap.size (rowOf 16 (w8 L))) w.heap.size 23 (rowOf 16 (w8 key))) := (hr4.out.alloc _).setRowOther _ _ (by omega)
      have r6 : RowAt ((w5.alloc (.cells (rowOf 16 (w8 zeroN)) 23)).setRow w5.heap.size (rowOf 16 (w8 L))) w5.heap.size 23 (rowOf 16 (w8 L)) := r5.out.setRow _
      have hbl6 : Below w.heap.size w ((w5.alloc (.cells (rowOf 16 (w8 zeroN)) 23)).setRow w5.heap.size (rowOf 16 (w8 L))) := below_setRow' (hbl4.alloc hbl4.size _) hbl4.size _
      have sl := run_slice_all (P := Tryd.prog) Tryd.underlying23 sz8 w5.heap.size ((w5.alloc (.cells (rowOf 16 (w8 zeroN)) 23)).setRow w5.heap.size (rowOf 16 (w8 L)))
      have cv := block_string (P := Tryd.prog) (src := 45) (dst := 9) (cap := 16) hL.out Tryd.underlying45 Tryd.underlying5 Tryd.underlying9 r6
      have hs3 : (bs (listB 16 L)).size = 16 := by rw [bs_size, listB_length]
      rw [z8_16] at r5 hr6 hbl6 sl cv
      clear r6 hL
      go_wp2_with (refine wpList_store_row rfl 23 _ _ rfl w5.heap.size (rowOf 16 (w8 L)) rfl rfl 23 _ r5.out (info_key _) (by rw [rowOf_size]; rfl) (rowOf_cells8 _ _) ?_)
      go_roundw
      case rel => exact ⟨i + 1, by go_num, by rw [E1.out], by have := hz.out; omega, hr6, hbl6⟩
      case measure =>
        have := hz.out
        simp [intOf]
        omega
    · have t1 : ¬ ((z : Int) < (m : Int)) := by omega
      have t3 : (m : Int) ≤ (z : Int) := by omega
      have t4 : ¬ ((m : Int) < 0) := by omega
      have E3 := Lib.hid (E2.out (by omega))
      clear E1 E2 hz
      go_wp2
      go_ret
      exact ⟨by rw [← E3.out]; rfl, hbl⟩

end Go.Proofs.YtacekpjkgkkekaaDoor
/-
  Contract: the document's hidden.
-/
namespace Go.Proofs.YtacekpjkgkkekaaDoor
open Go.RowKit

set_option maxHeartbeats 1000000 in
set_option maxRecDepth 8000 in
theorem refHidden_any (k : Nat → Nat) (hkb : Hid (Bytes k)) (nonce : Nat) (hn : Hid (nonce < 18446744073709551616)) (s : ByteArray) (hs : s.size ≤ 4000) (w : World) :
    Calls Tryd.prog 17 #[.agg (rowOf 16 (w8 k)), .int .u64 (nonce : Int), .string s] w fun e w' => e = .returned (.string (hideS (hkN k) nonce s)) ∧ Below w.heap.size w w' := by
  have r0 : Hid (RowAt (w.alloc (.cells (rowOf 16 (w8 k)) 23)) w.heap.size 23 (rowOf 16 (w8 k))) := RowAt.new _ _ _
  have b0 : Below w.heap.size w (w.alloc (.cells (rowOf 16 (w8 k)) 23)) := (Below.refl _ _).alloc (Nat.le_refl _) _
  have D : Hid (∀ w', Calls Tryd.prog 31 #[.agg (rowOf 16 (w8 k)), .string hideL, .int .u64 0] w' fun e w'' => e = .returned (.agg (rowOf 16 (w8 (hkN k)))) ∧ Below w'.heap.size w' w'') :=
    fun w' => refDerive_any k hkb hideL (by decide) 0 (by unfold Hid; decide) w'
  have ST : Hid (∀ w', Calls Tryd.prog 30 #[.agg (rowOf 16 (w8 (hkN k))), .int .u64 (nonce : Int), .int .i64 (s.size : Int)] w' fun e w'' => e = .returned (.string (bs (listB s.size (streamN (hkN k) nonce)))) ∧ Below w'.heap.size w' w'') :=
    fun w' => refStream_any (hkN k) (hkN_bytes k) nonce hn s.size hs w'
  have XO : Hid (∀ w', Calls Tryd.prog 29 #[.string s, .string (bs (listB s.size (streamN (hkN k) nonce)))] w' fun e w'' => e = .returned (.string (bs (listB s.size (xorS s (bs (listB s.size (streamN (hkN k) nonce))))))) ∧ Below w'.heap.size w' w'') :=
    fun w' => refXor_any s _ (by rw [bs_listB_size]; exact Nat.le_refl _) (by omega) w'
  rw [xor_stream (hkN_bytes k) nonce s.size s (Nat.le_refl _), show bs (listB s.size (hideN (hkN k) nonce 0 s)) = hideS (hkN k) nonce s from rfl] at XO
  generalize hideS (hkN k) nonce s = hd at *
  generalize bs (listB s.size (streamN (hkN k) nonce)) = st at *
  generalize hkN k = K at *
  unfold hideL at D
  clear hkb hn
  go_enter Tryd.func17, Tryd.ntmps17
  go_wp2_with (refine wpList_load_row rfl 23 _ rfl w.heap.size rfl 23 (rowOf 16 (w8 k)) (0, 0) _ r0.out Tryd.underlying23 rfl (info_key _) ?_)
  generalize w.alloc (.cells (rowOf 16 (w8 k)) 23) = w1 at *
  refine (D.out w1).mono ?_
  rintro e w2 ⟨rfl, hb2⟩
  replace b0 := b0.trans (hb2.mono b0.size)
  clear hb2 D r0
  go_wp2_with fail
  refine (ST.out w2).mono ?_
  rintro e w3 ⟨rfl, hb3⟩
  replace b0 := b0.trans (hb3.mono b0.size)
  clear hb3 ST
  go_wp2_with fail
  refine (XO.out w3).mono ?_
  rintro e w4 ⟨rfl, hb4⟩
  replace b0 := b0.trans (hb4.mono b0.size)
  clear hb4 XO
  go_wp2
  go_ret
  exact ⟨rfl, b0⟩

end Go.Proofs.YtacekpjkgkkekaaDoor
/-
  Contract: the document's Seal.
-/
namespace Go.Proofs.YtacekpjkgkkekaaDoor
open Go.RowKit

set_option maxHeartbeats 1000000 in
set_option maxRecDepth 8000 in
theorem refSeal_yes (k : Nat → Nat) (hkb : Hid (Bytes k)) (nonce : Nat) (hn : Hid (nonce < 18446744073709551616)) (kind : Nat) (hkd : Hid (kind < 256)) (s : ByteArray) (hs : s.size ≤ 1000) (w : World) :
    Calls Tryd.prog 8 #[.agg (rowOf 16 (w8 k)), .int .u64 (nonce : Int), .int .u8 (kind : Int), .string s] w fun e w' => e = .returned (.string (sealS k nonce kind s)) ∧ Below w.heap.size w w' := by
  have r0 : Hid (RowAt (w.alloc (.cells (rowOf 16 (w8 k)) 23)) w.heap.size 23 (rowOf 16 (w8 k))) := RowAt.new _ _ _
  have b0 : Below w.heap.size w (w.alloc (.cells (rowOf 16 (w8 k)) 23)) := (Below.refl _ _).alloc (Nat.le_refl _) _
  have hz : ¬ (1000 : Int) < (s.size : Int) := by omega
  have NU := Lib.hid (refNumber8 nonce hn.out)
  have HD : Hid (∀ w', Calls Tryd.prog 17 #[.agg (rowOf 16 (w8 k)), .int .u64 (nonce : Int), .string s] w' fun e w'' => e = .returned (.string (hideS (hkN k) nonce s)) ∧ Below w'.heap.size w' w'') :=
    fun w' => refHidden_any k hkb nonce hn s (by omega) w'
  have TG : Hid (∀ w', Calls Tryd.prog 18 #[.agg (rowOf 16 (w8 k)), .int .u8 (kind : Int), .string (bs (numB 8 nonce) ++ hideS (hkN k) nonce s)] w' fun e w'' => e = .returned (.string (tagS (tkN k) kind (aheadS k nonce s))) ∧ Below w'.heap.size w' w'') :=
    fun w' => refTag_any k hkb kind hkd (aheadS k nonce s) (by rw [aheadS_size]; omega) w'
  have E : Hid (sealS k nonce kind s = (bs (numB 8 nonce) ++ hideS (hkN k) nonce s) ++ tagS (tkN k) kind (aheadS k nonce s)) := rfl
  have z1 : (bs (numB 8 nonce)).size = 8 := num8_size _
  have z2 : (hideS (hkN k) nonce s).size = s.size := hideS_size _ _ _
  have z3 : (tagS (tkN k) kind (aheadS k nonce s)).size = 16 := tagS_size _ _ _
  have z4 : (bs (numB 8 nonce) ++ hideS (hkN k) nonce s).size = s.size + 8 := by rw [ByteArray.size_append]; omega
  generalize tagS (tkN k) kind (aheadS k nonce s) = tg at *
  generalize hideS (hkN k) nonce s = hd at *
  generalize bs (numB 8 nonce) = nb at *
  generalize sealS k nonce kind s = sl at *
  clear hkb hn hkd
  go_enter Tryd.func8, Tryd.ntmps8
  go_wp2_with fail
  generalize w.alloc (.cells (rowOf 16 (w8 k)) 23) = w1 at *
  refine (NU.out w1).mono ?_
  rintro e w3 ⟨rfl, hb3⟩
  replace r0 := Lib.hid (r0.out.below hb3 r0.out.lt)
  replace b0 := b0.trans (hb3.mono b0.size)
  clear hb3 NU
  go_wp2_with (refine wpList_load_row rfl 23 _ rfl w.heap.size rfl 23 (rowOf 16 (w8 k)) (0, 0) _ r0.out Tryd.underlying23 rfl (info_key _) ?_)
  refine (HD.out w3).mono ?_
  rintro e w4 ⟨rfl, hb4⟩
  replace r0 := Lib.hid (r0.out.below hb4 r0.out.lt)
  replace b0 := b0.trans (hb4.mono b0.size)
  clear hb4 HD
  go_wp2_with (refine wpList_load_row rfl 23 _ rfl w.heap.size rfl 23 (rowOf 16 (w8 k)) (0, 0) _ r0.out Tryd.underlying23 rfl (info_key _) ?_)
  refine (TG.out w4).mono ?_
  rintro e w5 ⟨rfl, hb5⟩
  replace b0 := b0.trans (hb5.mono b0.size)
  clear hb5 TG r0
  go_wp2
  go_ret
  exact ⟨by rw [E.out]; rfl, b0⟩

end Go.Proofs.YtacekpjkgkkekaaDoor
/-
  Walk: BoxSeals.
-/
namespace Go.Proofs.YtacekpjkgkkekaaDoor
open Go.RowKit

set_option maxHeartbeats 1000000 in
set_option maxRecDepth 8000 in
theorem walk_BoxSeals (k : Nat → Nat) (hkb0 : Bytes k) (n : Int) (wn : (Lit.int .u64 n).wf = true) (kind : Int) (wk : (Lit.int .u8 kind).wf = true) (s : ByteArray) (_hs : s.size ≤ maxLen) (w : World) (hk0 : KRow w) :
    Calls Tryd.prog 3 #[.agg (rowOf 16 (w8 k)), .int .u64 n, .int .u8 kind, .string s] w fun e w' => e = .returned (.bool true) ∧ Below w.heap.size w w' := by
  have HK := Lib.hid hk0
  have HB := Lib.hid hkb0
  obtain ⟨hn0, hn1⟩ := wf6_u64 wn
  obtain ⟨hd0, hd1⟩ := wf6_u8 wk
  obtain ⟨n, rfl⟩ := Int.eq_ofNat_of_zero_le hn0
  obtain ⟨kind, rfl⟩ := Int.eq_ofNat_of_zero_le hd0
  have HN : Hid (n < 18446744073709551616) := by unfold Hid; omega
  have HD : Hid (kind < 256) := by unfold Hid; omega
  clear hk0 hkb0 wn wk hn0 hn1 hd0 hd1
  have b0 : Below w.heap.size w (w.alloc (.cells (rowOf 16 (w8 k)) 23)) := (Below.refl _ _).alloc (Nat.le_refl _) _
  have r0 : Hid (RowAt (w.alloc (.cells (rowOf 16 (w8 k)) 23)) w.heap.size 23 (rowOf 16 (w8 k))) := RowAt.new _ _ _
  have hk0 : Hid (KRow (w.alloc (.cells (rowOf 16 (w8 k)) 23))) := HK.out.below b0 HK.out.1 b0.size
  by_cases h1 : (60 : Int) < (s.size : Int)
  · go_enter Tryd.func3, Tryd.ntmps3
    go_wp2_with fail
    refine (shown6_any _ hk0).mono ?_
    rintro e w1 ⟨rfl, hb1⟩
    go_wp2
    go_ret
    exact ⟨rfl, b0.trans (hb1.mono b0.size)⟩
  have d1 : decide ((60 : Int) < (s.size : Int)) = false := decide_eq_false h1
  have z1 : s.size ≤ 60 := by omega
  have S1 : Hid (∀ w', KRow w' → Calls Tryd.prog 6 #[.agg (rowOf 16 (w8 k)), .int .u64 (n : Int), .int .u8 (kind : Int), .string s] w' fun e w'' => e = .returned (.string (sealS k n kind s)) ∧ Below w'.heap.size w' w'') :=
    fun w' h => seal_yes k HB n HN kind HD s (by omega) w' h
  have S2 : Hid (∀ w', Calls Tryd.prog 8 #[.agg (rowOf 16 (w8 k)), .int .u64 (n : Int), .int .u8 (kind : Int), .string s] w' fun e w'' => e = .returned (.string (sealS k n kind s)) ∧ Below w'.heap.size w' w'') :=
    fun w' => refSeal_yes k HB n HN kind HD s (by omega) w'
  have zs : (sealS k n kind s).size = s.size + 24 := sealS_size _ _ _ _
  have O1 : Hid (∀ w', KRow w' → Calls Tryd.prog 7 #[.agg (rowOf 16 (w8 k)), .int .u8 (kind : Int), .string (sealS k n kind s)] w' fun e w'' => e = .returned (.tuple (openV k kind (sealS k n kind s))) ∧ Below w'.heap.size w' w'') :=
    fun w' h => open_any k HB kind HD (sealS k n kind s) (by omega) w' h
  rw [openV_seal k n HN.out kind s] at O1
  have SZ := Lib.hid (boxSize_any (s.size : Int))
  have ez : sizeI (s.size : Int) = (s.size : Int) + 24 := by unfold sizeI; rw [if_pos (by omega)]
  rw [ez] at SZ
  have zi : ((sealS k n kind s).size : Int) = (s.size : Int) + 24 := by omega
  generalize sealS k n kind s = x at *
  clear ez HB HN HD
  go_enter Tryd.func3, Tryd.ntmps3
  go_wp2_with fail
  generalize w.alloc (.cells (rowOf 16 (w8 k)) 23) = w0 at *
  refine (shown6_any w0 hk0).mono ?_
  rintro e w1 ⟨rfl, hb1⟩
  replace r0 := Lib.hid (r0.out.below hb1 r0.out.lt)
  replace b0 := b0.trans (hb1.mono b0.size)
  clear hb1 hk0
  go_wp2_with (refine wpList_load_row rfl 23 _ rfl w.heap.size rfl 23 (rowOf 16 (w8 k)) (0, 0) _ r0.out Tryd.underlying23 rfl (info_key _) ?_)
  refine (S1.out w1 (HK.out.below b0 HK.out.1 b0.size)).mono ?_
  rintro e w2 ⟨rfl, hb2⟩
  replace r0 := Lib.hid (r0.out.below hb2 r0.out.lt)
  replace b0 := b0.trans (hb2.mono b0.size)
  clear hb2 S1
  go_wp2_with (refine wpList_load_row rfl 23 _ rfl w.heap.size rfl 23 (rowOf 16 (w8 k)) (0, 0) _ r0.out Tryd.underlying23 rfl (info_key _) ?_)
  refine (O1.out w2 (HK.out.below b0 HK.out.1 b0.size)).mono ?_
  rintro e w3 ⟨rfl, hb3⟩
  replace r0 := Lib.hid (r0.out.below hb3 r0.out.lt)
  replace b0 := b0.trans (hb3.mono b0.size)
  clear hb3 O1
  go_wp2_with (refine wpList_load_row rfl 23 _ rfl w.heap.size rfl 23 (rowOf 16 (w8 k)) (0, 0) _ r0.out Tryd.underlying23 rfl (info_key _) ?_)
  refine (S2.out w3).mono ?_
  rintro e w4 ⟨rfl, hb4⟩
  replace b0 := b0.trans (hb4.mono b0.size)
  clear hb4 S2 r0
  go_wp2_with fail
  refine (SZ.out w4).mono ?_
  rintro e w5 ⟨rfl, rfl⟩
  go_wp2
  go_ret
  exact ⟨rfl, b0⟩

end Go.Proofs.YtacekpjkgkkekaaDoor
/-
  Walk: BoxLong.
-/
namespace Go.Proofs.YtacekpjkgkkekaaDoor
open Go.RowKit

set_option maxHeartbeats 1000000 in
set_option maxRecDepth 8000 in
theorem walk_BoxLong (k : Nat → Nat) (hkb0 : Bytes k) (n : Int) (wn : (Lit.int .i64 n).wf = true) (s : ByteArray) (_hs : s.size ≤ maxLen) (w : World) (hk0 : KRow w) :
    Calls Tryd.prog 4 #[.agg (rowOf 16 (w8 k)), .int .i64 n, .string s] w fun e w' => e = .returned (.bool true) ∧ Below w.heap.size w w' := by
  have HK := Lib.hid hk0
  have HB := Lib.hid hkb0
  obtain ⟨hn0, hn1⟩ := wf6_i64 wn
  clear hk0 hkb0 wn
  have b0 : Below w.heap.size w (w.alloc (.cells (rowOf 16 (w8 k)) 23)) := (Below.refl _ _).alloc (Nat.le_refl _) _
  have r0 : Hid (RowAt (w.alloc (.cells (rowOf 16 (w8 k)) 23)) w.heap.size 23 (rowOf 16 (w8 k))) := RowAt.new _ _ _
  have hk0 : Hid (KRow (w.alloc (.cells (rowOf 16 (w8 k)) 23))) := HK.out.below b0 HK.out.1 b0.size
  by_cases h1 : (1200 : Int) < (s.size : Int)
  · go_enter Tryd.func4, Tryd.ntmps4
    go_wp2_with fail
    refine (shown6_any _ hk0).mono ?_
    rintro e w1 ⟨rfl, hb1⟩
    go_wp2
    go_ret
    exact ⟨rfl, b0.trans (hb1.mono b0.size)⟩
  have d1 : decide ((1200 : Int) < (s.size : Int)) = false := decide_eq_false h1
  by_cases h2 : 1000 < s.size
  · have d2 : (1000 : Int) < (s.size : Int) := by omega
    have S1 : Hid (∀ w', Calls Tryd.prog 6 #[.agg (rowOf 16 (w8 k)), .int .u64 1, .int .u8 1, .string s] w' fun e w'' => e = .returned (.string ⟨#[]⟩) ∧ Below w'.heap.size w' w'') :=
      fun w' => seal_no k 1 1 s h2 w'
    have SZ := Lib.hid (boxSize_any (s.size : Int))
    have ez : sizeI (s.size : Int) = 0 := by unfold sizeI; rw [if_neg (by omega)]
    rw [ez] at SZ
    clear ez HB
    go_enter Tryd.func4, Tryd.ntmps4
    go_wp2_with fail
    generalize w.alloc (.cells (rowOf 16 (w8 k)) 23) = w0 at *
    refine (shown6_any w0 hk0).mono ?_
    rintro e w1 ⟨rfl, hb1⟩
    replace r0 := Lib.hid (r0.out.below hb1 r0.out.lt)
    replace b0 := b0.trans (hb1.mono b0.size)
    clear hb1 hk0
    go_wp2_with (refine wpList_load_row rfl 23 _ rfl w.heap.size rfl 23 (rowOf 16 (w8 k)) (0, 0) _ r0.out Tryd.underlying23 rfl (info_key _) ?_)
    refine (S1.out w1).mono ?_
    rintro e w2 ⟨rfl, hb2⟩
    replace b0 := b0.trans (hb2.mono b0.size)
    clear hb2 S1 r0
    go_wp2_with fail
    refine (SZ.out w2).mono ?_
    rintro e w3 ⟨rfl, rfl⟩
    go_wp2
    go_ret
    exact ⟨rfl, b0⟩
  · have d2 : ¬ (1000 : Int) < (s.size : Int) := by omega
    have S1 : Hid (∀ w', KRow w' → Calls Tryd.prog 6 #[.agg (rowOf 16 (w8 k)), .int .u64 1, .int .u8 1, .string s] w' fun e w'' => e = .returned (.string (sealS k 1 1 s)) ∧ Below w'.heap.size w' w'') :=
      fun w' h => seal_yes k HB 1 (by unfold Hid; decide) 1 (by unfold Hid; decide) s (by omega) w' h
    have zs : (sealS k 1 1 s).size = s.size + 24 := sealS_size _ _ _ _
    have zi : ((sealS k 1 1 s).size : Int) = (s.size : Int) + 24 := by omega
    generalize sealS k 1 1 s = x at *
    have SZ := Lib.hid (boxSize_any n)
    clear HB
    by_cases hn : 0 ≤ n ∧ n ≤ 1000
    · have ez : sizeI n = n + 24 := by unfold sizeI; rw [if_pos hn]
      rw [ez] at SZ
      obtain ⟨t1, t2⟩ := hn
      clear ez
      go_enter Tryd.func4, Tryd.ntmps4
      go_wp2_with fail
      generalize w.alloc (.cells (rowOf 16 (w8 k)) 23) = w0 at *
      refine (shown6_any w0 hk0).mono ?_
      rintro e w1 ⟨rfl, hb1⟩
      replace r0 := Lib.hid (r0.out.below hb1 r0.out.lt)
      replace b0 := b0.trans (hb1.mono b0.size)
      clear hb1 hk0
      go_wp2_with (refine wpList_load_row rfl 23 _ rfl w.heap.size rfl 23 (rowOf 16 (w8 k)) (0, 0) _ r0.out Tryd.underlying23 rfl (info_key _) ?_)
      refine (S1.out w1 (HK.out.below b0 HK.out.1 b0.size)).mono ?_
      rintro e w2 ⟨rfl, hb2⟩
      replace b0 := b0.trans (hb2.mono b0.size)
      clear hb2 S1 r0
      go_wp2_with fail
      refine (SZ.out w2).mono ?_
      rintro e w3 ⟨rfl, rfl⟩
      go_wp2
      go_ret
      exact ⟨rfl, b0⟩
    · have ez : sizeI n = 0 := by unfold sizeI; rw [if_neg hn]
      rw [ez] at SZ
      clear ez
      by_cases t1 : n < 0
      · clear hn
        go_enter Tryd.func4, Tryd.ntmps4
        go_wp2_with fail
        generalize w.alloc (.cells (rowOf 16 (w8 k)) 23) = w0 at *
        refine (shown6_any w0 hk0).mono ?_
        rintro e w1 ⟨rfl, hb1⟩
        replace r0 := Lib.hid (r0.out.below hb1 r0.out.lt)
        replace b0 := b0.trans (hb1.mono b0.size)
        clear hb1 hk0
        go_wp2_with (refine wpList_load_row rfl 23 _ rfl w.heap.size rfl 23 (rowOf 16 (w8 k)) (0, 0) _ r0.out Tryd.underlying23 rfl (info_key _) ?_)
        refine (S1.out w1 (HK.out.below b0 HK.out.1 b0.size)).mono ?_
        rintro e w2 ⟨rfl, hb2⟩
        replace b0 := b0.trans (hb2.mono b0.size)
        clear hb2 S1 r0
        go_wp2_with fail
        refine (SZ.out w2).mono ?_
        rintro e w3 ⟨rfl, rfl⟩
        go_wp2
        go_ret
        exact ⟨rfl, b0⟩
      · have t2 : 1000 < n := by omega
        clear hn
        go_enter Tryd.func4, Tryd.ntmps4
        go_wp2_with fail
        generalize w.alloc (.cells (rowOf 16 (w8 k)) 23) = w0 at *
        refine (shown6_any w0 hk0).mono ?_
        rintro e w1 ⟨rfl, hb1⟩
        replace r0 := Lib.hid (r0.out.below hb1 r0.out.lt)
        replace b0 := b0.trans (hb1.mono b0.size)
        clear hb1 hk0
        go_wp2_with (refine wpList_load_row rfl 23 _ rfl w.heap.size rfl 23 (rowOf 16 (w8 k)) (0, 0) _ r0.out Tryd.underlying23 rfl (info_key _) ?_)
        refine (S1.out w1 (HK.out.below b0 HK.out.1 b0.size)).mono ?_
        rintro e w2 ⟨rfl, hb2⟩
        replace b0 := b0.trans (hb2.mono b0.size)
        clear hb2 S1 r0
        go_wp2_with fail
        refine (SZ.out w2).mono ?_
        rintro e w3 ⟨rfl, rfl⟩
        go_wp2
        go_ret
        exact ⟨rfl, b0⟩

end Go.Proofs.YtacekpjkgkkekaaDoor
