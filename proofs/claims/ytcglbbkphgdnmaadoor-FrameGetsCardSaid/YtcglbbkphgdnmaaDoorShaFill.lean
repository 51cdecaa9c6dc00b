/-
  Contracts: Fill, and the document's Fill.
-/
import Derived.Test.YtcglbbkphgdnmaaDoorShaKit
import Derived.Test.YtcglbbkphgdnmaaDoorShaTurn
import Derived.Laws.AppendOwn
import Derived.OwnWalk
namespace Go.Proofs.YtcglbbkphgdnmaaDoor
open Go.RowKit

theorem row_string {P : Program} {w : World} {e src dst : TypeId} {g n : Nat} {f : Nat → Nat} (hf : Bytes f) (hn : n ≤ maxLen) (hs : P.underlying src = some (.slice e)) (he : P.underlying e = some (.int .u8)) (hd : P.underlying dst = some .string)
    (h : RowAt w g e (rowOf n (w8 f))) : (convert src dst (.slice (some ⟨g, 0, none⟩) n n)).run P w = .ok (.string (bs ((List.range n).map fun j => UInt8.ofNat (f j)))) w := by
  refine own_string (base := 0) (n := n) _ hs he hd ⟨by simp, Or.inr ⟨g, n, rowOf n (w8 f), rfl, Nat.zero_le _, h, Nat.le_refl _, hn, by rw [rowOf_size, Nat.mul_one], ?_⟩⟩
  rw [Nat.mul_one, List.take_of_length_le (by rw [Array.length_toList, rowOf_size]; exact Nat.le_refl _)]
  unfold rowOf
  rw [List.map_map]
  apply List.map_congr_left
  intro j _
  show Value.int .u8 _ = Value.int .u8 _
  rw [UInt8.toNat_ofNat', Nat.mod_eq_of_lt (hf j)]

/-- How many bytes 0 there are, and how many in all. -/
def fillZ (n : Nat) : Nat := (128 - (n % 64 + 9)) % 64
/-- The eight bytes of v, the highest first: the first m of them. -/
def be8 (v m : Nat) : List UInt8 := (List.range m).map fun i => UInt8.ofNat (v / 256 ^ (7 - i))
/-- What comes behind n bytes. -/
def fillL (n : Nat) : List UInt8 := (128 :: List.replicate (fillZ n) 0) ++ be8 (8 * n) 8

theorem be8_succ (v m : Nat) : be8 v (m + 1) = be8 v m ++ [UInt8.ofNat (v / 256 ^ (7 - m))] := by
  simp [be8, List.range_succ]
theorem be8_length (v m : Nat) : (be8 v m).length = m := by simp [be8]
theorem fillL_length (n : Nat) : (fillL n).length = fillZ n + 9 := by
  simp [fillL, be8_length]

/-- The bytes, by their places, the last i of them laid. -/
def fillN (n i : Nat) : Nat → Nat := fun j => if j = 0 then 128 else if fillZ n + 9 - i ≤ j then 8 * n / 256 ^ (fillZ n + 8 - j) % 256 else 0

theorem fillN_bytes (n i : Nat) : Bytes (fillN n i) := by
  intro j
  unfold fillN
  split
  · decide
  · split
    · exact Nat.mod_lt _ (by decide)
    · decide

theorem fillN_zero (n : Nat) : ∀ j, j < fillZ n + 9 → fillN n 0 j = upd (fun _ => 0) 0 128 j := by
  intro j hj
  unfold fillN upd
  split
  · rfl
  · rw [if_neg (by omega)]

theorem fillN_step (n i : Nat) (hi : i < 8) : upd (fillN n i) (fillZ n + 9 - 1 - i) (8 * n / 256 ^ i % 256) = fillN n (i + 1) := by
  funext j
  unfold upd fillN
  by_cases h : j = fillZ n + 9 - 1 - i
  · subst h
    rw [if_pos rfl, if_neg (by omega), if_pos (by omega), show fillZ n + 8 - (fillZ n + 9 - 1 - i) = i by omega]
  · rw [if_neg h]
    split
    · rfl
    · by_cases h2 : fillZ n + 9 - i ≤ j
      · rw [if_pos h2, if_pos (by omega)]
      · rw [if_neg h2, if_neg (by omega)]

theorem ofNat_mod (x : Nat) : UInt8.ofNat (x % 256) = UInt8.ofNat x := by
  apply UInt8.toNat_inj.1
  simp

theorem fillN_all (n : Nat) : ((List.range (fillZ n + 9)).map fun j => UInt8.ofNat (fillN n 8 j)) = fillL n := by
  apply List.ext_getElem
  · simp [fillL_length]
  · intro j h1 h2
    have hj : j < fillZ n + 9 := by simpa using h1
    rw [List.getElem_map, List.getElem_range]
    unfold fillN
    simp only [fillL]
    by_cases h0 : j = 0
    · subst h0
      simp
    · rw [if_neg h0]
      by_cases h8 : fillZ n + 9 - 8 ≤ j
      · rw [if_pos h8, List.getElem_append_right (by simp; omega), ofNat_mod]
        unfold be8
        rw [List.getElem_map, List.getElem_range]
        simp only [List.length_cons, List.length_replicate]
        rw [show fillZ n + 8 - j = 7 - (j - (fillZ n + 1)) by omega]
      · rw [if_neg h8, List.getElem_append_left (by simp; omega)]
        obtain ⟨k, rfl⟩ : ∃ k, j = k + 1 := ⟨j - 1, by omega⟩
        simp

theorem made_row {w : World} {base e g n : Nat} (h : w.ownsRow base e 1 (.slice (some ⟨g, 0, none⟩) n n) n (madeCells #[Value.int .u8 0] n).toList) : RowAt w g e (rowOf n (w8 fun _ => 0)) := by
  rcases h.2 with ⟨h1, _⟩ | ⟨g', cap, cur, h1, _, h3, _, _, h6, h7⟩
  · cases h1
  · simp at h1
    obtain ⟨rfl, rfl⟩ := h1
    unfold RowAt
    rw [h3]
    have : cur = rowOf n (w8 fun _ => 0) := by
      apply Array.ext'
      rw [List.take_of_length_le (by rw [Array.length_toList, h6]; exact Nat.le_refl _)] at h7
      rw [h7, toList_madeCells_one]
      unfold rowOf
      rw [show ((List.map (w8 fun _ => 0) (List.range n)).toArray.toList) = List.map (fun _ => Value.int .u8 0) (List.range n) from rfl, List.map_const', List.length_range]
    rw [this]

set_option maxHeartbeats 400000 in
theorem fill_neg (n : Int) (hn : n < 0) (w : World) :
    Calls Tryd.prog 52 #[.int .i64 n] w fun e w' => e = .returned (.string (bs [])) ∧ w' = w := by
  go_enter Tryd.func52, Tryd.ntmps52
  go_wp2
  go_ret
  exact ⟨rfl, rfl⟩

theorem shift8 (n j : Nat) : 8 * (n : Int) / 2 ^ (8 * j) % 256 = ((8 * n / 256 ^ j % 256 : Nat) : Int) := by
  rw [Int.pow_mul]
  simp

set_option maxHeartbeats 400000 in
set_option maxRecDepth 8000 in
theorem fill_any (n : Nat) (hn : n ≤ 1000000) (w : World) :
    Calls Tryd.prog 52 #[.int .i64 n] w fun e w' => e = .returned (.string (bs (fillL n))) ∧ Below w.heap.size w w' := by
  obtain ⟨ib, hib, hb0, hb1, hb2⟩ := info_parts Tryd.info5
  obtain ⟨z, hz⟩ : ∃ z, fillZ n = z := ⟨_, rfl⟩
  have ez : ((128 - ((n : Int) % 64 + 1 + 8)) % 64) = (z : Int) := by rw [← hz]; unfold fillZ; omega
  have lz : z < 64 := by rw [← hz]; unfold fillZ; omega
  obtain ⟨L, hL⟩ : ∃ L, z + 9 = L := ⟨_, rfl⟩
  have eL : (1 : Int) + (z : Int) + 8 = (L : Int) := by omega
  have hd : ¬ ((n : Int) < 0) := by omega
  have L1 : 9 ≤ L := by omega
  have L2 : L ≤ 72 := by omega
  have hZ := Lib.hid hz
  have hLL := Lib.hid hL
  clear hz hL
  go_enter Tryd.func52, Tryd.ntmps52
  go_wp2_with (first | (refine wpList_make_full _ rfl (.tmp 19) (.tmp 19) 42 rfl w.heap.size 5 ib (.int .u8 0) 1 Tryd.underlying42 hib hb0 hb1 _ _ _ _ L rfl rfl ?e1 ?e2 ?e3 ?e4 ?e5 ?_))
  case e1 => rfl
  case e2 => rfl
  case e3 => omega
  case e4 => unfold maxLen; omega
  intro w1 hown1 hg1
  have hr1 := Lib.hid (made_row hown1)
  have hbl1 : Below w.heap.size w w1 := (Below.refl _ _).grown hg1 (Nat.le_refl _) (fun g hg => by cases hg)
  have c0 := hr1.out.cell 0 (by omega)
  have f0 := hr1.out.free 0
  unfold w8 at c0
  have hr2 : Hid (RowAt (w1.setCell ⟨w.heap.size, 0, none⟩ (.int .u8 128)) w.heap.size 5 (rowOf L (w8 (fillN n 0)))) := by
    refine (hr1.out.set 0 (.int .u8 128)).congr ?_
    rw [show (128 : Int) = ((128 : Nat) : Int) from rfl, rowOf_upd8]
    refine rowOf_congr fun j hj => ?_
    unfold w8
    rw [fillN_zero n j (by rw [hZ.out, hLL.out]; exact hj)]
  have hbl2 : Below w.heap.size w (w1.setCell ⟨w.heap.size, 0, none⟩ (.int .u8 128)) := hbl1.setCell (Nat.le_refl _) _
  clear hown1 hg1
  have L0 : (0 : Int) < (L : Int) := by omega
  go_wp2
  clear c0 f0 hr1 hbl1 ez eL
  generalize w1.setCell ⟨w.heap.size, 0, none⟩ (.int .u8 128) = w2 at *
  go_loopw [26] (fun i wr => ∃ j : Nat, j ≤ 8 ∧ i = .int .i64 j ∧ Hid (RowAt wr w.heap.size 5 (rowOf L (w8 (fillN n j)))) ∧ Below w.heap.size w wr)
    (fun i _ => 8 - (intOf i).toNat)
  case atStart => exact ⟨0, by omega, rfl, hr2, hbl2⟩
  case round =>
    clear hr2 hbl2
    obtain ⟨j, hj, rfl, hr, hbl⟩ := hrel
    by_cases hlt : j < 8
    · have e1 : (L : Int) - 1 - (j : Int) = ((L - 1 - j : Nat) : Int) := by have := hLL.out; omega
      have cj := hr.out.cell (L - 1 - j) (by have := hLL.out; omega)
      have fj := hr.out.free (L - 1 - j)
      have e3 : Hid ((rowOf L (w8 (fillN n j))).setIfInBounds (L - 1 - j) (.int .u8 ((8 * n / 256 ^ j % 256 : Nat) : Int)) = rowOf L (w8 (fillN n (j + 1)))) := by
        unfold Hid
        have := fillN_step n j hlt
        rw [hZ.out, hLL.out] at this
        rw [rowOf_upd8, this]
      have lk : L - 1 - j < L := by have := hLL.out; omega
      obtain ⟨k, hk⟩ : ∃ k, L - 1 - j = k := ⟨_, rfl⟩
      rw [hk] at e1 cj fj e3 lk
      have HK := Lib.hid hk
      clear hk
      have EV := Lib.hid (shift8 n j)
      go_wp2
      go_roundw
      case rel => exact ⟨j + 1, by omega, by go_num, by rw [EV.out]; exact (hr.out.set k _).congr e3.out, hbl.setCell (Nat.le_refl _) _⟩
      case measure => simp [intOf]; omega
    · have : j = 8 := by omega
      subst this
      have hcv := row_string (P := Tryd.prog) (src := 42) (dst := 9) (fillN_bytes n 8) (by unfold maxLen; omega) Tryd.underlying42 Tryd.underlying5 Tryd.underlying9 hr.out
      have E : ((List.range L).map fun j => UInt8.ofNat (fillN n 8 j)) = fillL n := by
        have := fillN_all n
        rw [hZ.out, hLL.out] at this
        exact this
      rw [E] at hcv
      clear E
      go_wp2
      go_ret
      exact ⟨rfl, hbl⟩

set_option maxHeartbeats 400000 in
set_option maxRecDepth 8000 in
theorem refFill_any (n : Nat) (hn : n ≤ 1000000) (w : World) :
    Calls Tryd.prog 37 #[.int .i64 n] w fun e w' => e = .returned (.string (bs (fillL n))) ∧ Below w.heap.size w w' := by
  obtain ⟨i0, hi, hz0, hz1, hz2⟩ := info_parts Tryd.info5
  have hd : ¬ ((n : Int) < 0) := by omega
  obtain ⟨z, hz⟩ : ∃ z, fillZ n = z := ⟨_, rfl⟩
  have lz : z < 64 := by rw [← hz]; unfold fillZ; omega
  have z1 : (n + z + 9) % 64 = 0 := by rw [← hz]; unfold fillZ; omega
  have z2 : Hid (∀ k, k < z → (n + k + 9) % 64 ≠ 0) := by intro k hk; rw [← hz] at hk; unfold fillZ at hk; omega
  have hZ := Lib.hid hz
  clear hz
  go_enter Tryd.func37, Tryd.ntmps37
  go_wp2
  have hown0 : (w.alloc (.cells #[.int .u8 128] 5)).ownsRow w.heap.size 5 1 (.slice (some ⟨w.heap.size, 0, none⟩) 1 1) (0 + 1) [bv 128] :=
    ⟨rfl, Or.inr ⟨w.heap.size, 1, #[.int .u8 128], rfl, Nat.le_refl _, RowAt.new _ _ _, by omega, by unfold maxLen; omega, rfl, rfl⟩⟩
  have hb0 : Below w.heap.size w (w.alloc (.cells #[.int .u8 128] 5)) := (Below.refl _ _).alloc (Nat.le_refl _) _
  generalize w.alloc (.cells #[.int .u8 128] 5) = w1 at *
  go_loopw [3] (fun v wr => ∃ (k : Nat) (xs : List Value), k ≤ z ∧ wr.ownsRow w.heap.size 5 1 v (k + 1) xs ∧ Hid (xs = (128 :: List.replicate k 0).map bv) ∧ Below w.heap.size w wr)
    (fun v _ => z + 1 - (match v with | .slice _ l _ => l | _ => 0))
  case atStart => exact ⟨0, _, by omega, hown0, rfl, hb0⟩
  case round =>
    clear hown0 hb0
    obtain ⟨k, xs, hk, hown, hxs, hbl⟩ := hrel
    have hsz := hbl.size
    obtain ⟨g, cap, rfl⟩ : ∃ g cap, u3 = .slice (some ⟨g, 0, none⟩) (k + 1) cap := by
      rcases hown.2 with ⟨_, h0⟩ | ⟨g, cap, cur, h1, _⟩
      · omega
      · exact ⟨g, cap, h1⟩
    by_cases hlt : k < z
    · have hne : (((n : Int) + ((k : Int) + 1) + 8) % 64 == 0) = false := by
        have := z2.out k hlt
        simp
        omega
      go_wp2_with (at_builtin; refine wpList_append_own _ rfl _ _ 42 rfl w.heap.size 5 i0 (.int .u8 0) 1 1 Tryd.underlying42 hi hz0 hz1 hz2 rfl (by decide) _ _ _ rfl (hown.alloc _) ⟨wr.heap.size, 0, none⟩ 1 1 [.int .u8 0] rfl rfl ?c1 ?c2 ?c3 ?c4 ?c5 ?_)
      case c1 =>
        intro q u hq
        match q, hq with
        | 0, hq => simp at hq; subst hq; simp [Addr.add]
      case c2 => intro u hu; simp at hu; subst hu; rfl
      case c3 => unfold maxLen; omega
      case c4 => omega
      case c5 => simp; omega
      · intro v' w2 hown' hgrow _
        have hxs2 : Hid (xs ++ [.int .u8 0] = (128 :: List.replicate (k + 1) 0).map bv) := by
          unfold Hid
          rw [hxs.out, List.replicate_succ', ← List.cons_append, List.map_append]
          rfl
        have hbl2 : Below w.heap.size w w2 := (hbl.alloc (by omega) _).grown hgrow (by simp; omega) (fun g hg => (hown.lt g hg).1)
        obtain ⟨g', cap', rfl⟩ : ∃ g cap, v' = .slice (some ⟨g, 0, none⟩) (k + 1 + 1) cap := by
          rcases hown'.2 with ⟨_, h0⟩ | ⟨g, cap, cur, h1, _⟩
          · omega
          · exact ⟨g, cap, h1⟩
        clear hgrow hown hbl hne
        go_wp2
        go_roundw
        case rel => exact ⟨k + 1, _, by omega, hown', hxs2, hbl2⟩
        case measure => simp; omega
    · have : k = z := by omega
      subst this
      have hne : (((n : Int) + ((k : Int) + 1) + 8) % 64 != 0) = false := by
        simp
        omega
      have hne2 : (((n : Int) + ((k : Int) + 1) + 8) % 64 == 0) = true := by
        simp
        omega
      have hxs0 : Hid (xs = (128 :: List.replicate k 0 ++ be8 (8 * n) 0).map bv) := by
        unfold Hid
        rw [show be8 (8 * n) 0 = [] from rfl, List.append_nil]
        exact hxs.out
      clear hxs
      obtain ⟨N, hN⟩ : ∃ N, 8 * n = N := ⟨_, rfl⟩
      have en : ((n : Int) * 8) = (N : Int) := by omega
      have lN : N ≤ 8000000 := by omega
      rw [hN] at hxs0
      have HN := Lib.hid hN
      clear hN
      go_wp2
      go_loopw [3, 4] (fun v i wr => ∃ (m : Nat) (i' : Int) (xs : List Value), m ≤ 8 ∧ i = .int .i64 i' ∧ i' = 7 - (m : Int) ∧ wr.ownsRow w.heap.size 5 1 v (k + 1 + m) xs ∧ Hid (xs = (128 :: List.replicate k 0 ++ be8 N m).map bv) ∧ Below w.heap.size w wr)
        (fun _ i _ => (intOf i + 1).toNat)
      case atStart => exact ⟨0, 7, xs, by omega, rfl, by omega, hown, hxs0, hbl⟩
      case round =>
        clear hxs0 hown hbl hsz hne hne2
        obtain ⟨m, i', xs, hm, rfl, him, hown, hxs, hbl⟩ := hrel
        have hsz := hbl.size
        by_cases hlt : m < 8
        · have hi0 : 0 ≤ i' := by omega
          obtain ⟨i, rfl⟩ := Int.eq_ofNat_of_zero_le hi0
          obtain ⟨c, hc⟩ : ∃ c, 8 * i = c := ⟨_, rfl⟩
          have e8 : (8 : Int) * (i : Int) = (c : Int) := by omega
          have i7 : i ≤ 7 := by omega
          have him2 := Lib.hid (show i = 7 - m by omega)
          have R := Lib.hid (fun w => right_any N c (by omega) (by omega) w)
          have hx : N / 2 ^ c ≤ N := Nat.div_le_self _ _
          have EX : Hid (N / 2 ^ c = N / 256 ^ (7 - m)) := by
            unfold Hid
            rw [← hc, Nat.pow_mul, him2.out]
          have him3 := Lib.hid him
          clear him hc
          go_wp2_with fail
          refine (R.out _).mono ?_
          rintro e w2 ⟨rfl, rfl⟩
          generalize N / 2 ^ c = x at *
          clear R
          go_wp2_with (at_builtin; refine wpList_append_own _ rfl _ _ 42 rfl w.heap.size 5 i0 (.int .u8 0) 1 1 Tryd.underlying42 hi hz0 hz1 hz2 rfl (by decide) _ _ _ rfl (hown.alloc _) ⟨w2.heap.size, 0, none⟩ 1 1 [.int .u8 ((x : Int) % 256)] rfl rfl ?c1 ?c2 ?c3 ?c4 ?c5 ?_)
          case c1 =>
            intro q u hq
            match q, hq with
            | 0, hq => simp at hq; subst hq; simp [Addr.add]
          case c2 => intro u hu; simp at hu; subst hu; rfl
          case c3 => unfold maxLen; omega
          case c4 => omega
          case c5 => simp; omega
          · intro v' w3 hown' hgrow _
            have hxs2 : Hid (xs ++ [.int .u8 ((x : Int) % 256)] = (128 :: List.replicate k 0 ++ be8 N (m + 1)).map bv) := by
              unfold Hid
              rw [be8_succ, ← EX.out, ← List.append_assoc, List.map_append, ← hxs.out]
              congr 1
            have hbl2 : Below w.heap.size w w3 := (hbl.alloc (by omega) _).grown hgrow (by simp; omega) (fun g hg => (hown.lt g hg).1)
            clear hgrow hown hbl
            go_wp2
            go_roundw
            case rel => exact ⟨m + 1, _, _, by omega, rfl, by have := him3.out; omega, hown', hxs2, hbl2⟩
            case measure => simp [intOf]
        · have : m = 8 := by omega
          subst this
          have hcv : (convert 42 9 u3).run Tryd.prog wr = .ok (.string (bs (fillL n))) wr := by
            refine own_string (P := Tryd.prog) (src := 42) (dst := 9) (fillL n) Tryd.underlying42 Tryd.underlying5 Tryd.underlying9 (base := w.heap.size) (n := k + 1 + 8) ?_
            unfold fillL
            rw [hZ.out, HN.out, ← hxs.out]
            exact hown
          have hi1 : ¬ (0 ≤ i') := by omega
          clear hown hxs him
          go_wp2
          go_ret
          exact ⟨rfl, hbl⟩

end Go.Proofs.YtcglbbkphgdnmaaDoor
