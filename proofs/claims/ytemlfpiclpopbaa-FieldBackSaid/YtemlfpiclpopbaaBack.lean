/-
  The walk of the law FieldBack.
-/
import Derived.Test.YtemlfpiclpopbaaWide
import Derived.Deep.AppendLies
import Derived.Deep.RegionLaw
namespace Go.Proofs.Ytemlfpiclpopbaa
open Go.RowKit

/-- A text cut to three hundred bytes. -/
def cut300 (s : ByteArray) : ByteArray := s.extract 0 (min s.size 300)

theorem cut300_size (s : ByteArray) : (cut300 s).size ≤ 300 := by
  rw [← ba_size]
  unfold cut300
  rw [ba_take, List.length_take]
  omega

theorem same_named (a b : Option Addr) (c d n m : Nat) (ss : List ByteArray) (hl : ss.length ≤ 1000000) (hn : Hid (ss.length = n)) (hm : Hid (ss.length = m)) (w : World) (ha : Hid (Sees w a ss)) (hb : Hid (Sees w b ss)) :
    Calls Try.prog 25 #[.slice a n c, .slice b m d] w fun e w' => e = .returned (.bool true) ∧ Below w.heap.size w w' := by
  have h := same_yes a b c d ss hl w ha hb
  rw [hn.out] at h
  have : m = n := hm.out.symm.trans hn.out
  subst this
  exact h

theorem takeList_ok_named (s R : ByteArray) (ss : List ByteArray) (h : Hid (taE s.data.toList = 0 ∧ taT s.data.toList = ss ∧ taR s.data.toList = R.data.toList)) (w : World) :
    Calls Try.prog 23 #[.string s] w fun e w' => ∃ a c, e = .returned (.tuple #[.slice a ss.length c, .string R, .int .i64 0]) ∧ Sees w' a ss ∧ Below w.heap.size w w' := by
  have h1 := takeList_named s w
  rw [h.out.1, h.out.2.1, h.out.2.2, bs_data] at h1
  exact h1

theorem number_named (n k : Int) (A : ByteArray) (hn : 0 ≤ n) (hN : Hid (n < 18446744073709551616)) (h1 : 1 ≤ k) (h2 : k ≤ 8) (hf : Hid (fitsB n k = true)) (hA : Hid (A.data.toList = numB k.toNat n.toNat)) (w : World) :
    Calls Try.prog 11 #[.int .u64 n, .int .i64 k] w fun e w' => e = .returned (.tuple #[.string A, .int .i64 0]) ∧ Below w.heap.size w w' := by
  have h := number_yes n k hn hN h1 h2 hf.out w
  rw [← hA.out, bs_data] at h
  exact h

theorem wrap_pow (k : Nat) (hk : k < 8) : IntKind.u64.wrap (2 ^ (8 * k)) = ((256 ^ k : Nat) : Int) := by
  rw [pow2_8]
  have : 256 ^ k ≤ 256 ^ 7 := Nat.pow_le_pow_right (by decide) (by omega)
  have h7 : (256 : Nat) ^ 7 = 72057594037927936 := by decide
  generalize 256 ^ k = p at *
  exact IntWalk.u64_in _ (by omega)

theorem map_cut_succ (ss : List ByteArray) (j : Nat) (h : j < ss.length) : ((ss.take (j + 1)).map cut300).map Value.string = ((ss.take j).map cut300).map Value.string ++ [.string (cut300 ss[j])] := by
  rw [List.take_succ_eq_append_getElem h, List.map_append, List.map_append]
  rfl

set_option maxRecDepth 100000 in
set_option maxHeartbeats 1000000 in
theorem walk_FieldBack0 (n : Nat) (hn : Hid (n < 18446744073709551616)) (b : Nat) (hb : b < 256) (a : Option Addr) (cap : Nat) (ss : List ByteArray) (hlen : ss.length ≤ 9223372036854775807) (hsz : Hid (∀ s ∈ ss, s.size ≤ 9223372036854775807)) (s : ByteArray) (w : World) (hs : Hid (Sees w a ss)) :
    Calls Try.prog 6 #[.int .u64 (n : Int), .int .u8 (b : Int), .slice a ss.length cap, .string s] w (LawEnd w) := by
  by_cases h1 : (50 : Int) < (ss.length : Int)
  · have d1 : decide ((50 : Int) < (ss.length : Int)) = true := by simpa using h1
    go_enter Try.func6, Try.ntmps6
    go_wp2_with fail
    refine (shown_any _).mono ?_
    rintro e w1 ⟨rfl, hb1⟩
    go_wp2
    go_ret
    exact ⟨rfl, hb1⟩
  have d1 : decide ((50 : Int) < (ss.length : Int)) = false := by simpa using h1
  by_cases h2 : (1000 : Int) < (s.size : Int)
  · have d2 : decide ((1000 : Int) < (s.size : Int)) = true := by simpa using h2
    go_enter Try.func6, Try.ntmps6
    go_wp2_with fail
    refine (shown_any _).mono ?_
    rintro e w1 ⟨rfl, hb1⟩
    go_wp2
    go_ret
    exact ⟨rfl, hb1⟩
  have d2 : decide ((1000 : Int) < (s.size : Int)) = false := by simpa using h2
  obtain ⟨i0, hi, hz0, hz1, hz2⟩ := info_parts Try.infoStr
  obtain ⟨k, hk⟩ : ∃ k : Nat, k = 1 + b % 8 := ⟨_, rfl⟩
  have hk1 : 1 ≤ k := by omega
  have hk8 : k ≤ 8 := by omega
  have hrule : 1 + (b : Int) % 8 = (k : Int) := by omega
  clear hk
  by_cases hk7 : k < 8
  · have dk : decide ((k : Int) < 8) = true := by simp; omega
    obtain ⟨P, hP⟩ : ∃ P, P = 256 ^ k := ⟨_, rfl⟩
    have hwp : IntKind.u64.wrap (2 ^ (8 * k)) = (P : Int) := by rw [hP]; exact wrap_pow k hk7
    have hP0 : 0 < P := by rw [hP]; exact Nat.pow_pos (by decide)
    have hPn : ((P : Int) == 0) = false := beq_eq_false_iff_ne.2 (by omega)
    obtain ⟨N, hN⟩ : ∃ N, N = n % P := ⟨_, rfl⟩
    have hNr : (n : Int) % (P : Int) = (N : Int) := by rw [hN]; rfl
    have HNk : Hid (N < 256 ^ k) := by unfold Hid; rw [hN, ← hP]; exact Nat.mod_lt _ hP0
    have HN64 : Hid ((N : Int) < 18446744073709551616) := by
      have := hn.out
      have h3 : N ≤ n := by rw [hN]; exact Nat.mod_le _ _
      unfold Hid
      omega
    have HP := Lib.hid hP
    have HN := Lib.hid hN
    clear hP hN
    have hk1i : (1 : Int) ≤ (k : Int) := by omega
    have hk8i : (k : Int) ≤ 8 := by omega
    have HF : Hid (fitsB (N : Int) (k : Int) = true) := by unfold Hid fitsB; simpa using HNk.out
    obtain ⟨A, hA⟩ : ∃ A : ByteArray, A.data.toList = numB k N := ⟨bs (numB k N), rfl⟩
    have hAs : A.size = k := by rw [← ba_size, hA, numB_length]
    have hAs2 : A.size ≤ 8 := by omega
    have HA : Hid (A.data.toList = numB ((k : Int)).toNat ((N : Int)).toNat) := hA
    obtain ⟨shs, hshs⟩ : ∃ shs, shs = ss.map cut300 := ⟨_, rfl⟩
    have hshl : shs.length = ss.length := by rw [hshs, List.length_map]
    have hsh1000 : ∀ t ∈ shs, t.size ≤ 1000 := by
      intro t ht
      rw [hshs, List.mem_map] at ht
      obtain ⟨x, _, rfl⟩ := ht
      have := cut300_size x
      omega
    obtain ⟨B, hB⟩ : ∃ B : ByteArray, B.data.toList = lst shs := ⟨bs (lst shs), rfl⟩
    have hBs : B.size ≤ 100000 := by
      rw [← ba_size, hB]
      have h3 := lstTo_len shs shs.length (Nat.le_refl _) (fun i h _ => hsh1000 _ (List.getElem_mem h))
      have : (lst shs).length ≤ 1 + 1002 * shs.length := h3
      omega
    have HLS : Hid (lsS shs = B ∧ lsE shs = 0) := by
      have hB2 : lsB shs = false := by
        unfold lsB
        rw [decide_eq_false (by omega), Bool.false_or, List.any_eq_false]
        intro t ht
        have := hsh1000 t ht
        simp
        omega
      unfold Hid lsS lsE
      rw [hB2, if_neg (by decide), if_neg (by decide), ← hB, bs_data]
      exact ⟨rfl, rfl⟩
    have HTK : Hid (((k : Int)).toNat ≤ (A ++ B ++ s).data.toList.length) := by
      unfold Hid
      rw [ba_append, ba_append, List.length_append, List.length_append, ba_size]
      omega
    have HTN : Hid (N = numV ((A ++ B ++ s).data.toList.take ((k : Int)).toNat)) := by
      unfold Hid
      rw [ba_append, ba_append, hA, Int.toNat_natCast, List.append_assoc, List.take_append_of_le_length (by rw [numB_length]; exact Nat.le_refl _), List.take_of_length_le (by rw [numB_length]; exact Nat.le_refl _), numV_numB _ _ HNk.out]
    have HTR : Hid ((B ++ s).data.toList = (A ++ B ++ s).data.toList.drop ((k : Int)).toNat) := by
      unfold Hid
      rw [ba_append, ba_append, ba_append, Int.toNat_natCast, List.append_assoc]
      have := List.drop_left (l₁ := A.data.toList) (l₂ := B.data.toList ++ s.data.toList)
      rw [ba_size, hAs] at this
      exact this.symm
    have HTA : Hid (taE (B ++ s).data.toList = 0 ∧ taT (B ++ s).data.toList = shs ∧ taR (B ++ s).data.toList = s.data.toList) := by
      unfold Hid
      rw [ba_append, hB]
      exact ta_back shs _ (by omega) hsh1000
    have HSHS := Lib.hid hshs
    have HSHL := Lib.hid hshl
    have HL50 : shs.length ≤ 50 := by omega
    clear hA hAs hB hsh1000 hshs hshl
    go_enter Try.func6, Try.ntmps6
    go_wp2_with fail
    refine (shown_any _).mono ?_
    rintro e w1 ⟨rfl, hb1⟩
    go_wp2
    rw [hNr]
    clear hNr hwp hPn hrule hlen
    go_loopw [10, 11] (fun v i wr => ∃ j : Nat, j ≤ ss.length ∧ i = .int .i64 j ∧ wr.ownsRow w.heap.size 9 1 v j (((ss.take j).map cut300).map Value.string) ∧ Below w.heap.size w wr)
      (fun _ i _ => ss.length - (intOf i).toNat)
    case atStart => exact ⟨0, by omega, rfl, World.ownsRow_made _ _ _ hb1.size (by unfold maxLen; omega) (by simp), hb1.alloc hb1.size _⟩
    case round =>
      clear hb1
      obtain ⟨j, hj, rfl, hown, hbl⟩ := hrel
      have hbs := hbl.size
      by_cases hlt : j < ss.length
      · obtain ⟨ad, ea, hadb, hca⟩ := (Sees.below hs.out hbl (Nat.le_refl _)) j hlt
        subst ea
        obtain ⟨t, ht⟩ : ∃ t, t = ss[j] := ⟨_, rfl⟩
        rw [← ht] at hca
        have htm : t.size ≤ 9223372036854775807 := by rw [ht]; exact hsz.out _ (List.getElem_mem _)
        have HMS : Hid (((ss.take (j + 1)).map cut300).map Value.string = ((ss.take j).map cut300).map Value.string ++ [.string (cut300 t)]) := by rw [ht]; exact map_cut_succ ss j hlt
        clear ht
        have j0 : (0 : Int) ≤ (j : Int) := by omega
        have j1 : (j : Int) < (ss.length : Int) := by omega
        obtain ⟨m, hm⟩ : ∃ m, m = min t.size 300 := ⟨_, rfl⟩
        have hmin : (if (300 : Int) < (t.size : Int) then (300 : Int) else (t.size : Int)) = (m : Int) := by split <;> omega
        have m0 : (0 : Int) ≤ (m : Int) := by omega
        have m1 : (m : Int) ≤ (t.size : Int) := by omega
        have HC : Hid (cut300 t = t.extract 0 m) := by unfold Hid cut300; rw [hm]
        rw [HC.out] at HMS
        clear hm HC
        go_wp2
        go_region_law (refine step_append_lies _ rfl (.tmp 53) (.tmp 65) 38 rfl w.heap.size 9 i0 (.string ByteArray.empty) 1 16 Try.underlying38 hi hz0 hz1 hz2 rfl (by decide) _ _ _ rfl (by exact hown.alloc _) ⟨wr.heap.size, 0, none⟩ 1 1 [.string (t.extract 0 m)] rfl rfl (by intro q u hq; match q, hq with | 0, hq => (simp at hq; subst hq; simp [Addr.add])) (by intro u hu; simp at hu; subst hu; rfl) (by decide) (by unfold maxLen; omega) (by omega) (by simp; omega) (wr.heap.size + 1) (by simp) ?_; intro g cap2 w2 hown2 hgrow2 _ hlt2)
        all_goals
          have hown3 : w2.ownsRow w.heap.size 9 1 (.slice (some ⟨g, 0, none⟩) (j + 1) cap2) (j + 1) (((ss.take (j + 1)).map cut300).map Value.string) := by rw [HMS.out]; exact hown2
          have hbl3 : Below w.heap.size w w2 := ((hbl.alloc (by omega) _).drew).grown hgrow2 (by simp; omega) (fun q hq => (hown.lt q hq).1)
          clear hown2 hgrow2 hown hbl
          go_wp2
          go_roundw
          case rel => exact ⟨j + 1, by omega, by go_num, hown3, hbl3⟩
          case measure => simp [intOf]; omega
      · have hjl : j = ss.length := by omega
        have hown3 : Hid (wr.ownsRow w.heap.size 9 1 u10 j (shs.map Value.string)) := by
          unfold Hid
          have e : (ss.take j).map cut300 = shs := by rw [HSHS.out, hjl, List.take_length]
          rw [← e]
          exact hown
        obtain ⟨hjs, a4, c4, rfl, hsees4⟩ := own_sees hown3.out
        have HS4 := Lib.hid hsees4
        clear hown hown3 hsees4 hjl hjs
        go_wp2_with fail
        refine (number_named (N : Int) (k : Int) A (by omega) HN64 hk1i hk8i HF HA _).mono ?_
        rintro e w2 ⟨rfl, hb2⟩
        have hbl2 := hbl.trans (hb2.mono hbs)
        have HS42 := Lib.hid (Sees.below HS4.out hb2 (Nat.le_refl _))
        have hbs2 := hbl2.size
        clear hb2 hbl HS4
        go_wp2_with fail
        refine (list_named a4 c4 shs B 0 _ HLS rfl _ HS42.out).mono ?_
        rintro e w3 ⟨rfl, hb3⟩
        have hbl3 := hbl2.trans (hb3.mono hbs2)
        have HS43 := Lib.hid (Sees.below HS42.out hb3 (Nat.le_refl _))
        have hbs3 := hbl3.size
        clear hb3 hbl2 HS42
        go_wp2_with fail
        refine (takeNumber_named (A ++ B ++ s) (B ++ s) (k : Int) N hk1i hk8i HTK HTN HTR _).mono ?_
        rintro e w4 ⟨rfl, hb4⟩
        have hbl4 := hbl3.trans (hb4.mono hbs3)
        have HS44 := Lib.hid (Sees.below HS43.out hb4 (Nat.le_refl _))
        have hbs4 := hbl4.size
        clear hb4 hbl3 HS43
        go_wp2_with fail
        refine (takeList_ok_named (B ++ s) s shs HTA _).mono ?_
        rintro e w5 ⟨a5, c5, rfl, hsees5, hb5⟩
        have hbl5 := hbl4.trans (hb5.mono hbs4)
        have HS45 := Lib.hid (Sees.below HS44.out hb5 (Nat.le_refl _))
        have HS55 := Lib.hid hsees5
        have hbs5 := hbl5.size
        clear hb5 hbl4 HS44 hsees5
        go_wp2_with fail
        refine (same_named a5 a4 c5 c4 _ _ shs (by omega) rfl rfl _ HS55 HS45).mono ?_
        rintro e w6 ⟨rfl, hb6⟩
        have hbl6 := hbl5.trans (hb6.mono hbs5)
        clear hb6 hbl5
        go_wp2
        go_ret
        exact ⟨rfl, hbl6⟩
  · have dk : decide ((k : Int) < 8) = false := by simp; omega
    have hk9 : k = 8 := by omega
    have HNk : Hid (n < 256 ^ k) := by
      have h3 := hn.out
      unfold Hid
      rw [hk9]
      omega
    have HN64 : Hid ((n : Int) < 18446744073709551616) := by have := hn.out; unfold Hid; omega
    clear hk9
    have hk1i : (1 : Int) ≤ (k : Int) := by omega
    have hk8i : (k : Int) ≤ 8 := by omega
    have HF : Hid (fitsB (n : Int) (k : Int) = true) := by unfold Hid fitsB; simpa using HNk.out
    obtain ⟨A, hA⟩ : ∃ A : ByteArray, A.data.toList = numB k n := ⟨bs (numB k n), rfl⟩
    have hAs : A.size = k := by rw [← ba_size, hA, numB_length]
    have hAs2 : A.size ≤ 8 := by omega
    have HA : Hid (A.data.toList = numB ((k : Int)).toNat ((n : Int)).toNat) := hA
    obtain ⟨shs, hshs⟩ : ∃ shs, shs = ss.map cut300 := ⟨_, rfl⟩
    have hshl : shs.length = ss.length := by rw [hshs, List.length_map]
    have hsh1000 : ∀ t ∈ shs, t.size ≤ 1000 := by
      intro t ht
      rw [hshs, List.mem_map] at ht
      obtain ⟨x, _, rfl⟩ := ht
      have := cut300_size x
      omega
    obtain ⟨B, hB⟩ : ∃ B : ByteArray, B.data.toList = lst shs := ⟨bs (lst shs), rfl⟩
    have hBs : B.size ≤ 100000 := by
      rw [← ba_size, hB]
      have h3 := lstTo_len shs shs.length (Nat.le_refl _) (fun i h _ => hsh1000 _ (List.getElem_mem h))
      have : (lst shs).length ≤ 1 + 1002 * shs.length := h3
      omega
    have HLS : Hid (lsS shs = B ∧ lsE shs = 0) := by
      have hB2 : lsB shs = false := by
        unfold lsB
        rw [decide_eq_false (by omega), Bool.false_or, List.any_eq_false]
        intro t ht
        have := hsh1000 t ht
        simp
        omega
      unfold Hid lsS lsE
      rw [hB2, if_neg (by decide), if_neg (by decide), ← hB, bs_data]
      exact ⟨rfl, rfl⟩
    have HTK : Hid (((k : Int)).toNat ≤ (A ++ B ++ s).data.toList.length) := by
      unfold Hid
      rw [ba_append, ba_append, List.length_append, List.length_append, ba_size]
      omega
    have HTN : Hid (n = numV ((A ++ B ++ s).data.toList.take ((k : Int)).toNat)) := by
      unfold Hid
      rw [ba_append, ba_append, hA, Int.toNat_natCast, List.append_assoc, List.take_append_of_le_length (by rw [numB_length]; exact Nat.le_refl _), List.take_of_length_le (by rw [numB_length]; exact Nat.le_refl _), numV_numB _ _ HNk.out]
    have HTR : Hid ((B ++ s).data.toList = (A ++ B ++ s).data.toList.drop ((k : Int)).toNat) := by
      unfold Hid
      rw [ba_append, ba_append, ba_append, Int.toNat_natCast, List.append_assoc]
      have := List.drop_left (l₁ := A.data.toList) (l₂ := B.data.toList ++ s.data.toList)
      rw [ba_size, hAs] at this
      exact this.symm
    have HTA : Hid (taE (B ++ s).data.toList = 0 ∧ taT (B ++ s).data.toList = shs ∧ taR (B ++ s).data.toList = s.data.toList) := by
      unfold Hid
      rw [ba_append, hB]
      exact ta_back shs _ (by omega) hsh1000
    have HSHS := Lib.hid hshs
    have HSHL := Lib.hid hshl
    have HL50 : shs.length ≤ 50 := by omega
    clear hA hAs hB hsh1000 hshs hshl
    go_enter Try.func6, Try.ntmps6
    go_wp2_with fail
    refine (shown_any _).mono ?_
    rintro e w1 ⟨rfl, hb1⟩
    go_wp2
    clear hrule hlen
    go_loopw [10, 11] (fun v i wr => ∃ j : Nat, j ≤ ss.length ∧ i = .int .i64 j ∧ wr.ownsRow w.heap.size 9 1 v j (((ss.take j).map cut300).map Value.string) ∧ Below w.heap.size w wr)
      (fun _ i _ => ss.length - (intOf i).toNat)
    case atStart => exact ⟨0, by omega, rfl, World.ownsRow_made _ _ _ hb1.size (by unfold maxLen; omega) (by simp), hb1.alloc hb1.size _⟩
    case round =>
      clear hb1
      obtain ⟨j, hj, rfl, hown, hbl⟩ := hrel
      have hbs := hbl.size
      by_cases hlt : j < ss.length
      · obtain ⟨ad, ea, hadb, hca⟩ := (Sees.below hs.out hbl (Nat.le_refl _)) j hlt
        subst ea
        obtain ⟨t, ht⟩ : ∃ t, t = ss[j] := ⟨_, rfl⟩
        rw [← ht] at hca
        have htm : t.size ≤ 9223372036854775807 := by rw [ht]; exact hsz.out _ (List.getElem_mem _)
        have HMS : Hid (((ss.take (j + 1)).map cut300).map Value.string = ((ss.take j).map cut300).map Value.string ++ [.string (cut300 t)]) := by rw [ht]; exact map_cut_succ ss j hlt
        clear ht
        have j0 : (0 : Int) ≤ (j : Int) := by omega
        have j1 : (j : Int) < (ss.length : Int) := by omega
        obtain ⟨m, hm⟩ : ∃ m, m = min t.size 300 := ⟨_, rfl⟩
        have hmin : (if (300 : Int) < (t.size : Int) then (300 : Int) else (t.size : Int)) = (m : Int) := by split <;> omega
        have m0 : (0 : Int) ≤ (m : Int) := by omega
        have m1 : (m : Int) ≤ (t.size : Int) := by omega
        have HC : Hid (cut300 t = t.extract 0 m) := by unfold Hid cut300; rw [hm]
        rw [HC.out] at HMS
        clear hm HC
        go_wp2
        go_region_law (refine step_append_lies _ rfl (.tmp 53) (.tmp 65) 38 rfl w.heap.size 9 i0 (.string ByteArray.empty) 1 16 Try.underlying38 hi hz0 hz1 hz2 rfl (by decide) _ _ _ rfl (by exact hown.alloc _) ⟨wr.heap.size, 0, none⟩ 1 1 [.string (t.extract 0 m)] rfl rfl (by intro q u hq; match q, hq with | 0, hq => (simp at hq; subst hq; simp [Addr.add])) (by intro u hu; simp at hu; subst hu; rfl) (by decide) (by unfold maxLen; omega) (by omega) (by simp; omega) (wr.heap.size + 1) (by simp) ?_; intro g cap2 w2 hown2 hgrow2 _ hlt2)
        all_goals
          have hown3 : w2.ownsRow w.heap.size 9 1 (.slice (some ⟨g, 0, none⟩) (j + 1) cap2) (j + 1) (((ss.take (j + 1)).map cut300).map Value.string) := by rw [HMS.out]; exact hown2
          have hbl3 : Below w.heap.size w w2 := ((hbl.alloc (by omega) _).drew).grown hgrow2 (by simp; omega) (fun q hq => (hown.lt q hq).1)
          clear hown2 hgrow2 hown hbl
          go_wp2
          go_roundw
          case rel => exact ⟨j + 1, by omega, by go_num, hown3, hbl3⟩
          case measure => simp [intOf]; omega
      · have hjl : j = ss.length := by omega
        have hown3 : Hid (wr.ownsRow w.heap.size 9 1 u10 j (shs.map Value.string)) := by
          unfold Hid
          have e : (ss.take j).map cut300 = shs := by rw [HSHS.out, hjl, List.take_length]
          rw [← e]
          exact hown
        obtain ⟨hjs, a4, c4, rfl, hsees4⟩ := own_sees hown3.out
        have HS4 := Lib.hid hsees4
        clear hown hown3 hsees4 hjl hjs
        go_wp2_with fail
        refine (number_named (n : Int) (k : Int) A (by omega) HN64 hk1i hk8i HF HA _).mono ?_
        rintro e w2 ⟨rfl, hb2⟩
        have hbl2 := hbl.trans (hb2.mono hbs)
        have HS42 := Lib.hid (Sees.below HS4.out hb2 (Nat.le_refl _))
        have hbs2 := hbl2.size
        clear hb2 hbl HS4
        go_wp2_with fail
        refine (list_named a4 c4 shs B 0 _ HLS rfl _ HS42.out).mono ?_
        rintro e w3 ⟨rfl, hb3⟩
        have hbl3 := hbl2.trans (hb3.mono hbs2)
        have HS43 := Lib.hid (Sees.below HS42.out hb3 (Nat.le_refl _))
        have hbs3 := hbl3.size
        clear hb3 hbl2 HS42
        go_wp2_with fail
        refine (takeNumber_named (A ++ B ++ s) (B ++ s) (k : Int) n hk1i hk8i HTK HTN HTR _).mono ?_
        rintro e w4 ⟨rfl, hb4⟩
        have hbl4 := hbl3.trans (hb4.mono hbs3)
        have HS44 := Lib.hid (Sees.below HS43.out hb4 (Nat.le_refl _))
        have hbs4 := hbl4.size
        clear hb4 hbl3 HS43
        go_wp2_with fail
        refine (takeList_ok_named (B ++ s) s shs HTA _).mono ?_
        rintro e w5 ⟨a5, c5, rfl, hsees5, hb5⟩
        have hbl5 := hbl4.trans (hb5.mono hbs4)
        have HS45 := Lib.hid (Sees.below HS44.out hb5 (Nat.le_refl _))
        have HS55 := Lib.hid hsees5
        have hbs5 := hbl5.size
        clear hb5 hbl4 HS44 hsees5
        go_wp2_with fail
        refine (same_named a5 a4 c5 c4 _ _ shs (by omega) rfl rfl _ HS55 HS45).mono ?_
        rintro e w6 ⟨rfl, hb6⟩
        have hbl6 := hbl5.trans (hb6.mono hbs5)
        clear hb6 hbl5
        go_wp2
        go_ret
        exact ⟨rfl, hbl6⟩

theorem walk_FieldBack (n : Int) (hn : (Lit.int .u64 n).wf = true) (b : Int) (hb : (Lit.int .u8 b).wf = true) (a : Option Addr) (len cap : Nat) (ss : List ByteArray) (s : ByteArray) (_hs : s.size ≤ maxLen) (w : World) (hl : CameStrs w a len cap ss) :
    Calls Try.prog 6 #[.int .u64 n, .int .u8 b, .slice a len cap, .string s] w fun e w' => e = .returned (.bool true) ∧ Below w.heap.size w w' := by
  have b1 := bounds_u64 hn
  have b2 := bounds_u8 hb
  obtain ⟨n, rfl⟩ := Int.eq_ofNat_of_zero_le b1.1
  obtain ⟨b, rfl⟩ := Int.eq_ofNat_of_zero_le b2.1
  have h1 := hl.1
  have h2 := hl.2.1
  have h3 := hl.2.2.1
  have h4 := hl.2.2.2.1
  unfold maxLen at h3 h4
  subst h1
  exact walk_FieldBack0 n (by unfold Hid; omega) b (by omega) a cap ss (by omega) (fun t ht => by have := h4 t ht; omega) s w hl.sees

end Go.Proofs.Ytemlfpiclpopbaa
