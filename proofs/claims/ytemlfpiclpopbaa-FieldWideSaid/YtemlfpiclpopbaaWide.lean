/-
  The walk of the law FieldWide.
-/
import Derived.Test.YtemlfpiclpopbaaOnce
namespace Go.Proofs.Ytemlfpiclpopbaa
open Go.RowKit

theorem text_named (t u : ByteArray) (c : Int) (h : Hid (txS t = u ∧ txE t = c)) (w : World) :
    Calls Try.prog 15 #[.string t] w fun e w' => e = .returned (.tuple #[.string u, .int .i64 c]) ∧ Below w.heap.size w w' := by
  have h1 := text_any t w
  rw [h.out.1, h.out.2] at h1
  exact h1

theorem list_named (a : Option Addr) (cap : Nat) (ss : List ByteArray) (u : ByteArray) (c : Int) (n : Nat) (h : Hid (lsS ss = u ∧ lsE ss = c)) (hn : Hid (ss.length = n)) (w : World) (hs : Sees w a ss) :
    Calls Try.prog 21 #[.slice a n cap] w fun e w' => e = .returned (.tuple #[.string u, .int .i64 c]) ∧ Below w.heap.size w w' := by
  have h1 := list_any a cap ss w hs
  rw [h.out.1, h.out.2, hn.out] at h1
  exact h1

theorem made_rep (z : Value) (h : z.cells = #[z]) (n : Nat) : (madeCells z.cells (n * 1)).toList = List.replicate n z := by
  rw [h, Nat.mul_one]
  exact toList_madeCells_one z n

theorem wide_text (t : ByteArray) : (1000 < t.size ∧ txS t = ⟨#[]⟩ ∧ txE t = 11) ∨ (t.size ≤ 1000 ∧ txE t = 0 ∧ (txS t).size = 2 + t.size) := by
  unfold txS txE
  by_cases h : 1000 < t.size
  · rw [if_pos h, if_pos h]; exact .inl ⟨h, rfl, rfl⟩
  · rw [if_neg h, if_neg h]; exact .inr ⟨by omega, rfl, by rw [bs_size, txt_length]⟩

theorem lst_empties (n : Nat) : (lst (List.replicate n ByteArray.empty)).length = 1 + 2 * n := by
  have e : txt ByteArray.empty = [0, 0] := by decide
  unfold lst lstTo
  rw [List.take_length, List.map_replicate, e, List.length_cons]
  have : ((List.replicate n ([0, 0] : List UInt8)).flatten).length = 2 * n := by
    induction n with
    | zero => rfl
    | succ n ih => rw [List.replicate_succ, List.flatten_cons, List.length_append, ih]; simp; omega
  omega

theorem wide_list (n : Nat) : (255 < n ∧ lsS (List.replicate n ByteArray.empty) = ⟨#[]⟩ ∧ lsE (List.replicate n ByteArray.empty) = 11) ∨ (n ≤ 255 ∧ lsE (List.replicate n ByteArray.empty) = 0 ∧ (lsS (List.replicate n ByteArray.empty)).size = 1 + 2 * n) := by
  have hB : lsB (List.replicate n ByteArray.empty) = decide (255 < n) := by
    unfold lsB
    rw [List.length_replicate]
    have : (List.replicate n ByteArray.empty).any (fun s => decide (1000 < s.size)) = false := by
      rw [List.any_eq_false]
      intro s hs
      rw [List.eq_of_mem_replicate hs]
      decide
    rw [this, Bool.or_false]
  unfold lsS lsE
  rw [hB]
  by_cases h : 255 < n
  · simp only [h, decide_true, if_true]; exact .inl ⟨trivial, rfl, trivial⟩
  · simp only [h, decide_false, Bool.false_eq_true, if_false]
    exact .inr ⟨by omega, trivial, by rw [bs_size, lst_empties]⟩

theorem u16_nat {n : Int} (h : (Lit.int .u16 n).wf = true) : ∃ k : Nat, n = (k : Int) ∧ k ≤ 65535 := by
  have := bounds_u16 h
  exact ⟨n.toNat, by omega, by omega⟩

set_option maxRecDepth 100000 in
set_option maxHeartbeats 1000000 in
theorem walk_FieldWide (n : Int) (hn : (Lit.int .u16 n).wf = true) (m : Int) (hm : (Lit.int .u16 m).wf = true) (w : World) :
    Calls Try.prog 9 #[.int .u16 n, .int .u16 m] w fun e w' => e = .returned (.bool true) ∧ Below w.heap.size w w' := by
  obtain ⟨n, rfl, hn2⟩ := u16_nat hn
  obtain ⟨m, rfl, hm2⟩ := u16_nat hm
  clear hn hm
  obtain ⟨ib, hib, hb0, hb1, hb2⟩ := info_parts Try.info5
  obtain ⟨is, his, hs0, hs1, hs2⟩ := info_parts Try.infoStr
  obtain ⟨k, hk⟩ : ∃ k, k = n % 1100 := ⟨_, rfl⟩
  obtain ⟨q, hq⟩ : ∃ q, q = m % 300 := ⟨_, rfl⟩
  have hk2 : k < 1100 := by omega
  have hq2 : q < 300 := by omega
  have HK := Lib.hid hk
  have HQ := Lib.hid hq
  obtain ⟨t, ht⟩ : ∃ t : ByteArray, t = bs (List.replicate k 0) := ⟨_, rfl⟩
  have hts : t.size = k := by rw [ht, bs_size, List.length_replicate]
  have hts2 : t.size < 1100 := by omega
  have HT := Lib.hid ht
  have HTS := Lib.hid hts
  have WT := Lib.hid (wide_text t)
  have WL := Lib.hid (wide_list q)
  clear hk hq ht hts
  obtain ⟨u, hu⟩ : ∃ u, txS t = u := ⟨_, rfl⟩
  obtain ⟨c, hc⟩ : ∃ c, txE t = c := ⟨_, rfl⟩
  obtain ⟨v, hv⟩ : ∃ v, lsS (List.replicate q ByteArray.empty) = v := ⟨_, rfl⟩
  obtain ⟨d, hd⟩ : ∃ d, lsE (List.replicate q ByteArray.empty) = d := ⟨_, rfl⟩
  rw [hu, hc] at WT
  rw [hv, hd] at WL
  have HUC : Hid (txS t = u ∧ txE t = c) := ⟨hu, hc⟩
  have HVD : Hid (lsS (List.replicate q ByteArray.empty) = v ∧ lsE (List.replicate q ByteArray.empty) = d) := ⟨hv, hd⟩
  clear hu hc hv hd
  go_enter Try.func9, Try.ntmps9
  go_wp2_with (first | (refine wpList_make_full _ rfl (.tmp 13) (.tmp 13) 48 rfl w.heap.size 5 ib (.int .u8 0) 1 Try.underlying48 hib hb0 hb1 _ _ _ _ k rfl rfl ?e1 ?e2 ?e3 ?e4 ?e5 ?_))
  case e1 => have := HK.out; omega
  case e2 => have := HK.out; omega
  case e3 => rw [hb2]; omega
  case e4 => unfold maxLen; omega
  case e5 => exact Nat.le_refl _
  intro w1 hown1 hg1
  have hcv : (convert 48 9 (.slice (some ⟨w.heap.size, 0, none⟩) k k)).run Try.prog w1 = .ok (.string t) w1 := by
    rw [HT.out]
    refine own_string (P := Try.prog) (src := 48) (dst := 9) (List.replicate k 0) Try.underlying48 Try.underlying5 Try.underlying9 (base := w.heap.size) (n := k) ?_
    rw [List.map_replicate]
    rw [toList_madeCells_one] at hown1
    exact hown1
  have hbl1 : Below w.heap.size w w1 := (Below.refl _ _).grown hg1 (Nat.le_refl _) (fun g hg => by cases hg)
  clear hown1 hg1
  go_wp2_with fail
  refine (text_named t u c HUC _).mono ?_
  rintro e w2 ⟨rfl, hb2'⟩
  have hbl2 := hbl1.trans (hb2'.mono hbl1.size)
  have hsz2 := hbl2.size
  clear hb2' hbl1 hcv
  go_wp2_with (first | (refine wpList_make_full _ rfl (.tmp 23) (.tmp 23) 38 rfl w.heap.size 9 is (.string ByteArray.empty) 1 Try.underlying38 his hs0 hs1 _ _ _ _ q rfl rfl ?f1 ?f2 ?f3 ?f4 ?f5 ?_))
  case f1 => have := HQ.out; omega
  case f2 => have := HQ.out; omega
  case f3 => rw [hs2]; omega
  case f4 => unfold maxLen; omega
  case f5 => exact hsz2
  intro w3 hown3 hg3
  have hsees : Hid (Sees w3 (some ⟨w2.heap.size, 0, none⟩) (List.replicate q ByteArray.empty)) := by
    rw [toList_madeCells_one] at hown3
    have h1 : (List.replicate q ByteArray.empty).map Value.string = List.replicate q (.string ByteArray.empty) := List.map_replicate
    rw [← h1] at hown3
    obtain ⟨_, a, cc, he, hs⟩ := own_sees hown3
    injection he with he1
    rw [he1]
    exact hs
  have hbl3 : Below w.heap.size w w3 := hbl2.grown hg3 hsz2 (fun g hg => by cases hg)
  clear hown3 hg3 hbl2
  have hlenq : Hid ((List.replicate q ByteArray.empty).length = q) := List.length_replicate
  go_wp2_with fail
  refine (list_named _ _ (List.replicate q ByteArray.empty) v d q HVD hlenq _ hsees.out).mono ?_
  rintro e w4 ⟨rfl, hb4⟩
  have hbl4 := hbl3.trans (hb4.mono hbl3.size)
  clear hb4 hbl3 HUC HVD
  rcases WT.out with ⟨p1, p2, p3⟩ | ⟨p1, p2, p3⟩
  · subst p2
    subst p3
    rcases WL.out with ⟨r1, r2, r3⟩ | ⟨r1, r2, r3⟩
    · subst r2
      subst r3
      clear WT WL
      have g1 : decide ((1000 : Int) < (t.size : Int)) = true := by simp; omega
      have g2 : decide ((255 : Int) < (q : Int)) = true := by simp; omega
      go_wp2_with fail
      refine (shown_any _).mono ?_
      rintro e w5 ⟨rfl, hb5⟩
      have hbl5 := hbl4.trans (hb5.mono hbl4.size)
      clear hb5 hbl4
      go_wp2
      go_ret
      exact ⟨rfl, hbl5⟩
    · subst r2
      clear WT WL
      have g1 : decide ((1000 : Int) < (t.size : Int)) = true := by simp; omega
      have g2 : decide ((255 : Int) < (q : Int)) = false := by simp; omega
      have g4 : ((v.size : Int) == 1 + 2 * (q : Int)) = true := beq_iff_eq.2 (by omega)
      have hvs : v.size ≤ 1000 := by omega
      clear r3
      go_wp2_with fail
      refine (shown_any _).mono ?_
      rintro e w5 ⟨rfl, hb5⟩
      have hbl5 := hbl4.trans (hb5.mono hbl4.size)
      clear hb5 hbl4
      go_wp2
      go_ret
      exact ⟨rfl, hbl5⟩
  · subst p2
    rcases WL.out with ⟨r1, r2, r3⟩ | ⟨r1, r2, r3⟩
    · subst r2
      subst r3
      clear WT WL
      have g1 : decide ((1000 : Int) < (t.size : Int)) = false := by simp; omega
      have g2 : decide ((255 : Int) < (q : Int)) = true := by simp; omega
      have g3 : ((u.size : Int) == 2 + (t.size : Int)) = true := beq_iff_eq.2 (by omega)
      have hus : u.size ≤ 2000 := by omega
      clear p3
      go_wp2_with fail
      refine (shown_any _).mono ?_
      rintro e w5 ⟨rfl, hb5⟩
      have hbl5 := hbl4.trans (hb5.mono hbl4.size)
      clear hb5 hbl4
      go_wp2
      go_ret
      exact ⟨rfl, hbl5⟩
    · subst r2
      clear WT WL
      have g1 : decide ((1000 : Int) < (t.size : Int)) = false := by simp; omega
      have g2 : decide ((255 : Int) < (q : Int)) = false := by simp; omega
      have g3 : ((u.size : Int) == 2 + (t.size : Int)) = true := beq_iff_eq.2 (by omega)
      have g4 : ((v.size : Int) == 1 + 2 * (q : Int)) = true := beq_iff_eq.2 (by omega)
      have hus : u.size ≤ 2000 := by omega
      have hvs : v.size ≤ 1000 := by omega
      clear p3 r3
      go_wp2_with fail
      refine (shown_any _).mono ?_
      rintro e w5 ⟨rfl, hb5⟩
      have hbl5 := hbl4.trans (hb5.mono hbl4.size)
      clear hb5 hbl4
      go_wp2
      go_ret
      exact ⟨rfl, hbl5⟩

end Go.Proofs.Ytemlfpiclpopbaa
