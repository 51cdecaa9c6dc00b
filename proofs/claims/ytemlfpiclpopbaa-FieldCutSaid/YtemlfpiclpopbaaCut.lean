/-
  The walk of the law FieldCut.
-/
import Derived.Test.YtemlfpiclpopbaaBack
namespace Go.Proofs.Ytemlfpiclpopbaa
open Go.RowKit

theorem cut_text (s : ByteArray) (hs : s.size ≤ 1000) (L : List UInt8) (m : Nat) (hL : L = (txt s).take m) (hm : m < (txt s).length) : ttE L = 10 := by
  have hl : L.length = m := by rw [hL, List.length_take]; omega
  rw [txt_length] at hm
  unfold ttE
  by_cases h2 : L.length < 2
  · rw [if_pos h2]
  · have hN : ttN L = s.size := by
      unfold ttN
      have : L.take 2 = numB 2 s.size := by
        rw [hL, List.take_take, Nat.min_eq_left (by omega)]
        unfold txt
        rw [List.take_append_of_le_length (by rw [numB_length]; omega)]
        exact List.take_of_length_le (by rw [numB_length]; omega)
      rw [this, numV_numB 2 s.size (by omega)]
    rw [if_neg h2, hN, if_neg (by omega), if_pos (by rw [List.length_drop]; omega)]

theorem cut_texts : ∀ (ss : List ByteArray), (∀ s ∈ ss, s.size ≤ 1000) → ∀ m, m < ((ss.map txt).flatten).length → tlE ss.length (((ss.map txt).flatten).take m) = 10
  | [], _, m, hm => by simp at hm
  | s :: ss, h, m, hm => by
    have hs := h s (List.mem_cons_self ..)
    have ih := cut_texts ss (fun t ht => h t (List.mem_cons_of_mem _ ht))
    simp only [List.map_cons, List.flatten_cons, List.length_cons, List.length_append] at hm ⊢
    by_cases hlt : m < (txt s).length
    · have e : (txt s ++ (ss.map txt).flatten).take m = (txt s).take m := List.take_append_of_le_length (by omega)
      rw [e]
      have := cut_text s hs _ m rfl hlt
      rw [tlE_err (by rw [this]; decide), this]
    · have e : (txt s ++ (ss.map txt).flatten).take m = txt s ++ ((ss.map txt).flatten).take (m - (txt s).length) := by
        rw [List.take_append, List.take_of_length_le (by omega)]
      obtain ⟨b1, b2, b3⟩ := tt_back s hs (((ss.map txt).flatten).take (m - (txt s).length))
      rw [e, tlE_ok b1, b3]
      exact ih _ (by omega)

theorem cut_list (ss : List ByteArray) (hn : ss.length ≤ 255) (h : ∀ s ∈ ss, s.size ≤ 1000) (m : Nat) (hm : m < (lst ss).length) : taE ((lst ss).take m) = 10 := by
  have hl : lst ss = UInt8.ofNat ss.length :: (ss.map txt).flatten := by unfold lst lstTo; rw [List.take_length]
  cases m with
  | zero => rfl
  | succ m =>
    have e : (lst ss).take (m + 1) = UInt8.ofNat ss.length :: ((ss.map txt).flatten).take m := by rw [hl]; rfl
    unfold taE
    rw [e, if_neg (by simp)]
    have hN : numV ((UInt8.ofNat ss.length :: ((ss.map txt).flatten).take m).take 1) = ss.length := by
      simp only [List.take_succ_cons, List.take_zero, numV, UInt8.toNat_ofNat']
      omega
    rw [hN]
    exact cut_texts ss h m (by rw [hl] at hm; simpa using hm)

set_option maxRecDepth 100000 in
set_option maxHeartbeats 1000000 in
theorem walk_FieldCut0 (n : Nat) (hn : Hid (n < 18446744073709551616)) (t : ByteArray) (a : Option Addr) (cap : Nat) (ss : List ByteArray) (hlen : ss.length ≤ 9223372036854775807) (cut : Nat) (hcut : cut ≤ 65535) (w : World) (hs : Hid (Sees w a ss)) :
    Calls Try.prog 8 #[.int .u64 (n : Int), .string t, .slice a ss.length cap, .int .u16 (cut : Int)] w (LawEnd w) := by
  by_cases h1 : (300 : Int) < (t.size : Int)
  · have d1 : decide ((300 : Int) < (t.size : Int)) = true := by simpa using h1
    go_enter Try.func8, Try.ntmps8
    go_wp2_with fail
    refine (shown_any _).mono ?_
    rintro e w1 ⟨rfl, hb1⟩
    go_wp2
    go_ret
    exact ⟨rfl, hb1⟩
  have d1 : decide ((300 : Int) < (t.size : Int)) = false := by simpa using h1
  by_cases h2 : (20 : Int) < (ss.length : Int)
  · have d2 : decide ((20 : Int) < (ss.length : Int)) = true := by simpa using h2
    go_enter Try.func8, Try.ntmps8
    go_wp2_with fail
    refine (shown_any _).mono ?_
    rintro e w1 ⟨rfl, hb1⟩
    go_wp2
    go_ret
    exact ⟨rfl, hb1⟩
  have d2 : decide ((20 : Int) < (ss.length : Int)) = false := by simpa using h2
  obtain ⟨A, hA⟩ : ∃ A : ByteArray, A.data.toList = numB 8 n := ⟨bs (numB 8 n), rfl⟩
  obtain ⟨B, hB⟩ : ∃ B : ByteArray, B = bs (txt t) := ⟨_, rfl⟩
  obtain ⟨C, hC⟩ : ∃ C : ByteArray, C = bs (lst ss) := ⟨_, rfl⟩
  have hAs : A.size = 8 := by rw [← ba_size, hA, numB_length]
  have hBs : B.size = 2 + t.size := by rw [hB, bs_size, txt_length]
  have HA : Hid (A.data.toList = numB (8 : Int).toNat ((n : Int)).toNat) := hA
  have HF : Hid (fitsB (n : Int) 8 = true) := fits_8 _ (by have := hn.out; omega)
  have HN64 : Hid ((n : Int) < 18446744073709551616) := by have := hn.out; unfold Hid; omega
  have HB := Lib.hid hB
  have HC := Lib.hid hC
  have HAS := Lib.hid hAs
  have HBS := Lib.hid hBs
  have ht1000 : t.size ≤ 1000 := by omega
  clear hA hB hC hAs hBs
  go_enter Try.func8, Try.ntmps8
  go_wp2_with fail
  refine (shown_any _).mono ?_
  rintro e w1 ⟨rfl, hb1⟩
  go_wp2
  go_loopw [9] (fun i wr => ∃ j : Nat, j ≤ ss.length ∧ i = .int .i64 j ∧ Hid (∀ i (h : i < ss.length), i < j → ss[i].size ≤ 200) ∧ Below w.heap.size w wr) (fun i _ => ss.length - (intOf i).toNat)
  case atStart => exact ⟨0, by omega, rfl, fun i h h0 => absurd h0 (by omega), hb1⟩
  case round =>
    clear hb1
    obtain ⟨j, hj, rfl, hall, hbl⟩ := hrel
    have hsz := hbl.size
    by_cases hlt : j < ss.length
    · obtain ⟨ad, ea, hadb, hca⟩ := (Sees.below hs.out hbl (Nat.le_refl _)) j hlt
      subst ea
      obtain ⟨x, hx⟩ : ∃ x, x = ss[j] := ⟨_, rfl⟩
      rw [← hx] at hca
      by_cases hw : (200 : Int) < (x.size : Int)
      · clear hx
        go_wp2_with fail
        refine (shown_any _).mono ?_
        rintro e w2 ⟨rfl, hb2⟩
        have hbl2 := hbl.trans (hb2.mono hsz)
        clear hb2
        go_wp2
        go_ret
        exact ⟨rfl, hbl2⟩
      · have hall1 : Hid (∀ i (h : i < ss.length), i < j + 1 → ss[i].size ≤ 200) := by
          intro i h hi
          by_cases hij : i < j
          · exact hall.out i h hij
          · have : i = j := by omega
            subst this
            rw [← hx]
            omega
        clear hx
        go_wp2
        go_roundw
        case rel => exact ⟨j + 1, by omega, by go_num, hall1, hbl⟩
        case measure => simp [intOf]; omega
    · have hw200 : ∀ x ∈ ss, x.size ≤ 200 := by
        intro x hx
        obtain ⟨i, hi, rfl⟩ := List.getElem_of_mem hx
        exact hall.out i hi (by omega)
      have hw1000 : ∀ x ∈ ss, x.size ≤ 1000 := fun x hx => by have := hw200 x hx; omega
      have HLS : Hid (lsS ss = C ∧ lsE ss = 0) := by
        have hB2 : lsB ss = false := by
          unfold lsB
          rw [decide_eq_false (by omega), Bool.false_or, List.any_eq_false]
          intro y hy
          have := hw1000 y hy
          simp
          omega
        unfold Hid lsS lsE
        rw [hB2, if_neg (by decide), if_neg (by decide), ← HC.out]
        exact ⟨rfl, rfl⟩
      have hCs : 1 ≤ C.size ∧ C.size ≤ 30000 := by
        rw [HC.out, bs_size]
        have h3 := lstTo_len ss ss.length (Nat.le_refl _) (fun i h _ => hw1000 _ (List.getElem_mem h))
        have : (lst ss).length ≤ 1 + 1002 * ss.length := h3
        have h4 : 1 ≤ (lst ss).length := by unfold lst lstTo; simp
        omega
      obtain ⟨hCs1, hCs2⟩ := hCs
      have HW := Lib.hid hw1000
      clear hw200 hw1000 hall
      go_wp2_with fail
      refine (number_named (n : Int) 8 A (by omega) HN64 (by decide) (by decide) HF HA _).mono ?_
      rintro e w2 ⟨rfl, hb2⟩
      have hbl2 := hbl.trans (hb2.mono hsz)
      have hbs2 := hbl2.size
      clear hb2 hbl
      go_wp2_with fail
      refine (text_yes_named t B ht1000 HB _).mono ?_
      rintro e w3 ⟨rfl, hb3⟩
      have hbl3 := hbl2.trans (hb3.mono hbs2)
      have hbs3 := hbl3.size
      clear hb3 hbl2
      go_wp2_with fail
      refine (list_named a cap ss C 0 _ HLS rfl _ (Sees.below hs.out hbl3 (Nat.le_refl _))).mono ?_
      rintro e w4 ⟨rfl, hb4⟩
      have hbl4 := hbl3.trans (hb4.mono hbs3)
      have hbs4 := hbl4.size
      clear hb4 hbl3
      go_wp2
      have hApos : 0 < A.size := by have := HAS.out; omega
      have hA8 : A.size ≤ 8 := by have := HAS.out; omega
      have hBpos : 0 < B.size := by have := HBS.out; omega
      have hB4 : B.size ≤ 400 := by have := HBS.out; omega
      have hCpos : 0 < C.size := hCs1
      go_loopw [17] (fun i wr => ∃ q : Nat, q ≤ 3 ∧ i = .int .i64 q ∧ Hid (wr.heap[w4.heap.size]? = some (.cells #[.string A, .string B, .string C] 9 (0, 0))) ∧ Below w.heap.size w wr) (fun i _ => 3 - (intOf i).toNat)
      case atStart => exact ⟨0, by omega, rfl, heap_alloc_new w4 _, hbl4.alloc hbs4 _⟩
      case round =>
        clear hbl4
        obtain ⟨q, hq, rfl, hp, hbl5⟩ := hrel
        have hbs5 := hbl5.size
        have hcase : q = 0 ∨ q = 1 ∨ q = 2 ∨ q = 3 := by omega
        rcases hcase with hi0 | hi1 | hi2 | hi3
        · subst hi0
          have cX := cell_of_row wr w4.heap.size 0 _ _ _ hp.out
          have cX2 : wr.cell? ⟨w4.heap.size, 0, none⟩ = some (.string A) := cX
          clear cX
          obtain ⟨m, hm⟩ : ∃ m, m = cut % A.size := ⟨_, rfl⟩
          have hmlt : m < A.size := by rw [hm]; exact Nat.mod_lt _ hApos
          have r1 : ((cut : Int)).tmod (A.size : Int) = (m : Int) := by rw [hm]; rfl
          have r2 : (cut : Int) % (A.size : Int) = (m : Int) := by rw [hm]; rfl
          have z0 : ((A.size : Int) == 0) = false := beq_eq_false_iff_ne.2 (by omega)
          have z1 : (0 : Int) ≤ (m : Int) := by omega
          have z2 : (m : Int) ≤ (A.size : Int) := by omega
          have z3 : ¬ (A.size : Int) = 0 := by omega
          clear hm
          go_wp2
          go_quiet (fail)
          clear r1 r2
          go_wp2_with fail
          refine (takeNumber_short (A.extract 0 m) 8 (by decide) (by decide) (by unfold Hid; rw [ba_take, List.length_take]; show _ < 8; have := HAS.out; omega) _).mono ?_
          rintro e w6 ⟨rfl, hb6⟩
          have hbl6 := hbl5.trans ((below_drewN (Below.refl _ _) _).trans (hb6.mono (by exact hbs5)))
          have hp6 : Hid (w6.heap[w4.heap.size]? = some (.cells #[.string A, .string B, .string C] 9 (0, 0))) := (hb6.block _ (lt_of_block hp.out)).trans hp.out
          clear hb6 hbl5
          go_wp2
          go_roundw
          case rel => exact ⟨1, by omega, rfl, hp6, hbl6⟩
          case measure => simp [intOf]
        · subst hi1
          have cX := cell_of_row wr w4.heap.size 1 _ _ _ hp.out
          have cX2 : wr.cell? ⟨w4.heap.size, 1, none⟩ = some (.string B) := cX
          clear cX
          obtain ⟨m, hm⟩ : ∃ m, m = cut % B.size := ⟨_, rfl⟩
          have hmlt : m < B.size := by rw [hm]; exact Nat.mod_lt _ hBpos
          have r1 : ((cut : Int)).tmod (B.size : Int) = (m : Int) := by rw [hm]; rfl
          have r2 : (cut : Int) % (B.size : Int) = (m : Int) := by rw [hm]; rfl
          have z0 : ((B.size : Int) == 0) = false := beq_eq_false_iff_ne.2 (by omega)
          have z1 : (0 : Int) ≤ (m : Int) := by omega
          have z2 : (m : Int) ≤ (B.size : Int) := by omega
          have z3 : ¬ (B.size : Int) = 0 := by omega
          clear hm
          go_wp2
          go_quiet (fail)
          clear r1 r2
          go_wp2_with fail
          refine (takeText_err_named (B.extract 0 m) 10 (cut_text t ht1000 _ m (by rw [ba_take, HB.out]; rfl) (by rw [txt_length]; have := HBS.out; omega)) (by unfold Hid; decide) _).mono ?_
          rintro e w6 ⟨rfl, hb6⟩
          have hbl6 := hbl5.trans ((below_drewN (Below.refl _ _) _).trans (hb6.mono (by exact hbs5)))
          have hp6 : Hid (w6.heap[w4.heap.size]? = some (.cells #[.string A, .string B, .string C] 9 (0, 0))) := (hb6.block _ (lt_of_block hp.out)).trans hp.out
          clear hb6 hbl5
          go_wp2
          go_roundw
          case rel => exact ⟨2, by omega, rfl, hp6, hbl6⟩
          case measure => simp [intOf]
        · subst hi2
          have cX := cell_of_row wr w4.heap.size 2 _ _ _ hp.out
          have cX2 : wr.cell? ⟨w4.heap.size, 2, none⟩ = some (.string C) := cX
          clear cX
          obtain ⟨m, hm⟩ : ∃ m, m = cut % C.size := ⟨_, rfl⟩
          have hmlt : m < C.size := by rw [hm]; exact Nat.mod_lt _ hCpos
          have r1 : ((cut : Int)).tmod (C.size : Int) = (m : Int) := by rw [hm]; rfl
          have r2 : (cut : Int) % (C.size : Int) = (m : Int) := by rw [hm]; rfl
          have z0 : ((C.size : Int) == 0) = false := beq_eq_false_iff_ne.2 (by omega)
          have z1 : (0 : Int) ≤ (m : Int) := by omega
          have z2 : (m : Int) ≤ (C.size : Int) := by omega
          have z3 : ¬ (C.size : Int) = 0 := by omega
          clear hm
          go_wp2
          go_quiet (fail)
          clear r1 r2
          have hE2 : Hid (taE (C.extract 0 m).data.toList = 10) := by
            unfold Hid
            rw [ba_take, HC.out]
            exact cut_list ss (by omega) HW.out m (by have := hmlt; rw [HC.out, bs_size] at this; exact this)
          go_wp2_with fail
          refine (takeList_any (C.extract 0 m) _).mono ?_
          rintro e w6 ⟨a6, c6, rfl, _, hb6⟩
          rw [hE2.out]
          have hbl6 := hbl5.trans ((below_drewN (Below.refl _ _) _).trans (hb6.mono (by exact hbs5)))
          have hp6 : Hid (w6.heap[w4.heap.size]? = some (.cells #[.string A, .string B, .string C] 9 (0, 0))) := (hb6.block _ (lt_of_block hp.out)).trans hp.out
          clear hb6 hbl5
          go_wp2
          go_roundw
          case rel => exact ⟨3, by omega, rfl, hp6, hbl6⟩
          case measure => simp [intOf]
        · subst hi3
          go_wp2
          go_ret
          exact ⟨rfl, hbl5⟩

theorem walk_FieldCut (n : Int) (hn : (Lit.int .u64 n).wf = true) (t : ByteArray) (_ht : t.size ≤ maxLen) (a : Option Addr) (len cap : Nat) (ss : List ByteArray) (cut : Int) (hc : (Lit.int .u16 cut).wf = true) (w : World) (hl : CameStrs w a len cap ss) :
    Calls Try.prog 8 #[.int .u64 n, .string t, .slice a len cap, .int .u16 cut] w fun e w' => e = .returned (.bool true) ∧ Below w.heap.size w w' := by
  have b1 := bounds_u64 hn
  obtain ⟨n, rfl⟩ := Int.eq_ofNat_of_zero_le b1.1
  obtain ⟨c, rfl, hc2⟩ := u16_nat hc
  have h1 := hl.1
  have h2 := hl.2.1
  have h3 := hl.2.2.1
  unfold maxLen at h3
  subst h1
  exact walk_FieldCut0 n (by unfold Hid; omega) t a cap ss (by omega) c hc2 w hl.sees

end Go.Proofs.Ytemlfpiclpopbaa
