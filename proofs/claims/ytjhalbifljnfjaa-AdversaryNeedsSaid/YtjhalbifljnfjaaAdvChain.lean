/-
  The walk of AdversaryChain.
-/
import Derived.Test.YtjhalbifljnfjaaAdvChainMath
import Derived.Test.YtjhalbifljnfjaaAdvStep
import Derived.Test.YtjhalbifljnfjaaOpen
namespace Go.Proofs.Ytjhalbifljnfjaa
open Go.RowKit
set_option linter.unusedVariables false

/-- A row of one node, just made. -/
theorem own_node (w : World) (B : Nat) (hB : B ≤ w.heap.size) (K : Nds) {z0 z1 z2 : Int} (h0 : z0 = K 0 0) (h1 : z1 = K 0 1) (h2 : z2 = K 0 2) : (w.alloc (.cells #[.int .i64 z0, .int .i64 z1, .int .i64 z2] 42)).ownsRow B 42 3 (.slice (some ⟨w.heap.size, 0, none⟩) 1 1) 1 (cellL (1 * 3) (flatN K)) := by
  subst h0 h1 h2
  exact ⟨rfl, .inr ⟨w.heap.size, 1, _, rfl, hB, RowAt.new w _ _, Nat.le_refl _, by decide, rfl, rfl⟩⟩

set_option maxHeartbeats 8000000 in
set_option maxRecDepth 8000 in
theorem chain_walk (n0 t0 : Nat) (hn : n0 < 256) (ht : t0 < 256) (w : World) :
    Calls Try.prog 6 #[.int .u8 (n0 : Int), .int .u8 (t0 : Int)] w fun e w' => e = .returned (.bool true) ∧ Below w.heap.size w w' := by
  obtain ⟨r, hr⟩ : ∃ r, n0 % 20 = r := ⟨_, rfl⟩
  have hr20 : r < 20 := by omega
  have e1 : (n0 : Int) % 20 = (r : Int) := by omega
  have e2 : (n0 : Int).tmod 20 = (r : Int) := by rw [Int.tmod_eq_emod_of_nonneg (by omega)]; exact e1
  obtain ⟨m, hm⟩ : ∃ m, 1 + r = m := ⟨_, rfl⟩
  have e3 : (1 : Int) + (r : Int) = (m : Int) := by omega
  have hm20 : m ≤ 20 := by omega
  have hm1 : 1 ≤ m := by omega
  clear hr hm
  have k0 : Hid (∀ j, chainK m 0 j = if j = 1 then 7 else 0) := chain_a
  have kk : Hid (∀ i, i ≤ m → chainK m (1 + i) 0 = 1 ∧ chainK m (1 + i) 1 = (i : Int) ∧ chainK m (1 + i) 2 = 0) := fun i h => chain_k h
  have kl : Hid (∀ i, i < m → chainK m (m + 2 + i) 0 = 3 ∧ chainK m (m + 2 + i) 1 = ((1 + i : Nat) : Int) ∧ chainK m (m + 2 + i) 2 = ((2 + i : Nat) : Int)) := fun i h => chain_l h
  have ke := Lib.hid (chain_e (m := m))
  have o0 := Lib.hid (own_node w w.heap.size (Nat.le_refl _) (chainK m) (z0 := 0) (z1 := 7) (z2 := 0) rfl rfl rfl)
  have b0 : Below w.heap.size w (w.alloc (.cells #[.int .i64 0, .int .i64 7, .int .i64 0] 42)) := (Below.refl _ _).alloc (Nat.le_refl _) _
  go_enter Try.func6, Try.ntmps6
  go_wp2
  generalize w.alloc (.cells #[.int .i64 0, .int .i64 7, .int .i64 0] 42) = w1 at *
  go_loopg [6, 7] (m + 1) (fun g v6 v7 wr => ∃ i : Nat, i + g = m + 1 ∧ v7 = .int .i64 (i : Int) ∧ Hid (wr.ownsRow w.heap.size 42 3 v6 (1 + i) (cellL ((1 + i) * 3) (flatN (chainK m)))) ∧ Below w.heap.size w wr)
  case atStart => exact ⟨0, by omega, rfl, o0, b0⟩
  case round =>
    clear o0 b0
    obtain ⟨i, hi, rfl, hown, hb⟩ := hrel
    by_cases hlt : i ≤ m
    · have li : (i : Int) ≤ (m : Int) := by omega
      obtain ⟨p0, p1, p2⟩ := kk.out i hlt
      replace p0 := Lib.hid p0
      replace p1 := Lib.hid p1
      replace p2 := Lib.hid p2
      go_wp2_with (at_builtin; refine wpList_append_node rfl _ _ rfl w.heap.size _ (1 + i) (chainK m) _ _ _ p0.out.symm p1.out.symm p2.out.symm rfl wr hown.out rfl rfl rfl (by omega) hb.size ?_; intro v5 w5 own5 g5 b5)
      have b6 := hb.trans b5.out
      go_roundg (m + 1 - (i + 1))
      case measure => omega
      case rel => exact ⟨i + 1, by omega, by go_num, by rw [show 1 + (i + 1) = 1 + i + 1 by omega]; exact own5, b6⟩
    · have li : ¬ (i : Int) ≤ (m : Int) := by omega
      obtain rfl : i = m + 1 := by omega
      rw [show 1 + (m + 1) = m + 2 + 0 by omega] at hown
      have al : Below wr.heap.size wr (wr.alloc (.cells #[] 3)) := (Below.refl _ _).alloc (Nat.le_refl _) _
      have ok0 : Hid ((wr.alloc (.cells #[] 3)).ownsRow w.heap.size 3 1 (.slice (some ⟨wr.heap.size, 0, none⟩) 0 0) 0 (cellL 0 (numV (chainF m)))) := World.ownsRow_made wr #[] 0 hb.size (by decide) rfl
      have ol0 := Lib.hid (own_onto hown.out al)
      have b1 := hb.trans (al.mono hb.size)
      clear hown hb al
      go_wp2
      generalize wr.alloc (.cells #[] 3) = w2 at *
      generalize wr.heap.size = g2 at *
      go_loopg [6, 8, 9] m (fun g v6 v8 v9 wr => ∃ i : Nat, i + g = m ∧ v9 = .int .i64 (i : Int) ∧ Hid (wr.ownsRow w.heap.size 42 3 v6 (m + 2 + i) (cellL ((m + 2 + i) * 3) (flatN (chainK m)))) ∧ Hid (wr.ownsRow w.heap.size 3 1 v8 i (cellL i (numV (chainF m)))) ∧ Below w.heap.size w wr)
      case atStart => exact ⟨0, by omega, rfl, ol0, ok0, b1⟩
      case round =>
        clear ol0 ok0 b1
        obtain ⟨i, hi, rfl, ol, ok, hb⟩ := hrel
        by_cases hlt : i < m
        · have li : (i : Int) < (m : Int) := by omega
          obtain ⟨p0, p1, p2⟩ := kl.out i hlt
          obtain ⟨q, hq⟩ : ∃ q, m + 2 + i = q := ⟨_, rfl⟩
          rw [hq] at p0 p1 p2 ol
          have p0' : Hid (3 = chainK m q 0) := p0.symm
          have p1' : Hid (1 + (i : Int) = chainK m q 1) := by unfold Hid; rw [p1]; omega
          have p2' : Hid (2 + (i : Int) = chainK m q 2) := by unfold Hid; rw [p2]; omega
          have ef : Hid ((q : Int) = ((chainF m i : Nat) : Int)) := by unfold Hid chainF; omega
          have hq50 : q ≤ 1000000 := by omega
          obtain ⟨aL, cL, rfl⟩ := own_none9 ol.out
          replace hq := Lib.hid hq
          clear p0 p1 p2
          go_wp2_with (at_builtin; refine wpList_append_num rfl _ _ rfl w.heap.size _ i (chainF m) _ ef.out rfl wr ok.out rfl rfl rfl (by omega) hb.size ?_; intro v5 w5 own5 g5 b5; refine Hid.out ?_)
          unfold Hid
          have ol5 := Lib.hid (ol.out.kept g5.out (own_two ol.out ok.out (by decide)))
          have b6 := hb.trans b5.out
          clear ol ok hb g5 b5 ef
          go_wp2_with (at_builtin; refine wpList_append_node rfl _ _ rfl w.heap.size _ q (chainK m) _ _ _ p0'.out p1'.out p2'.out rfl w5 ol5.out rfl rfl rfl hq50 b6.size ?_; intro v7 w7 own7 g7 b7)
          have ok7 := Lib.hid (own5.out.kept g7.out (own_two own5.out ol5.out (by decide)))
          have b8 := b6.trans b7.out
          go_roundg (m - (i + 1))
          case measure => omega
          case rel => exact ⟨i + 1, by omega, by go_num, by rw [show m + 2 + (i + 1) = q + 1 by have := hq.out; omega]; exact own7, ok7, b8⟩
        · have li : ¬ (i : Int) < (m : Int) := by omega
          have ein : i = m := by omega
          rw [ein] at ol ok
          rw [ein]
          clear ein hlt hi
          obtain ⟨p0, p1, p2⟩ := ke.out
          obtain ⟨q, hq⟩ : ∃ q, m + 2 + m = q := ⟨_, rfl⟩
          rw [hq] at ol
          rw [show 2 * m + 2 = q by omega] at p0 p1 p2
          have p0' : Hid (3 = chainK m q 0) := p0.symm
          have p1' : Hid (1 + (m : Int) = chainK m q 1) := by unfold Hid; rw [p1]; omega
          have p2' : Hid (0 = chainK m q 2) := p2.symm
          have ef : Hid ((q : Int) = ((chainF m m : Nat) : Int)) := by unfold Hid chainF; omega
          have hq50 : q ≤ 1000000 := by omega
          have hq3 : q + 1 = 2 * m + 3 := by omega
          obtain ⟨aL, cL, rfl⟩ := own_none9 ol.out
          clear p0 p1 p2 hq
          replace hq3 := Lib.hid hq3
          have li : ¬ (m : Int) < (m : Int) := by omega
          have lf : decide ((m : Int) < (m : Int)) = false := by simp
          obtain ⟨k, hk⟩ : ∃ k, t0 % (m + 1) = k := ⟨_, rfl⟩
          have hkm : k ≤ m := by have := Nat.mod_lt t0 (show 0 < m + 1 by omega); omega
          have x1 : (t0 : Int) % ((m : Int) + 1) = (k : Int) := by rw [← hk]; exact (Int.natCast_emod t0 (m + 1)).symm
          have x2 : (t0 : Int).tmod ((m : Int) + 1) = (k : Int) := by rw [Int.tmod_eq_emod_of_nonneg (by omega)]; exact x1
          have x3 : (m : Int) + 1 ≠ 0 := by omega
          have x4 : ((m : Int) + 1 == 0) = false := by simpa using x3
          clear hk
          go_wp2_with (at_builtin; refine wpList_append_num rfl _ _ rfl w.heap.size _ m (chainF m) _ ef.out rfl wr ok.out rfl rfl rfl (by omega) hb.size ?_; intro v5 w5 own5 g5 b5; refine Hid.out ?_)
          unfold Hid
          have ol5 := Lib.hid (ol.out.kept g5.out (own_two ol.out ok.out (by decide)))
          have b6 := hb.trans b5.out
          clear ol ok hb g5 b5 ef
          go_wp2_with (at_builtin; refine wpList_append_node rfl _ _ rfl w.heap.size _ q (chainK m) _ _ _ p0'.out p1'.out p2'.out rfl w5 ol5.out rfl rfl rfl hq50 b6.size ?_; intro v7 w7 own7 g7 b7; refine Hid.out ?_)
          unfold Hid
          have ok7 := Lib.hid (own5.out.kept g7.out (own_two own5.out ol5.out (by decide)))
          have b8 := b6.trans b7.out
          rw [hq3.out] at own7
          clear ol5 own5 g7 b7 b6 p0' p1' p2' hq50 hq3
          obtain ⟨aL, cL, rfl, sL, hcL, _, _⟩ := own_nodes own7.out
          obtain ⟨aK, cK, rfl, sK, hcK, _, _⟩ := own_ints ok7.out
          have nilK : Hid (aK = none → cK = 0) := fun e => by
            obtain ⟨ad, ea, _⟩ := sK.some (show 0 < m + 1 by omega)
            rw [e] at ea; cases ea
          replace sL := Lib.hid sL
          replace sK := Lib.hid sK
          clear own7 ok7
          have al : Below w7.heap.size w7 (w7.alloc (.cells #[] 3)) := (Below.refl _ _).alloc (Nat.le_refl _) _
          have oe : Hid ((w7.alloc (.cells #[] 3)).ownsRow w7.heap.size 3 1 (.slice (some ⟨w7.heap.size, 0, none⟩) 0 0) 0 []) := World.ownsRow_made w7 #[] 0 (Nat.le_refl _) (by decide) rfl
          have fe : Hid (SeesV (w7.alloc (.cells #[] 3)) aK (m + 1) (intV (fun j => ((chainF m j : Nat) : Int)))) := sK.out.after al
          go_wp2_with (first | (at_builtin; refine wpList_append_V Try.underlying23 Try.infoInt rfl (by decide) rfl _ _ rfl w7.heap.size _ 0 [] rfl oe.out al.size aK (m + 1) cK rfl (intV (fun j => ((chainF m j : Nat) : Int))) fe.out (fun _ => rfl) (by omega) (by omega) nilK.out ?_; intro v3 w9 h3 h4 h5 h6; refine Hid.out ?_))
          unfold Hid
          have h7 := h3.out
          rw [List.nil_append, Nat.zero_add] at h7
          replace h7 := Lib.hid h7
          have b9 := al.trans h5.out
          clear h3 h4 h5 h6 oe fe al
          obtain ⟨q5, hq5⟩ : ∃ q5, 1 + k = q5 := ⟨_, rfl⟩
          have e5 : (1 : Int) + (k : Int) = (q5 : Int) := by omega
          replace hq5 := Lib.hid hq5
          go_wp2_with (first | (at_builtin; refine wpList_append_F rfl _ _ rfl w7.heap.size _ (m + 1) (fun j => ((chainF m j : Nat) : Int)) _ rfl w9 h7.out rfl rfl rfl (by omega) b9.size ?_; intro v4 w10 h8 h9 h10; refine Hid.out ?_))
          unfold Hid
          have b10 := b9.trans h10.out
          have h11 := h8.out
          obtain ⟨aX, cX, rfl, sX, _⟩ := own_F_see h11
          clear h7 h8 h9 h10 h11
          obtain ⟨N, hN⟩ : ∃ N, 2 * m + 3 = N := ⟨_, rfl⟩
          have hcL' : N ≤ cL := by rw [← hN]; exact hcL
          rw [hN] at sL
          have hmay := chain_may (m := m) (by omega)
          rw [hN] at hmay
          have hNN : Hid (knN (chainK m) N = N) := by unfold Hid knN; rw [if_pos hmay]
          have hX := chain_x (m := m) (by omega) hkm (S := inZ (snocF (fun j => ((chainF m j : Nat) : Int)) (m + 1) (q5 : Int)) (m + 1 + 1)) (fun q hq => by
            have h5 := hq5.out
            rw [inZ_snoc, chain_told]
            constructor
            · rintro (h | h)
              · exact .inl h.1
              · exact .inr (by omega)
            · rintro (h | h)
              · exact .inl ⟨h, hq⟩
              · exact .inr (by omega))
          have hcan := chain_can (m := m) (by omega)
          have hneed := chain_needs (m := m) (by omega)
          rw [hN] at hX hcan hneed
          have hC0 : Hid (canB (chainK m) N (inZ (fun j => ((chainF m j : Nat) : Int)) (m + 1)) 0 = false) := by unfold Hid canB; rw [show (0 : Int).toNat = 0 from rfl, hcan]; simp
          have M := advKnows_any (chainK m) N aL aX cL (m + 1 + 1) cX hcL' (by omega) (snocF (fun j => ((chainF m j : Nat) : Int)) (m + 1) (q5 : Int)) w10 (sL.out.after b10) sX
          rw [hNN.out] at M
          generalize knB (chainK m) N (inZ (snocF (fun j => ((chainF m j : Nat) : Int)) (m + 1) (q5 : Int)) (m + 1 + 1)) = X at *
          replace M := Lib.hid M
          replace hX := Lib.hid hX
          replace hneed := Lib.hid hneed
          clear hcan hmay sX hNN
          go_wp2_with fail
          refine M.out.mono ?_
          rintro e w11 ⟨v11, rfl, own11, hb11⟩
          obtain ⟨pX, qX, rfl, sx⟩ := own_bools_see own11.out
          replace sx := Lib.hid sx
          have b11 := b10.trans (hb11.mono b10.size)
          clear M own11 hb11
          have sL11 := Lib.hid (sL.out.after b11)
          have sK11 := Lib.hid (sK.out.after b11)
          have b12 := b8.trans (b11.mono b8.size)
          clear sL sK b8 b9 b10 b11 kk kl ke k0
          go_wp2
          go_loopg [12] (m + 1) (fun g v12 wr => ∃ i : Nat, i + g = m + 1 ∧ v12 = .int .i64 (i : Int) ∧ wr = w11)
          case atStart => exact ⟨0, by omega, rfl, rfl⟩
          case round =>
            obtain ⟨i, hi, rfl, rfl⟩ := hrel
            by_cases hlt : i ≤ m
            · have li : (i : Int) ≤ (m : Int) := by omega
              obtain ⟨q1, hq1⟩ : ∃ q1, 1 + i = q1 := ⟨_, rfl⟩
              have e6 : (1 : Int) + (i : Int) = (q1 : Int) := by omega
              have hqN : q1 < N := by omega
              have gx := Lib.hid (SeesV.cell sx.out hqN)
              have ex := hX.out.1 i hlt
              rw [hq1] at ex
              unfold boolV at gx
              rw [ex] at gx
              clear hq1 ex
              by_cases hki : (k : Int) ≤ (i : Int)
              · rw [decide_eq_true hki] at gx
                go_wp2_with (first | (refine wpList_known rfl (at_bools sx.out hqN rfl rfl rfl rfl _) ?_) | (refine wpList_known rfl (get_bool gx.out rfl rfl) ?_))
                go_roundg (m + 1 - (i + 1))
                case measure => omega
                case rel => exact ⟨i + 1, by omega, by go_num, rfl⟩
              · rw [decide_eq_false hki] at gx
                go_wp2_with (first | (refine wpList_known rfl (at_bools sx.out hqN rfl rfl rfl rfl _) ?_) | (refine wpList_known rfl (get_bool gx.out rfl rfl) ?_))
                go_roundg (m + 1 - (i + 1))
                case measure => omega
                case rel => exact ⟨i + 1, by omega, by go_num, rfl⟩
            · have li : ¬ (i : Int) ≤ (m : Int) := by omega
              have h0N : 0 < N := by omega
              have gx := Lib.hid (SeesV.cell sx.out h0N)
              unfold boolV at gx
              rw [hX.out.2] at gx
              have hmm : ((m + 1 : Nat) : Int) = (m : Int) + 1 := by omega
              have C := advCan_any (chainK m) N aL aK cL (m + 1) cK hcL' (by omega) (fun j => ((chainF m j : Nat) : Int)) 0 wr sL11 sK11
              rw [hC0.out] at C
              have C2 : Hid (Calls Try.prog 14 #[.slice aL N cL, .slice aK (m + 1) cK, .int .i64 0] wr fun e w' => ∃ v, e = .returned v ∧ (v = .bool false ∧ Below wr.heap.size wr w')) := C.mono fun e w' h => ⟨_, h.1, rfl, h.2⟩
              have chain_nd : ∀ {w2 : World}, Hid (SeesN w2 aL N (chainK m)) → Hid (SeesZ w2 aK (m + 1) (fun j => ((chainF m j : Nat) : Int))) → Calls Try.prog 19 #[.slice aL N cL, .slice aK (m + 1) cK, .int .i64 0] w2 fun e w' => ∃ v, e = .returned v ∧ ((∃ a c, v = .slice a (m + 1) c) ∧ Below w2.heap.size w2 w') := by
                intro w2 h1 h2
                refine (advNeeds_any (chainK m) N aL aK cL (m + 1) cK hcL' (by omega) (fun j => ((chainF m j : Nat) : Int)) 0 w2 h1 h2).mono ?_
                rintro e w' ⟨v, rfl, own, hb⟩
                obtain ⟨a, c, rfl, _⟩ := own_zs_see own.out
                refine ⟨_, rfl, ⟨a, c, ?_⟩, hb⟩
                rw [hneed.out]
              have chain_sh : ∀ w3 : World, Calls Try.prog 9 #[] w3 fun e w' => ∃ v, e = .returned v ∧ (v = .bool true ∧ Below w3.heap.size w3 w') := fun w3 => (shown9_any w3).mono fun e w' h => ⟨_, h.1, rfl, h.2⟩
              clear C hneed hC0 hX hlt
              repeat (first | (with_reducible refine wp_stop (id := 24) ?_) | go_values | go_skip | go_guarded | go_step | go_upon | go_back)
              unfold Hid
              refine wp_region_lit ?_
              refine wpList_val (.slice pX N qX) (by kernel_rfl) (by go_simp) ?_
              simp only [Act.put, List.setIfInBounds_toArray, List.set_cons_succ, List.set_cons_zero]
              refine wpList_val (.pointer (some (elV pX 0))) (by kernel_rfl) (at_bools sx.out h0N rfl rfl rfl rfl _) ?_
              simp only [Act.put, List.setIfInBounds_toArray, List.set_cons_succ, List.set_cons_zero]
              refine wpList_val (.bool true) (by kernel_rfl) (get_bool gx.out rfl rfl) ?_
              simp only [Act.put, List.setIfInBounds_toArray, List.set_cons_succ, List.set_cons_zero]
              refine wpList_val (.bool true) (by kernel_rfl) (by go_simp) ?_
              simp only [Act.put, List.setIfInBounds_toArray, List.set_cons_succ, List.set_cons_zero]
              refine wpList_val (.slice aL N cL) (by kernel_rfl) (by go_simp) ?_
              simp only [Act.put, List.setIfInBounds_toArray, List.set_cons_succ, List.set_cons_zero]
              refine wpList_val (.slice aK (m + 1) cK) (by kernel_rfl) (by go_simp) ?_
              simp only [Act.put, List.setIfInBounds_toArray, List.set_cons_succ, List.set_cons_zero]
              refine wpList_calls (by kernel_rfl) C2.out (by go_simp) ?_
              rintro v2 w2 ⟨rfl, hb2⟩
              simp only [Act.put, List.setIfInBounds_toArray, List.set_cons_succ, List.set_cons_zero]
              refine wpList_val (.bool true) (by kernel_rfl) (by go_simp) ?_
              simp only [Act.put, List.setIfInBounds_toArray, List.set_cons_succ, List.set_cons_zero]
              refine wpList_val (.bool true) (by kernel_rfl) (by go_simp) ?_
              simp only [Act.put, List.setIfInBounds_toArray, List.set_cons_succ, List.set_cons_zero]
              refine wpList_val (.bool true) (by kernel_rfl) (by go_simp) ?_
              simp only [Act.put, List.setIfInBounds_toArray, List.set_cons_succ, List.set_cons_zero]
              have sL2 := Lib.hid (sL11.out.after hb2)
              have sK2 := Lib.hid (sK11.out.after hb2)
              have b13 := b12.trans (hb2.mono b12.size)
              have Nd := Lib.hid (chain_nd sL2 sK2)
              clear C2 sL2 sK2 hb2 sL11 sK11 b12
              refine wpList_val (.slice aL N cL) (by kernel_rfl) (by go_simp) ?_
              simp only [Act.put, List.setIfInBounds_toArray, List.set_cons_succ, List.set_cons_zero]
              refine wpList_val (.slice aK (m + 1) cK) (by kernel_rfl) (by go_simp) ?_
              simp only [Act.put, List.setIfInBounds_toArray, List.set_cons_succ, List.set_cons_zero]
              refine wpList_calls (by kernel_rfl) Nd.out (by go_simp) ?_
              rintro v3 w3 ⟨⟨a3, c3, rfl⟩, hb3⟩
              simp only [Act.put, List.setIfInBounds_toArray, List.set_cons_succ, List.set_cons_zero]
              refine wpList_val (.int .i64 ((m : Int) + 1)) (by kernel_rfl) (by go_simp) ?_
              simp only [Act.put, List.setIfInBounds_toArray, List.set_cons_succ, List.set_cons_zero]
              refine wpList_val (.int .i64 (m : Int)) (by kernel_rfl) (by go_simp) ?_
              simp only [Act.put, List.setIfInBounds_toArray, List.set_cons_succ, List.set_cons_zero]
              refine wpList_val (.int .i64 ((m : Int) + 1)) (by kernel_rfl) (by go_simp; exact IntWalk.i64_in _ (by omega)) ?_
              simp only [Act.put, List.setIfInBounds_toArray, List.set_cons_succ, List.set_cons_zero]
              refine wpList_val (.bool true) (by kernel_rfl) (by go_simp) ?_
              simp only [Act.put, List.setIfInBounds_toArray, List.set_cons_succ, List.set_cons_zero]
              refine wpList_val (.bool true) (by kernel_rfl) (by go_simp) ?_
              simp only [Act.put, List.setIfInBounds_toArray, List.set_cons_succ, List.set_cons_zero]
              refine wpList_val (.bool true) (by kernel_rfl) (by go_simp) ?_
              simp only [Act.put, List.setIfInBounds_toArray, List.set_cons_succ, List.set_cons_zero]
              have b14 := b13.trans (hb3.mono b13.size)
              have Sh := Lib.hid (chain_sh w3)
              clear Nd hb3 b13
              refine wpList_calls (by kernel_rfl) Sh.out (by go_simp) ?_
              rintro v4 w4 ⟨rfl, hb4⟩
              simp only [Act.put, List.setIfInBounds_toArray, List.set_cons_succ, List.set_cons_zero]
              refine wpList_val (.bool true) (by kernel_rfl) (by go_simp) ?_
              simp only [Act.put, List.setIfInBounds_toArray, List.set_cons_succ, List.set_cons_zero]
              refine wpList_val (.bool true) (by kernel_rfl) (by go_simp) ?_
              simp only [Act.put, List.setIfInBounds_toArray, List.set_cons_succ, List.set_cons_zero]
              have b15 := b14.trans (hb4.mono b14.size)
              go_wp2
              go_ret
              exact ⟨rfl, b15⟩

theorem walk_AdversaryChain (n0 : Int) (h0 : (Lit.int .u8 n0).wf = true) (t0 : Int) (h1 : (Lit.int .u8 t0).wf = true) (w : World) :
    Calls Try.prog 6 #[.int .u8 n0, .int .u8 t0] w fun e w' => e = .returned (.bool true) ∧ Below w.heap.size w w' := by
  obtain ⟨_, _⟩ := wf_u8 h0
  obtain ⟨_, _⟩ := wf_u8 h1
  have := chain_walk n0.toNat t0.toNat (by omega) (by omega) w
  rw [Int.toNat_of_nonneg (by omega), Int.toNat_of_nonneg (by omega)] at this
  exact this

end Go.Proofs.Ytjhalbifljnfjaa
