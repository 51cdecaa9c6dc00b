/-
  The walk of NandFills.
-/
import Derived.Test.YtogeccmeaacgnaaNandShown
import Derived.Test.YtogeccmeaacgnaaNandBytes
import Derived.Test.YtogeccmeaacgnaaNandHistory
import Derived.Test.YtogeccmeaacgnaaOpen
namespace Go.Proofs.Ytogeccmeaacgnaa
open Go.RowKit
set_option linter.unusedVariables false

theorem isB_nil : isB ⟨#[]⟩ = false := by kernel_rfl
/-- What is read behind one page programmed. -/
theorem fills_read {S : St} {n m a b : Nat} {T : ByteArray} (hu : S.up = true) (hp : S.page = updP (fun _ _ => ⟨#[]⟩) a (updS (fun _ => ⟨#[]⟩) b T)) (hT : isB T = true) {i k : Nat} (hi : i < n) (hk : k < m) :
    readV n m S i k = if i = a ∧ k = b then #[.string T, .bool true, .int .i64 0] else #[.string ⟨#[]⟩, .bool false, .int .i64 0] := by
  have e1 : ¬ S.up = false := by rw [hu]; decide
  have e2 : ¬ (inB (i : Int) n && inB (k : Int) m) = false := by rw [inB_nat i n hi, inB_nat k m hk]; decide
  unfold readV
  rw [if_neg e1, if_neg e2, hp]
  show (#[Value.string (updP (fun _ _ => ⟨#[]⟩) a (updS (fun _ => ⟨#[]⟩) b T) i k), Value.bool (isB (updP (fun _ _ => ⟨#[]⟩) a (updS (fun _ => ⟨#[]⟩) b T) i k)), Value.int .i64 0] : Array Value) = _
  unfold updP updS
  by_cases c1 : i = a
  · by_cases c2 : k = b
    · rw [if_pos c1, if_pos c2, if_pos ⟨c1, c2⟩, hT]
    · rw [if_pos c1, if_neg c2, if_neg (fun h => c2 h.2), isB_nil]
  · rw [if_neg c1, if_neg (fun h => c1 h.1), isB_nil]

set_option maxHeartbeats 4000000 in
set_option maxRecDepth 8000 in
theorem fills_long (seg page : Int) (s : ByteArray) (hs : 256 < s.size) (w : World) :
    Calls Try.prog 7 #[.int .u8 seg, .int .u8 page, .string s] w fun e w' => e = .returned (.bool true) ∧ Below w.heap.size w w' := by
  have SH : Hid (∀ w', _) := fun w' => shown10_any w'
  have l0 : (256 : Int) < (s.size : Int) := by omega
  clear hs
  go_enter Try.func7, Try.ntmps7
  go_wp2_with fail
  refine (SH.out w).mono ?_
  rintro e w1 ⟨rfl, b1⟩
  go_wp2
  go_ret
  exact ⟨rfl, b1⟩

set_option maxHeartbeats 4000000 in
set_option maxRecDepth 8000 in
theorem fills_yes (seg page a b : Nat) (s : ByteArray) (hs : s.size ≤ 256) (ha : a < 3) (hb : b < 5) (hsa : (seg : Int).tmod 3 = (a : Int)) (hsb : (page : Int).tmod 5 = (b : Int)) (hseg : seg < 256) (hpage : page < 256) (w : World) :
    Calls Try.prog 7 #[.int .u8 (seg : Nat), .int .u8 (page : Nat), .string s] w fun e w' => e = .returned (.bool true) ∧ Below w.heap.size w w' := by
  have SH : Hid (∀ w', _) := fun w' => shown10_any w'
  have l0 : ¬ (256 : Int) < (s.size : Int) := by omega
  have NP : Hid (∀ w', _) := fun w' => newPower_any w'
  go_enter Try.func7, Try.ntmps7
  go_wp2_with fail
  refine (SH.out w).mono ?_
  rintro e w1 ⟨rfl, b1⟩
  go_wp2_with fail
  refine (NP.out w1).mono ?_
  rintro e w2 ⟨rfl, r2, b2⟩
  have NW := Lib.hid (new_yes w.heap.size w1.heap.size 3 5 1 true 0 0 0 none 0 0 (fun _ => 0) w2 r2 (SeesV.nil _ _ _) b1.size (Lib.hid (by decide)) (Lib.hid (by decide)) (by decide) (by decide) (by decide) (by decide) (by decide) (by decide))
  have b3 := b1.trans (b2.mono b1.size)
  clear NP SH r2 b1 b2
  go_wp2_with fail
  refine NW.out.mono ?_
  rintro e w3 ⟨L, rfl, hpp, hn, hm, h3, bn⟩
  change Hid (Ch w.heap.size w3 L (freshS 1 fun _ => false) _) at h3
  have b4 := b3.trans (bn.mono b3.size)
  clear NW b3 bn
  have P1 := Lib.hid (prog_any w.heap.size w3 L _ _ h3 (a : Int) (b : Int) s ((freshS_low _ _).low (by decide)))
  obtain ⟨e1, e2⟩ := prog_ok (n := L.n) (m := L.m) (i := a) (j := b) (S := freshS 1 fun _ => false) (s := s) rfl (by rw [hn]; exact ha) (by rw [hm]; exact hb) hs isB_nil (by decide)
  rw [e1, e2] at P1
  clear e1 e2
  have hT := pageT_full s hs
  have hTs := Lib.hid (pageT_size s 9223372036854775807 0)
  have hTb := Lib.hid (isB_page s 9223372036854775807 0)
  obtain ⟨q, hq⟩ : ∃ q, 256 - s.size = q := ⟨_, rfl⟩
  rw [hq] at hT
  have qz : Hid ((256 : Int) - (s.size : Int) = (q : Int)) := by unfold Hid; omega
  have q6 : Hid (q ≤ 1000000) := by unfold Hid; omega
  have zs : (bs (listB q zeroN)).size = q := by rw [bs_size, listB_length]
  have szs : s.size + q = 256 := by omega
  have cv : Hid (∀ w' g, RowAt w' g 5 (rowOf q (w8 zeroN)) → (convert 65 9 (.slice (some ⟨g, 0, none⟩) q q)).run Try.prog w' = .ok (.string (bs (listB q zeroN))) w') := fun w' g h => block_string (fun _ => by unfold zeroN; decide) Try.underlying65 Try.underlying5 Try.underlying9 h
  generalize pageT s 9223372036854775807 0 = T at *
  generalize bs (listB q zeroN) = z at *
  clear hq
  go_wp2_with fail
  clear hsa hsb
  refine P1.out.mono ?_
  rintro e w4 ⟨rfl, hv, h4, g4⟩
  have b5 := b4.trans (g4.under h3.out b4.size)
  obtain ⟨S, hS⟩ : ∃ S, prS (cntP (actS (freshS 1 fun _ => false) true ((freshS 1 fun _ => false).left - 1))) a b T = S := ⟨_, rfl⟩
  have hup : Hid (S.up = true) := by subst hS; rfl
  have hpg : Hid (S.page = updP (fun _ _ => ⟨#[]⟩) a (updS (fun _ => ⟨#[]⟩) b T)) := by subst hS; rfl
  have hhi : Hid (S.hist = [T]) := by subst hS; rfl
  rw [hS] at h4
  clear hS P1 h3 b4 g4
  have hn' := Lib.hid hn
  have hm' := Lib.hid hm
  clear hn hm hpp
  have R : Hid (∀ w' : World, Ch w.heap.size w' L S hv → ∀ i k : Nat, i < 3 → k < 5 → Calls Try.prog 16 #[.pointer (some ⟨L.cp, 0, none⟩), .int .i64 (i : Nat), .int .i64 (k : Nat)] w' fun e w'' => e = .returned (.tuple (if i = a ∧ k = b then #[.string T, .bool true, .int .i64 0] else #[.string ⟨#[]⟩, .bool false, .int .i64 0])) ∧ Below w'.heap.size w' w'') := fun w' hc i k hi hk => by
    have := read_any w.heap.size w' L S hv hc (i : Int) (k : Int)
    rw [hn'.out, hm'.out, fills_read hup.out hpg.out hTb.out hi hk] at this
    exact this
  go_wp2_with fail
  go_loopw [10] (fun v wr => ∃ i : Nat, i ≤ 3 ∧ v = .int .i64 (i : Int) ∧ Hid (Ch w.heap.size wr L S hv) ∧ Below w.heap.size w wr) (fun v _ => 3 - (intOf v).toNat)
  case atStart => exact ⟨0, by decide, rfl, h4, b5⟩
  case round =>
    clear h4 b5
    obtain ⟨i, hi, rfl, C, hbl⟩ := hrel
    by_cases hlt : i < 3
    · have lt : (i : Int) < 3 := by omega
      go_wp2_with fail
      go_loopw [11] (fun v wr => ∃ k : Nat, k ≤ 5 ∧ v = .int .i64 (k : Int) ∧ Hid (Ch w.heap.size wr L S hv) ∧ Below w.heap.size w wr) (fun v _ => 5 - (intOf v).toNat)
      case atStart => exact ⟨0, by decide, rfl, C, hbl⟩
      case round =>
        clear C hbl
        obtain ⟨k, hk, rfl, C, hbl⟩ := hrel
        by_cases hlt2 : k < 5
        · have lt2 : (k : Int) < 5 := by omega
          have RR := Lib.hid (R.out wr C.out i k hlt hlt2)
          by_cases c : i = a ∧ k = b
          · obtain ⟨c1, c2⟩ := c
            subst c1
            subst c2
            rw [if_pos ⟨rfl, rfl⟩] at RR
            go_wp2_with fail
            refine RR.out.mono ?_
            rintro e w5 ⟨rfl, bb⟩
            have C5 := Lib.hid (C.out.after bb)
            have b6 := hbl.trans (bb.mono hbl.size)
            clear RR C hbl bb
            have r9 := RowAt.new w5 5 (rowOf q (w8 zeroN))
            have cv9 := cv.out _ _ r9
            have b9 := b6.alloc b6.size (.cells (rowOf q (w8 zeroN)) 5)
            have C9 := Lib.hid (C5.out.after ((Below.refl _ w5).alloc (Nat.le_refl _) (.cells (rowOf q (w8 zeroN)) 5)))
            have e9 := qz.out
            clear r9 C5 b6
            go_wp2_with (first | (refine wpList_wmake_row (m := q) Try.underlying65 Try.info5 (by rw [Nat.mul_one]; exact zero_bytes q) q6.out (by decide) (by decide) rfl rfl rfl rfl ?_; rw [Nat.mul_one]))
            go_roundw
            case rel => exact ⟨k + 1, by omega, by go_num, C9, b9⟩
            case measure => simp [intOf]; omega
          · rw [if_neg c] at RR
            by_cases c1 : i = a
            · subst c1
              have d0 : ¬ (k : Int) = (b : Int) := fun e => c ⟨rfl, by omega⟩
              have d1 : ((k : Int) == (b : Int)) = false := by simp; omega
              have d2 : decide ((k : Int) = (b : Int)) = false := decide_eq_false d0
              clear d0
              go_wp2_with fail
              refine RR.out.mono ?_
              rintro e w5 ⟨rfl, bb⟩
              have C5 := Lib.hid (C.out.after bb)
              have b6 := hbl.trans (bb.mono hbl.size)
              clear RR C hbl bb
              go_wp2
              go_roundw
              case rel => exact ⟨k + 1, by omega, by go_num, C5, b6⟩
              case measure => simp [intOf]; omega
            · have d0 : ¬ (i : Int) = (a : Int) := fun e => c1 (by omega)
              have d1 : ((i : Int) == (a : Int)) = false := by simp; omega
              have d2 : decide ((i : Int) = (a : Int)) = false := decide_eq_false d0
              clear d0
              go_wp2_with fail
              refine RR.out.mono ?_
              rintro e w5 ⟨rfl, bb⟩
              have C5 := Lib.hid (C.out.after bb)
              have b6 := hbl.trans (bb.mono hbl.size)
              clear RR C hbl bb
              go_wp2
              go_roundw
              case rel => exact ⟨k + 1, by omega, by go_num, C5, b6⟩
              case measure => simp [intOf]; omega
        · have lt2 : ¬ (k : Int) < 5 := by omega
          go_wp2
          go_roundw
          case rel => exact ⟨i + 1, by omega, by go_num, C, hbl⟩
          case measure => simp [intOf]; omega
    · have lt : ¬ (i : Int) < 3 := by omega
      have HY := Lib.hid (history_any w.heap.size wr L S hv C (by rw [hhi.out]; exact Nat.le_of_lt (Nat.lt_of_le_of_lt (Nat.le_refl 1) (by decide))))
      rw [hhi.out] at HY
      go_wp2_with fail
      refine HY.out.mono ?_
      rintro e w5 ⟨ah, ch, rfl, sh, bb⟩
      have b6 := hbl.trans (bb.mono hbl.size)
      have g0 : Hid (w5.cell? (elV ah 0) = some (.string T)) := SeesV.cell sh.out (show 0 < 1 by decide)
      have hTI : ((T.size : Nat) : Int) = 256 := by rw [hTs.out]; rfl
      clear HY C hbl bb R
      go_wp2_with (first | (refine wpList_wknown rfl (at_strs sh.out (show 0 < 1 by decide) rfl rfl rfl rfl _) ?_) | (refine wpList_wknown rfl (get_str g0.out rfl rfl) ?_))
      go_ret
      exact ⟨rfl, b6⟩

theorem walk_NandFills (seg : Int) (h1 : (Lit.int .u8 seg).wf = true) (page : Int) (h2 : (Lit.int .u8 page).wf = true) (s : ByteArray) (hs : s.size ≤ maxLen) (w : World) :
    Calls Try.prog 7 #[.int .u8 seg, .int .u8 page, .string s] w fun e w' => e = .returned (.bool true) ∧ Below w.heap.size w w' := by
  have a1 := wf_u8 h1
  have a2 := wf_u8 h2
  obtain ⟨x, rfl⟩ : ∃ x : Nat, seg = x := ⟨seg.toNat, by omega⟩
  obtain ⟨y, rfl⟩ : ∃ y : Nat, page = y := ⟨page.toNat, by omega⟩
  by_cases c : 256 < s.size
  · exact fills_long x y s c w
  · exact fills_yes x y (x % 3) (y % 5) s (by omega) (Nat.mod_lt _ (by decide)) (Nat.mod_lt _ (by decide)) (by rw [Int.tmod_eq_emod_of_nonneg (by omega)]; omega) (by rw [Int.tmod_eq_emod_of_nonneg (by omega)]; omega) (by omega) (by omega) w

end Go.Proofs.Ytogeccmeaacgnaa
