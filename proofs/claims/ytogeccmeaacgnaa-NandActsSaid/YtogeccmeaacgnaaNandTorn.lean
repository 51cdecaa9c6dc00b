/-
  The walk of NandTorn.
-/
import Derived.Test.YtogeccmeaacgnaaNandShown
import Derived.Test.YtogeccmeaacgnaaNandBytes
import Derived.Test.YtogeccmeaacgnaaOpen
import Derived.Test.YtogeccmeaacgnaaWfInt
import Derived.Lib.Strings
namespace Go.Proofs.Ytogeccmeaacgnaa
open Go.RowKit
set_option linter.unusedVariables false

theorem isB_none : isB ⟨#[]⟩ = false := by kernel_rfl
/-- A chip whose power goes with the k + 1 - i-th act; the first i pages of segment 0 are programmed. -/
structure TS (S : St) (k i K J : Nat) : Prop where
  up : S.up = true
  left : S.left = (k : Int) + 1 - (i : Int)
  keep : S.keep = K
  junk : S.junk = J
  p0 : ∀ j, i ≤ j → S.page 0 j = ⟨#[]⟩
  p1 : ∀ j, S.page 1 j = ⟨#[]⟩
  low : LowT S i
theorem TS.step {S : St} {k i K J : Nat} (h : TS S k i K J) (hi : i < k) (hk : k < 16) : progE 2 16 S ((0 : Nat) : Int) (i : Int) ⟨#[120]⟩ = 0 ∧ TS (progS 2 16 S ((0 : Nat) : Int) (i : Int) ⟨#[120]⟩) k (i + 1) K J := by
  have hl := h.left
  obtain ⟨e1, e2⟩ := prog_ok (n := 2) (m := 16) (i := 0) (j := i) (S := S) (s := ⟨#[120]⟩) h.up (by decide) (by omega) (by decide) (by rw [h.p0 i (Nat.le_refl _)]; exact isB_none) (by omega)
  have hlow := h.low.prog 2 16 ((0 : Nat) : Int) (i : Int) ⟨#[120]⟩
  refine ⟨e1, ?_⟩
  rw [e2] at hlow ⊢
  refine ⟨rfl, ?_, h.keep, h.junk, fun j hj => ?_, fun j => ?_, hlow⟩
  · show S.left - 1 = _
    omega
  · show updP S.page 0 (updS (S.page 0) i (pageT ⟨#[120]⟩ 9223372036854775807 0)) 0 j = _
    unfold updP updS
    rw [if_pos rfl, if_neg (by omega)]
    exact h.p0 j (by omega)
  · show updP S.page 0 (updS (S.page 0) i (pageT ⟨#[120]⟩ 9223372036854775807 0)) 1 j = _
    unfold updP
    rw [if_neg (by decide)]
    exact h.p1 j
/-- The power back on. -/
def onS (S : St) : St := { S with up := true, left := 0, keep := S.keep, junk := S.junk }
theorem TS.last {S : St} {k K J : Nat} (h : TS S k k K J) (s : ByteArray) (hs : s.size ≤ 256) : progE 2 16 S ((1 : Nat) : Int) ((3 : Nat) : Int) s = 4 ∧ (progS 2 16 S ((1 : Nat) : Int) ((3 : Nat) : Int) s).up = false ∧
    readV 2 16 (onS (progS 2 16 S ((1 : Nat) : Int) ((3 : Nat) : Int) s)) ((1 : Nat) : Int) ((3 : Nat) : Int) = #[.string (pageT s K J), .bool true, .int .i64 0] ∧
    readV 2 16 (onS (progS 2 16 S ((1 : Nat) : Int) ((3 : Nat) : Int) s)) ((1 : Nat) : Int) ((4 : Nat) : Int) = #[.string ⟨#[]⟩, .bool false, .int .i64 0] := by
  have hl := h.left
  obtain ⟨e1, e2⟩ := prog_torn (n := 2) (m := 16) (i := 1) (j := 3) (S := S) (s := s) h.up (by decide) (by decide) hs (by rw [h.p1 3]; exact isB_none) (by omega)
  rw [e2]
  refine ⟨e1, rfl, ?_, ?_⟩
  · show (#[Value.string (updP S.page 1 (updS (S.page 1) 3 (pageT s S.keep S.junk)) 1 3), Value.bool (isB (updP S.page 1 (updS (S.page 1) 3 (pageT s S.keep S.junk)) 1 3)), Value.int .i64 0] : Array Value) = _
    unfold updP updS
    rw [if_pos rfl, if_pos rfl, isB_page, h.keep, h.junk]
  · show (#[Value.string (updP S.page 1 (updS (S.page 1) 3 (pageT s S.keep S.junk)) 1 4), Value.bool (isB (updP S.page 1 (updS (S.page 1) 3 (pageT s S.keep S.junk)) 1 4)), Value.int .i64 0] : Array Value) = _
    unfold updP updS
    rw [if_pos rfl, if_neg (by decide), h.p1 4, isB_none]

theorem ext_take (s : ByteArray) (k : Nat) : (s.extract 0 k).data.toList = s.data.toList.take k := by
  rw [Lib.extract_data]; simp
theorem pageT_head (s : ByteArray) (K J m : Nat) (hm : m ≤ K) (hm2 : m ≤ 256) (hK : K ≤ 9223372036854775807) : (pageT s K J).extract 0 m = (pageT s 9223372036854775807 0).extract 0 m := by
  apply Go.WideShapes.bytes_inj
  rw [ext_take, ext_take]
  show (listB 256 (pageN s K J)).take m = (listB 256 (pageN s 9223372036854775807 0)).take m
  rw [listB_take _ _ _ hm2, listB_take _ _ _ hm2]
  unfold listB
  refine List.map_congr_left fun j hj => ?_
  have hj2 : j < m := by simpa using hj
  unfold pageN
  rw [if_pos (by omega), if_pos (by omega)]
theorem run_index_op {P : Program} {T : TypeId} {s : ByteArray} {z : Int} {v : Value} (h : ∀ w', (Instr.index T (.string s) (.int .i64 z)).run P w' = .ok v w') {o : Oper} {a : Act} {x y : Operand} (ho : o.op = .index T x y) (hx : a.eval x = .string s) (hy : a.eval y = .int .i64 z) (w : World) :
    (execOp a.eval o).run P w = .ok (.value v) w := by
  unfold execOp
  simp only [ho, hx, hy, Sem.run_bind, Sem.run_pure, h, Result.andThen_ok]
/-- What lies behind the kept bytes. -/
theorem pageT_junk (s : ByteArray) (K J i : Nat) (hJ : J < 256) (hi : K ≤ i) (h2 : i < 256) : (pageT s K J)[i]'(by rw [pageT_size]; exact h2) = UInt8.ofNat J := by
  show (listB 256 (pageN s K J)).toArray[i]'_ = _
  simp only [List.getElem_toArray, listB, List.getElem_map, List.getElem_range]
  unfold pageN
  rw [if_neg (by omega)]

set_option maxHeartbeats 4000000 in
set_option maxRecDepth 8000 in
theorem torn_long (n keep junk : Int) (s : ByteArray) (hs : 256 < s.size) (w : World) :
    Calls Try.prog 4 #[.int .u8 n, .int .i64 keep, .int .u8 junk, .string s] w fun e w' => e = .returned (.bool true) ∧ Below w.heap.size w w' := by
  have SH : Hid (∀ w', _) := fun w' => shown10_any w'
  have l0 : (256 : Int) < (s.size : Int) := by omega
  clear hs
  go_enter Try.func4, Try.ntmps4
  go_wp2_with fail
  refine (SH.out w).mono ?_
  rintro e w1 ⟨rfl, b1⟩
  go_wp2
  go_ret
  exact ⟨rfl, b1⟩

set_option maxHeartbeats 4000000 in
set_option maxRecDepth 8000 in
theorem torn_yes (n k J K m : Nat) (keep : Int) (s : ByteArray) (hs : s.size ≤ 256) (hn : n < 256) (hk : k < 16) (hnk : (n : Int).tmod 16 = (k : Int)) (hJ : J < 256) (hK : (keep < 0 ∧ (K : Int) = 0) ∨ (0 ≤ keep ∧ (K : Int) = keep)) (hK2 : (K : Int) < 9223372036854775808) (hm : (K : Int) < 256 ∧ (m : Int) = (K : Int) ∨ (256 : Int) ≤ (K : Int) ∧ (m : Int) = 256) (w : World) :
    Calls Try.prog 4 #[.int .u8 (n : Nat), .int .i64 keep, .int .u8 (J : Nat), .string s] w fun e w' => e = .returned (.bool true) ∧ Below w.heap.size w w' := by
  have SH : Hid (∀ w', _) := fun w' => shown10_any w'
  have NP : Hid (∀ w', _) := fun w' => newPower_any w'
  have l0 : ¬ (256 : Int) < (s.size : Int) := by omega
  have hK' := Lib.hid hK
  have hm' := Lib.hid hm
  have hK2' := Lib.hid hK2
  have hm6 : m ≤ 256 := by omega
  have hmK : Hid (m ≤ K) := by unfold Hid; omega
  have hs' := Lib.hid hs
  have hJ' := Lib.hid hJ
  clear hK hm hs hK2 hJ
  go_enter Try.func4, Try.ntmps4
  go_wp2_with fail
  refine (SH.out w).mono ?_
  rintro e w1 ⟨rfl, b1⟩
  go_wp2_with fail
  refine (NP.out w1).mono ?_
  rintro e w2 ⟨rfl, r2, b2⟩
  have NW := Lib.hid (new_yes w.heap.size w1.heap.size 2 16 5 true 0 0 0 none 0 0 (fun _ => 0) w2 r2 (SeesV.nil _ _ _) b1.size (Lib.hid (by decide)) (Lib.hid (by decide)) (by decide) (by decide) (by decide) (by decide) (by decide) (by decide))
  have b3 := b1.trans (b2.mono b1.size)
  clear NP SH r2 b1 b2
  go_wp2_with fail
  refine NW.out.mono ?_
  rintro e w3 ⟨L, rfl, hpp, hn0, hm0, h3, bn⟩
  change Hid (Ch w.heap.size w3 L (freshS 5 fun _ => false) _) at h3
  have b4 := b3.trans (bn.mono b3.size)
  have FU := Lib.hid (powFuse_any w1.heap.size true 0 0 0 w3 (by have := h3.out.pow; rw [hpp] at this; exact this) ((k : Int) + 1) keep ((k : Int) + 1) (K : Int) (.inr ⟨by omega, rfl⟩) hK'.out J)
  clear NW b3 bn
  go_wp2_with fail
  refine FU.out.mono ?_
  rintro e w4 ⟨rfl, r4, a4⟩
  obtain ⟨h4, g4⟩ := h3.out.power (by rw [hpp]; exact a4) (up := true) (left := (k : Int) + 1) (keep := K) (junk := J) (by rw [hpp]; exact r4.out) hJ'.out hK2'.out
  have b5 := b4.trans (g4.under h3.out b4.size)
  replace h4 := Lib.hid h4
  have ts4 : Hid (TS { (freshS 5 fun _ => false) with up := true, left := (k : Int) + 1, keep := K, junk := J } k 0 K J) := by
    refine ⟨rfl, ?_, rfl, rfl, fun _ _ => rfl, fun _ => rfl, ⟨Nat.le_refl _, Nat.le_refl _, fun _ => Nat.le_refl _, Nat.le_refl _, ?_, ?_⟩⟩
    · show (k : Int) + 1 = _
      omega
    · show -((0 : Nat) : Int) ≤ (k : Int) + 1
      omega
    · show (k : Int) + 1 < _
      omega
  generalize ({ (freshS 5 fun _ => false) with up := true, left := (k : Int) + 1, keep := K, junk := J } : St) = S4 at *
  clear FU r4 a4 h3 b4 g4
  have hn' := Lib.hid hn0
  have hm0' := Lib.hid hm0
  have hpp' := Lib.hid hpp
  clear hn0 hm0 hpp
  go_wp2_with fail
  go_loopw [12] (fun v wr => ∃ (i : Nat) (S : St) (hv : Value), i ≤ k ∧ v = .int .i64 (i : Int) ∧ Hid (Ch w.heap.size wr L S hv) ∧ Hid (TS S k i K J) ∧ Below w.heap.size w wr) (fun v _ => k - (intOf v).toNat)
  case atStart => exact ⟨0, _, _, Nat.zero_le _, rfl, h4, ts4, b5⟩
  case round =>
    clear h4 ts4 b5
    obtain ⟨i, S, hv, hi, rfl, C, ts, hb⟩ := hrel
    by_cases hlt : i < k
    · have lt : (i : Int) < (k : Int) := by omega
      obtain ⟨e1, ts9⟩ := ts.out.step hlt hk
      have P1 := Lib.hid (prog_any w.heap.size wr L S hv C ((0 : Nat) : Int) (i : Int) ⟨#[120]⟩ (ts.out.low.low (by omega)))
      rw [hn'.out, hm0'.out, e1] at P1
      change Hid (Calls _ _ #[_, .int .i64 0, _, _] _ _) at P1
      replace ts9 := Lib.hid ts9
      go_wp2_with fail
      refine P1.out.mono ?_
      rintro e w9 ⟨rfl, hv9, C9, g9⟩
      have b9 := hb.trans (g9.under C.out hb.size)
      clear P1 C g9 hb e1
      go_wp2
      go_roundw
      case rel => exact ⟨i + 1, _, hv9, by omega, by go_num, C9, ts9, b9⟩
      case measure => simp [intOf]; omega
    · have lt : ¬ (i : Int) < (k : Int) := by omega
      have eik : i = k := by omega
      subst eik
      obtain ⟨e1, e2, e3, e4⟩ := ts.out.last s hs'.out
      have P1 := Lib.hid (prog_any w.heap.size wr L S hv C ((1 : Nat) : Int) ((3 : Nat) : Int) s (ts.out.low.low (by omega)))
      rw [hn'.out, hm0'.out, e1] at P1
      have lw2 := Lib.hid ((ts.out.low.prog 2 16 ((1 : Nat) : Int) ((3 : Nat) : Int) s).low (by omega))
      generalize progS 2 16 S ((1 : Nat) : Int) ((3 : Nat) : Int) s = S2 at *
      change Hid (Calls _ _ #[_, .int .i64 1, .int .i64 3, _] _ _) at P1
      go_wp2_with fail
      refine P1.out.mono ?_
      rintro e w9 ⟨rfl, hv9, C9, g9⟩
      have b9 := hb.trans (g9.under C.out hb.size)
      have UP := Lib.hid (powUp_any L.pp _ _ _ _ w9 (Lib.hid C9.out.pow))
      rw [hpp'.out, e2] at UP
      clear P1 C g9 hb e1 ts
      go_wp2_with fail
      refine UP.out.mono ?_
      rintro e w10 ⟨rfl, rfl⟩
      have P2 := Lib.hid (prog_any w.heap.size w10 L S2 hv9 C9 ((1 : Nat) : Int) ((4 : Nat) : Int) s lw2.out)
      rw [progS_same (.inl e2), show progE L.n L.m S2 ((1 : Nat) : Int) ((4 : Nat) : Int) s = 4 from if_pos e2] at P2
      change Hid (Calls _ _ #[_, .int .i64 1, .int .i64 4, _] _ _) at P2
      clear UP
      go_wp2_with fail
      refine P2.out.mono ?_
      rintro e w11 ⟨rfl, hv11, C11, g11⟩
      have b11 := b9.trans (g11.under C9.out b9.size)
      have R1 := Lib.hid (read_any w.heap.size w11 L S2 hv11 C11 ((1 : Nat) : Int) ((3 : Nat) : Int))
      rw [show readV L.n L.m S2 ((1 : Nat) : Int) ((3 : Nat) : Int) = _ from if_pos e2] at R1
      change Hid (Calls _ _ #[_, .int .i64 1, .int .i64 3] _ _) at R1
      clear P2 C9 g11 b9
      go_wp2_with fail
      refine R1.out.mono ?_
      rintro e w12 ⟨rfl, b12⟩
      have C12 := Lib.hid (C11.out.after b12)
      have b13 := b11.trans (b12.mono b11.size)
      have ON := Lib.hid (powOn_any w1.heap.size S2.up S2.left S2.keep S2.junk w12 (by have := C12.out.pow; rw [hpp'.out] at this; exact this))
      clear R1 C11 b11 b12
      go_wp2_with fail
      refine ON.out.mono ?_
      rintro e w13 ⟨rfl, r13, a13⟩
      obtain ⟨h13, g13⟩ := C12.out.power (by rw [hpp'.out]; exact a13) (up := true) (left := 0) (keep := S2.keep) (junk := S2.junk) (by rw [hpp'.out]; exact r13.out) C12.out.byte C12.out.tall
      change Ch w.heap.size w13 L (onS S2) _ at h13
      have b14 := b13.trans (g13.under C12.out b13.size)
      have R2 := Lib.hid (read_any w.heap.size w13 L _ _ h13 ((1 : Nat) : Int) ((3 : Nat) : Int))
      rw [hn'.out, hm0'.out, e3] at R2
      change Hid (Calls _ _ #[_, .int .i64 1, .int .i64 3] _ _) at R2
      clear ON r13 a13 g13 C12 b13 lw2
      replace h13 := Lib.hid h13
      go_wp2_with fail
      refine R2.out.mono ?_
      rintro e w15 ⟨rfl, b15⟩
      have C15 := Lib.hid (h13.out.after b15)
      have b16 := b14.trans (b15.mono b14.size)
      have R3 := Lib.hid (read_any w.heap.size w15 L _ _ C15 ((1 : Nat) : Int) ((4 : Nat) : Int))
      rw [hn'.out, hm0'.out, e4] at R3
      change Hid (Calls _ _ #[_, .int .i64 1, .int .i64 4] _ _) at R3
      clear R2 h13 b14 b15 e3 e4 e2
      go_wp2_with fail
      refine R3.out.mono ?_
      rintro e w17 ⟨rfl, b17⟩
      have b18 := b16.trans (b17.mono b16.size)
      clear R3 C15 b16 b17
      obtain ⟨q, hq⟩ : ∃ q, 256 - s.size = q := ⟨_, rfl⟩
      have hT := pageT_full s hs'.out
      rw [hq] at hT
      have qz : (256 : Int) - (s.size : Int) = (q : Int) := by have := hs'.out; omega
      have q6 : Hid (q ≤ 1000000) := by unfold Hid; omega
      have zs : (bs (listB q zeroN)).size = q := by rw [bs_size, listB_length]
      have szs : s.size + q = 256 := by have := hs'.out; omega
      have r9 := RowAt.new w17 5 (rowOf q (w8 zeroN))
      have cv9 : (convert 65 9 (.slice (some ⟨w17.heap.size, 0, none⟩) q q)).run Try.prog (w17.alloc (.cells (rowOf q (w8 zeroN)) 5)) = .ok (.string (bs (listB q zeroN))) (w17.alloc (.cells (rowOf q (w8 zeroN)) 5)) := block_string (fun _ => by unfold zeroN; decide) Try.underlying65 Try.underlying5 Try.underlying9 r9
      have b19 := b18.alloc b18.size (.cells (rowOf q (w8 zeroN)) 5)
      have hE := pageT_head s K J m hmK.out hm6 (by have := hK2'.out; omega)
      have hB : Hid (∀ j, m ≤ j → ∀ (h : j < (pageT s K J).size), (pageT s K J)[j] = UInt8.ofNat J) := fun j hj h => pageT_junk s K J j hJ'.out (by
        have := hm'.out
        rw [pageT_size] at h
        omega) (by rwa [pageT_size] at h)
      have sT := pageT_size s K J
      have sT0 := pageT_size s 9223372036854775807 0
      generalize pageT s K J = t at *
      generalize pageT s 9223372036854775807 0 = T0 at *
      generalize bs (listB q zeroN) = z at *
      have szI : ((t.size : Nat) : Int) = 256 := by rw [sT]; rfl
      have szI0 : ((T0.size : Nat) : Int) = 256 := by rw [sT0]; rfl
      have mI : (m : Int) ≤ 256 := by omega
      clear r9 b18 hq
      go_wp2_with (first | (refine wpList_max2 rfl _ _ rfl rfl keep 0 (K : Int) rfl rfl hK'.out ?_) | (refine wpList_min2 rfl _ _ rfl rfl (K : Int) 256 (m : Int) rfl rfl hm'.out ?_) | (refine wpList_make_row (m := q) Try.underlying65 Try.info5 (by rw [Nat.mul_one]; exact zero_bytes q) q6.out (by decide) (by decide) rfl rfl rfl rfl ?_; rw [Nat.mul_one]))
      clear cv9 hT zs szs q6 qz
      generalize w17.alloc (.cells (rowOf q (w8 zeroN)) 5) = w18 at *
      generalize hU : T0.extract 0 m = U at *
      go_quiet (fail)
      go_wp2_with fail
      have b20 : Below w.heap.size w (w18.drewN nq) := b19.trans ⟨rfl, rfl, rfl, Nat.le_refl _, fun _ _ => rfl⟩
      clear b19 hE hU sT0 szI0
      go_loopw [24] (fun v wr => ∃ x : Nat, m ≤ x ∧ x ≤ 256 ∧ v = .int .i64 (x : Int) ∧ Below w.heap.size w wr) (fun v _ => 256 - (intOf v).toNat)
      case atStart => exact ⟨m, Nat.le_refl _, hm6, rfl, b20⟩
      case round =>
        clear b20
        obtain ⟨x, hmx, hx, rfl, hb⟩ := hrel
        by_cases hlt2 : x < 256
        · have lt2 : (x : Int) < 256 := by omega
          have x1 : x < t.size := by omega
          have x2 : (x : Int) < (t.size : Int) := by omega
          have bx := Lib.hid (hB.out x hmx x1)
          have rx : Hid (∀ w', (Instr.index 9 (.string t) (.int .i64 (x : Int))).run Try.prog w' = .ok (.int .u8 (J : Int)) w') := fun w' => by
            rw [run_index_string w' 9 t .i64 (x : Int) Try.underlying9, dif_pos ⟨by omega, x2⟩]
            show Result.ok (Value.int .u8 ((t[x].toNat : Nat) : Int)) w' = _
            rw [bx.out, UInt8.toNat_ofNat', Nat.mod_eq_of_lt hJ'.out]
          go_wp2_with (refine wpList_known rfl (run_index_op rx.out rfl rfl rfl _) ?_)
          go_roundw
          case rel => exact ⟨x + 1, by omega, by omega, by go_num, hb⟩
          case measure => simp [intOf]; omega
        · have lt2 : ¬ (x : Int) < 256 := by omega
          go_wp2
          go_ret
          exact ⟨rfl, hb⟩

theorem walk_NandTorn (n : Int) (h0 : (Lit.int .u8 n).wf = true) (keep : Int) (h1 : (Lit.int .i64 keep).wf = true) (junk : Int) (h2 : (Lit.int .u8 junk).wf = true) (s : ByteArray) (hs : s.size ≤ maxLen) (w : World) :
    Calls Try.prog 4 #[.int .u8 n, .int .i64 keep, .int .u8 junk, .string s] w fun e w' => e = .returned (.bool true) ∧ Below w.heap.size w w' := by
  have a0 := wf_u8 h0
  have a2 := wf_u8 h2
  have a1 := wf6_i64 h1
  obtain ⟨n, rfl⟩ : ∃ x : Nat, n = x := ⟨n.toNat, by omega⟩
  obtain ⟨J, rfl⟩ : ∃ x : Nat, junk = x := ⟨junk.toNat, by omega⟩
  by_cases c : 256 < s.size
  · exact torn_long n keep J s c w
  obtain ⟨K, hK⟩ : ∃ K : Nat, (keep < 0 ∧ (K : Int) = 0) ∨ (0 ≤ keep ∧ (K : Int) = keep) := by
    by_cases d : keep < 0
    · exact ⟨0, .inl ⟨d, rfl⟩⟩
    · exact ⟨keep.toNat, .inr ⟨by omega, by omega⟩⟩
  obtain ⟨m, hm⟩ : ∃ m : Nat, (K : Int) < 256 ∧ (m : Int) = (K : Int) ∨ (256 : Int) ≤ (K : Int) ∧ (m : Int) = 256 := by
    by_cases d : K < 256
    · exact ⟨K, .inl ⟨by omega, rfl⟩⟩
    · exact ⟨256, .inr ⟨by omega, rfl⟩⟩
  exact torn_yes n (n % 16) J K m keep s (by omega) (by omega) (Nat.mod_lt _ (by decide)) (by rw [Int.tmod_eq_emod_of_nonneg (by omega)]; omega) (by omega) hK (by omega) hm w

end Go.Proofs.Ytogeccmeaacgnaa
