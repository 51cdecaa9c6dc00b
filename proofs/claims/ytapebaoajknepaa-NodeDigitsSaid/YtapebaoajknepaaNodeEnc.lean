/-
  Contracts: number, flag, Encode.
-/
import Derived.Test.YtapebaoajknepaaNodeMay
import Derived.Test.YtapebaoajknepaaShaKit
import Derived.Test.YtapebaoajknepaaNum
namespace Go.Proofs.Ytapebaoajknepaa
open Go.RowKit
set_option linter.unusedVariables false

theorem bs_add (a b : List UInt8) : bs a ++ bs b = bs (a ++ b) := by
  apply ByteArray.ext
  show (bs a ++ bs b).data = (a ++ b).toArray
  rw [ByteArray.data_append]
  simp [bs]
theorem number_nat (n k : Nat) (h1 : 1 ≤ k) (h2 : k ≤ 8) (hn : n < 256 ^ k) (w : World) :
    Calls Try.prog 33 #[.int .u64 (n : Int), .int .i64 (k : Int)] w fun e w' => e = .returned (.tuple #[.string (bs (numB k n)), .int .i64 0]) ∧ Below w.heap.size w w' := by
  have hN : n < 18446744073709551616 := Nat.lt_of_lt_of_le hn (Nat.le_trans (Nat.pow_le_pow_right (by decide) h2) (by decide))
  have h := number_yes (n : Int) (k : Int) (by omega) (by unfold Hid; omega) (by omega) (by omega) (by rw [refFits, Nat.div_eq_of_lt hn]; rfl) w
  simpa using h
theorem refNumber_nat (n k : Nat) (h1 : 1 ≤ k) (h2 : k ≤ 8) (hn : n < 256 ^ k) (w : World) :
    Calls Try.prog 27 #[.int .u64 (n : Int), .int .i64 (k : Int)] w fun e w' => e = .returned (.tuple #[.string (bs (numB k n)), .int .i64 0]) ∧ Below w.heap.size w w' := by
  have hN : n < 18446744073709551616 := Nat.lt_of_lt_of_le hn (Nat.le_trans (Nat.pow_le_pow_right (by decide) h2) (by decide))
  have h := refNumber_any (n : Int) (k : Int) (by omega) (by unfold Hid; omega) w
  have hf : 1 ≤ (k : Int) ∧ (k : Int) ≤ 8 ∧ fitsB (n : Int) (k : Int) = true := ⟨by omega, by omega, by rw [refFits, Nat.div_eq_of_lt hn]; rfl⟩
  unfold numS numE at h
  rw [if_pos hf, if_pos hf] at h
  simpa using h
/-- Bytes that lie in a part of a row, as a text. -/
theorem part_string {P : Program} {w : World} {t src dst : TypeId} {e : TypeId} {g o n cap : Nat} {f : Nat → Nat} {cs : Array Value} (hf : ∀ j, j < n → f j < 256) (hs : P.underlying src = some (.slice e)) (he : P.underlying e = some (.int .u8)) (hd : P.underlying dst = some .string)
    (h : RowAt w g t cs) (hc : ∀ j, j < n → cs[o + j]? = some (.int .u8 (f j : Nat))) : (convert src dst (.slice (some ⟨g, o, none⟩) n cap)).run P w = .ok (.string (bs (listB n f))) w := by
  have := run_convert_bytes_back (P := P) w src dst e ⟨g, o, none⟩ cap (listB n f) hs he hd (fun j hj => ?_)
  · rw [listB_length] at this
    exact this
  · rw [listB_length] at hj
    have hx : (listB n f)[j]'(by rw [listB_length]; exact hj) = UInt8.ofNat (f j) := by simp [listB]
    rw [addr_add, cell_of_row w g (o + j) cs t (0, 0) h, hc j hj, hx, UInt8.toNat_ofNat', Nat.mod_eq_of_lt (hf j hj)]
theorem chF_key (c : Chd) (j : Nat) (hj : j < 16) : (rowOf 21 (chF c))[3 + j]? = some (.int .u8 (c.k j : Nat)) := by
  rw [rowOf_get _ _ _ (by omega)]
  unfold chF
  rw [if_neg (by omega), if_neg (by omega), if_neg (by omega), if_pos (by omega), show 3 + j - 3 = j by omega]
theorem run_conv_key {c : Chd} (hb : BndC c) {o : Oper} {a : Act} {x : Operand} {p : Nat} {t : TypeId} (ho : o.op = .convert 58 9 x) (hx : a.eval x = .slice (some ⟨p, 3, none⟩) 16 16) {w : World} (h : RowAt w p t (rowOf 21 (chF c))) :
    (execOp a.eval o).run Try.prog w = .ok (.value (.string (bs (listB 16 c.k)))) w := by
  have e := part_string (P := Try.prog) (src := 58) (dst := 9) (o := 3) (cap := 16) hb.1 Try.underlying58 Try.underlying5 Try.underlying9 h (chF_key c)
  unfold execOp
  simp only [ho, hx, Sem.run_bind, e, Result.andThen_ok, Sem.run_pure]

set_option maxRecDepth 8000 in
theorem nodeNumber_any (n k : Nat) (h1 : 1 ≤ k) (h2 : k ≤ 8) (hn : n < 256 ^ k) (w : World) :
    Calls Try.prog 25 #[.int .u64 (n : Int), .int .i64 (k : Int)] w fun e w' => e = .returned (.string (bs (numB k n))) ∧ Below w.heap.size w w' := by
  have K := Lib.hid (number_nat n k h1 h2 hn w)
  go_enter Try.func25, Try.ntmps25
  go_wp2_with fail
  refine K.out.mono ?_
  rintro e w1 ⟨rfl, b1⟩
  go_wp2
  go_ret
  exact ⟨rfl, b1⟩

set_option maxRecDepth 8000 in
theorem nodeFlag_any (b : Bool) (w : World) :
    Calls Try.prog 24 #[.bool b] w fun e w' => e = .returned (.string (bs (flagB b))) ∧ Below w.heap.size w w' := by
  cases b with
  | true =>
    have K : Hid (Calls Try.prog 25 #[.int .u64 1, .int .i64 1] w fun e w' => e = .returned (.string (bs (flagB true))) ∧ Below w.heap.size w w') := nodeNumber_any 1 1 (by decide) (by decide) (by decide) w
    go_enter Try.func24, Try.ntmps24
    go_wp2_with fail
    refine K.out.mono ?_
    rintro e w1 ⟨rfl, b1⟩
    go_wp2
    go_ret
    exact ⟨rfl, b1⟩
  | false =>
    have K : Hid (Calls Try.prog 25 #[.int .u64 0, .int .i64 1] w fun e w' => e = .returned (.string (bs (flagB false))) ∧ Below w.heap.size w w') := nodeNumber_any 0 1 (by decide) (by decide) (by decide) w
    go_enter Try.func24, Try.ntmps24
    go_wp2_with fail
    refine K.out.mono ?_
    rintro e w1 ⟨rfl, b1⟩
    go_wp2
    go_ret
    exact ⟨rfl, b1⟩

/-- Encode's answers. -/
def encS (N : Nod) : ByteArray := if mayN N = true then bs (encN N) else bs []
def encE (N : Nod) : Int := if mayN N = true then 0 else 1
theorem encU_no {N : Nod} {i : Nat} (h : (N.c i).h = false) : bs (encU N i) ++ bs (flagB false) = bs (encU N (i + 1)) := by
  show _ = bs (encU N i ++ encC N.l (N.c i))
  unfold encC
  rw [bs_add, h, if_neg (by decide), List.append_nil]
theorem encU_has {N : Nod} {i : Nat} (h : (N.c i).h = true) (hl : N.l = false) : bs (encU N i) ++ bs (flagB true) ++ (bs (numB 1 (N.c i).s.toNat) ++ bs (numB 1 (N.c i).p.toNat) ++ bs (listB 16 (N.c i).k)) = bs (encU N (i + 1)) := by
  show _ = bs (encU N i ++ encC N.l (N.c i))
  unfold encC bodyB
  rw [hl, h]
  simp only [bs_add, if_true, Bool.false_eq_true, if_false, List.append_nil, List.append_assoc]
theorem encU_leaf {N : Nod} {i : Nat} (h : (N.c i).h = true) (hl : N.l = true) : bs (encU N i) ++ bs (flagB true) ++ (bs (numB 1 (N.c i).s.toNat) ++ bs (numB 1 (N.c i).p.toNat) ++ bs (listB 16 (N.c i).k)) ++ (bs (numB 8 (N.c i).x) ++ bs (numB 8 (N.c i).v)) = bs (encU N (i + 1)) := by
  show _ = bs (encU N i ++ encC N.l (N.c i))
  unfold encC bodyB tailB
  rw [hl, h]
  simp only [bs_add, if_true, List.append_assoc]

set_option maxHeartbeats 4000000 in
set_option maxRecDepth 8000 in
theorem encode_any (N : Nod) (hb : ∀ i, i < 4 → BndC (N.c i)) (w : World) :
    Calls Try.prog 10 #[.agg (rowOf 85 (nF N))] w fun e w' => e = .returned (.tuple #[.string (encS N), .int .i64 (encE N)]) ∧ Below w.heap.size w w' := by
  have b0 := Lib.hid ((Below.refl _ w).alloc (Nat.le_refl _) (.cells (rowOf 85 (nF N)) 29))
  have r0 := Lib.hid (RowAt.new w 29 (rowOf 85 (nF N)))
  have M := Lib.hid (may_any N (w.alloc (.cells (rowOf 85 (nF N)) 29)))
  cases hm : mayN N with
  | false =>
    have e1 : Hid (encS N = bs [] ∧ encE N = 1) := by unfold Hid encS encE; rw [hm]; exact ⟨rfl, rfl⟩
    rw [hm] at M
    clear hm
    go_enter Try.func10, Try.ntmps10
    go_wp2_with (refine wpList_load_row rfl 29 _ rfl w.heap.size rfl 29 (rowOf 85 (nF N)) (0, 0) _ r0.out Try.underlying29 rfl (infoNod' _) ?_)
    refine M.out.mono ?_
    rintro e w1 ⟨rfl, b1⟩
    go_wp2
    go_ret2
    exact ⟨by rw [e1.out.1, e1.out.2]; rfl, b0.out.trans (b1.mono b0.out.size)⟩
  | true =>
    have e1 : Hid (encS N = bs (encU N 4) ∧ encE N = 0) := by unfold Hid encS encE; rw [hm]; exact ⟨rfl, rfl⟩
    have hmc := Lib.hid ((mayN_iff N).1 hm)
    rw [hm] at M
    clear hm
    go_enter Try.func10, Try.ntmps10
    go_wp2_with (refine wpList_load_row rfl 29 _ rfl w.heap.size rfl 29 (rowOf 85 (nF N)) (0, 0) _ r0.out Try.underlying29 rfl (infoNod' _) ?_)
    generalize w.alloc (.cells (rowOf 85 (nF N)) 29) = w0 at *
    refine M.out.mono ?_
    rintro e w1 ⟨rfl, b1⟩
    replace r0 := Lib.hid (r0.out.below b1 r0.out.lt)
    replace b0 := Lib.hid (b0.out.trans (b1.mono b0.out.size))
    have n0 : w1.cell? ⟨w.heap.size, 0, none⟩ = some (.bool N.l) := r0.out.cell 0 (by decide)
    have F := Lib.hid (nodeFlag_any N.l w1)
    clear M b1
    go_wp2_with fail
    refine F.out.mono ?_
    rintro e w2 ⟨rfl, b2⟩
    replace r0 := Lib.hid (r0.out.below b2 r0.out.lt)
    replace b0 := Lib.hid (b0.out.trans (b2.mono b0.out.size))
    clear F b2 n0
    go_wp2_with (refine wpList_load_at rfl 27 _ rfl w.heap.size 1 rfl 29 _ _ 84 (chsF N) r0.out (fun j hj => by rw [rowOf_get _ _ _ (by omega), nF_chs]) Try.underlying27 rfl infoChs ?_)
    go_loopw [4, 15] (fun u v wr => ∃ i : Nat, i ≤ 4 ∧ v = .int .i64 (i : Int) ∧ u = .string (bs (encU N i)) ∧ Hid (RowAt wr w.heap.size 29 (rowOf 85 (nF N))) ∧ Hid (Below w.heap.size w wr)) (fun _ v _ => 4 - (intOf v).toNat)
    case atStart => exact ⟨0, by decide, rfl, rfl, r0, b0⟩
    case round =>
      clear r0 b0
      obtain ⟨i, hi, rfl, rfl, rr, bb⟩ := hrel
      by_cases hi4 : i < 4
      · have l0 : (i : Int) < 4 := by omega
        have rc := Lib.hid (RowAt.new wr 26 (rowOf 21 (chF (N.c i))))
        have bc := Lib.hid ((Below.refl _ wr).alloc (Nat.le_refl _) (.cells (rowOf 21 (chF (N.c i))) 26))
        go_wp2_with (first | (refine wpList_known rfl (run_index_chs hi4 rfl rfl rfl rfl _) ?_) | (refine wpList_store_row rfl 26 _ _ rfl wr.heap.size (rowOf 21 (chF (N.c i))) rfl rfl 26 _ (RowAt.new _ _ _) (infoChd' _) (by rw [rowOf_size]; rfl) (rowOf_oneC (chF_one _)) ?_; rw [World.setRow_alloc_new]; refine Hid.out ?_))
        unfold Hid
        have rn := Lib.hid (rr.out.below bc.out rr.out.lt)
        have bn := Lib.hid (bb.out.trans (bc.out.mono bb.out.size))
        have x0 : (wr.alloc (.cells (rowOf 21 (chF (N.c i))) 26)).cell? ⟨wr.heap.size, 0, none⟩ = some (.bool (N.c i).h) := rc.out.cell 0 (by decide)
        clear rr bb bc
        have FL := Lib.hid (nodeFlag_any (N.c i).h (wr.alloc (.cells (rowOf 21 (chF (N.c i))) 26)))
        generalize wr.alloc (.cells (rowOf 21 (chF (N.c i))) 26) = w1 at *
        generalize wr.heap.size = q at *
        have zX : (bs (encU N i)).size ≤ 200 := by rw [bs_size]; have := encU_le N i; omega
        have zF : (bs (flagB (N.c i).h)).size = 1 := by rw [bs_size, flagB_length]
        go_wp2_with fail
        refine FL.out.mono ?_
        rintro e w2 ⟨rfl, b2⟩
        replace rc := Lib.hid (rc.out.below b2 rc.out.lt)
        replace rn := Lib.hid (rn.out.below b2 rn.out.lt)
        replace bn := Lib.hid (bn.out.trans (b2.mono bn.out.size))
        replace x0 : w2.cell? ⟨q, 0, none⟩ = some (.bool (N.c i).h) := rc.out.cell 0 (by decide)
        clear FL b2
        cases hh : (N.c i).h with
        | false =>
          have eU := encU_no hh
          rw [hh] at x0 zF
          generalize bs (encU N i) = X at *
          generalize bs (flagB false) = Fb at *
          replace eU := Lib.hid eU
          go_wp2
          rw [eU.out]
          go_roundw
          case rel => exact ⟨i + 1, by omega, by go_num, rfl, rn, bn⟩
          case measure => simp [intOf]; omega
        | true =>
          obtain ⟨_, hs0, hs1, hp0, hp1⟩ := mayC_has (hmc.out i hi4) hh
          have hbi := hb i hi4
          obtain ⟨sn, hsn⟩ : ∃ sn : Nat, (N.c i).s = (sn : Int) := ⟨(N.c i).s.toNat, by omega⟩
          obtain ⟨pn, hpn⟩ : ∃ pn : Nat, (N.c i).p = (pn : Int) := ⟨(N.c i).p.toNat, by omega⟩
          obtain ⟨xn, hxn⟩ : ∃ xn : Nat, (N.c i).x = xn := ⟨_, rfl⟩
          obtain ⟨vn, hvn⟩ : ∃ vn : Nat, (N.c i).v = vn := ⟨_, rfl⟩
          have hx64 := hbi.2.1
          have hv64 := hbi.2.2
          have hk := Lib.hid hbi.1
          have cs : Hid ((rowOf 21 (chF (N.c i)))[1]? = some (.int .i64 (sn : Int))) := by unfold Hid; rw [rowOf_get _ _ _ (by decide), ← hsn]; rfl
          have cp : Hid ((rowOf 21 (chF (N.c i)))[2]? = some (.int .i64 (pn : Int))) := by unfold Hid; rw [rowOf_get _ _ _ (by decide), ← hpn]; rfl
          have cx : Hid ((rowOf 21 (chF (N.c i)))[19]? = some (.int .u64 (xn : Int))) := by unfold Hid; rw [rowOf_get _ _ _ (by decide), ← hxn]; rfl
          have cv : Hid ((rowOf 21 (chF (N.c i)))[20]? = some (.int .u64 (vn : Int))) := by unfold Hid; rw [rowOf_get _ _ _ (by decide), ← hvn]; rfl
          rw [hsn] at hs0 hs1
          rw [hpn] at hp0 hp1
          rw [hxn] at hx64
          rw [hvn] at hv64
          have NS : Hid (∀ W, Calls Try.prog 25 #[.int .u64 (sn : Int), .int .i64 1] W fun e w' => e = .returned (.string (bs (numB 1 sn))) ∧ Below W.heap.size W w') := fun W => nodeNumber_any sn 1 (by decide) (by decide) (by omega) W
          have NPp : Hid (∀ W, Calls Try.prog 25 #[.int .u64 (pn : Int), .int .i64 1] W fun e w' => e = .returned (.string (bs (numB 1 pn))) ∧ Below W.heap.size W w') := fun W => nodeNumber_any pn 1 (by decide) (by decide) (by omega) W
          have NX : Hid (∀ W, Calls Try.prog 25 #[.int .u64 (xn : Int), .int .i64 8] W fun e w' => e = .returned (.string (bs (numB 8 xn))) ∧ Below W.heap.size W w') := fun W => nodeNumber_any xn 8 (by decide) (by decide) (by omega) W
          have NV : Hid (∀ W, Calls Try.prog 25 #[.int .u64 (vn : Int), .int .i64 8] W fun e w' => e = .returned (.string (bs (numB 8 vn))) ∧ Below W.heap.size W w') := fun W => nodeNumber_any vn 8 (by decide) (by decide) (by omega) W
          have hY : Hid (∀ (o : Oper) (a : Act) (x : Operand), o.op = .convert 58 9 x → a.eval x = .slice (some ⟨q, 3, none⟩) 16 16 → ∀ {W : World}, RowAt W q 26 (rowOf 21 (chF (N.c i))) → (execOp a.eval o).run Try.prog W = .ok (.value (.string (bs (listB 16 (N.c i).k)))) W) := fun o a x h1 h2 W h3 => run_conv_key hbi h1 h2 h3
          have z1 : (bs (numB 1 sn)).size = 1 := by rw [bs_size, numB_length]
          have z2 : (bs (numB 1 pn)).size = 1 := by rw [bs_size, numB_length]
          have z3 : (bs (listB 16 (N.c i).k)).size = 16 := by rw [bs_size, listB_length]
          have z4 : (bs (numB 8 xn)).size = 8 := by rw [bs_size, numB_length]
          have z5 : (bs (numB 8 vn)).size = 8 := by rw [bs_size, numB_length]
          have eH : N.l = false → bs (encU N i) ++ bs (flagB true) ++ (bs (numB 1 sn) ++ bs (numB 1 pn) ++ bs (listB 16 (N.c i).k)) = bs (encU N (i + 1)) := fun hl => by
            have := encU_has hh hl
            rwa [hsn, hpn, Int.toNat_natCast, Int.toNat_natCast] at this
          have eL : N.l = true → bs (encU N i) ++ bs (flagB true) ++ (bs (numB 1 sn) ++ bs (numB 1 pn) ++ bs (listB 16 (N.c i).k)) ++ (bs (numB 8 xn) ++ bs (numB 8 vn)) = bs (encU N (i + 1)) := fun hl => by
            have := encU_leaf hh hl
            rwa [hsn, hpn, hxn, hvn, Int.toNat_natCast, Int.toNat_natCast] at this
          rw [hh] at x0 zF
          go_wp2_with fail
          have zX1 : (bs (encU N i) ++ bs (flagB true)).size ≤ 201 := by rw [ByteArray.size_append, zF]; omega
          have WS : Hid (IntKind.u64.wrap (sn : Int) = (sn : Int)) := IntWalk.u64_in _ (by omega)
          have WP : Hid (IntKind.u64.wrap (pn : Int) = (pn : Int)) := IntWalk.u64_in _ (by omega)
          clear hsn hpn hxn hvn hbi hk hh
          generalize bs (encU N i) ++ bs (flagB true) = X1 at *
          generalize bs (numB 1 sn) = S at *
          generalize bs (numB 1 pn) = P at *
          generalize bs (listB 16 (N.c i).k) = Y at *
          generalize bs (numB 8 xn) = A at *
          generalize bs (numB 8 vn) = B at *
          clear zX zF
          have zX2 : (X1 ++ (S ++ P ++ Y)).size ≤ 219 := by simp only [ByteArray.size_append]; omega
          have HC : Hid (RowC w2 q 26 (rowOf 21 (chF (N.c i))) w2.drew) := ⟨(Below.refl _ _).drew, rc.out⟩
          have KS : Hid (∀ w', RowC w2 q 26 (rowOf 21 (chF (N.c i))) w' → Calls Try.prog 25 #[.int .u64 (sn : Int), .int .i64 1] w' fun e w'' => e = .returned (.string S) ∧ RowC w2 q 26 (rowOf 21 (chF (N.c i))) w'') := fun w' h => (NS.out w').mono fun e w'' ⟨h1, h2⟩ => ⟨h1, RowC.after h2 h⟩
          have KP : Hid (∀ w', RowC w2 q 26 (rowOf 21 (chF (N.c i))) w' → Calls Try.prog 25 #[.int .u64 (pn : Int), .int .i64 1] w' fun e w'' => e = .returned (.string P) ∧ RowC w2 q 26 (rowOf 21 (chF (N.c i))) w'') := fun w' h => (NPp.out w').mono fun e w'' ⟨h1, h2⟩ => ⟨h1, RowC.after h2 h⟩
          clear NS NPp
          refine wp_region_class (RowC w2 q 26 (rowOf 21 (chF (N.c i)))) (by kernel_rfl) (by kernel_rfl) HC.out ?_
          refine wpQuiet_val (by rfl) (.string X1) (fun w' hC => by (go_simp; try first | omega | exact WS.out | exact WP.out)) ?_
          simp only [Act.put, List.setIfInBounds_toArray, List.set_cons_succ, List.set_cons_zero]
          refine wpQuiet_val (by rfl) (.pointer (some ⟨q, 1, none⟩)) (fun w' hC => by (go_simp; try first | omega | exact WS.out | exact WP.out)) ?_
          simp only [Act.put, List.setIfInBounds_toArray, List.set_cons_succ, List.set_cons_zero]
          refine wpQuiet_val (by rfl) (.int .i64 (sn : Int)) (fun w' hC => get_cell hC.2 cs.out rfl Try.underlying3 rfl rfl) ?_
          simp only [Act.put, List.setIfInBounds_toArray, List.set_cons_succ, List.set_cons_zero]
          refine wpQuiet_val (by rfl) (.int .u64 (sn : Int)) (fun w' hC => by (go_simp; try first | omega | exact WS.out | exact WP.out)) ?_
          simp only [Act.put, List.setIfInBounds_toArray, List.set_cons_succ, List.set_cons_zero]
          (go_big_quiet_want; go_big_quiet_op; apply Exists.intro; refine ⟨KS.out, ?_⟩; go_big_quiet_on)
          refine wpQuiet_val (by rfl) (.pointer (some ⟨q, 2, none⟩)) (fun w' hC => by (go_simp; try first | omega | exact WS.out | exact WP.out)) ?_
          simp only [Act.put, List.setIfInBounds_toArray, List.set_cons_succ, List.set_cons_zero]
          refine wpQuiet_val (by rfl) (.int .i64 (pn : Int)) (fun w' hC => get_cell hC.2 cp.out rfl Try.underlying3 rfl rfl) ?_
          simp only [Act.put, List.setIfInBounds_toArray, List.set_cons_succ, List.set_cons_zero]
          refine wpQuiet_val (by rfl) (.int .u64 (pn : Int)) (fun w' hC => by (go_simp; try first | omega | exact WS.out | exact WP.out)) ?_
          simp only [Act.put, List.setIfInBounds_toArray, List.set_cons_succ, List.set_cons_zero]
          (go_big_quiet_want; go_big_quiet_op; apply Exists.intro; refine ⟨KP.out, ?_⟩; go_big_quiet_on)
          refine wpQuiet_val (by rfl) (.string (S ++ P)) (fun w' hC => by (go_simp; try first | omega | exact WS.out | exact WP.out)) ?_
          simp only [Act.put, List.setIfInBounds_toArray, List.set_cons_succ, List.set_cons_zero]
          refine wpQuiet_val (by rfl) (.pointer (some ⟨q, 3, none⟩)) (fun w' hC => by (go_simp; try first | omega | exact WS.out | exact WP.out)) ?_
          simp only [Act.put, List.setIfInBounds_toArray, List.set_cons_succ, List.set_cons_zero]
          refine wpQuiet_val (by rfl) (.slice (some ⟨q, 3, none⟩) 16 16) (fun w' hC => by (go_simp; try first | omega | exact WS.out | exact WP.out)) ?_
          simp only [Act.put, List.setIfInBounds_toArray, List.set_cons_succ, List.set_cons_zero]
          refine wpQuiet_val (by rfl) (.string Y) (fun w' hC => hY.out _ _ _ rfl rfl hC.2) ?_
          simp only [Act.put, List.setIfInBounds_toArray, List.set_cons_succ, List.set_cons_zero]
          refine wpQuiet_val (by rfl) (.string (S ++ P ++ Y)) (fun w' hC => by (go_simp; try first | omega | exact WS.out | exact WP.out)) ?_
          simp only [Act.put, List.setIfInBounds_toArray, List.set_cons_succ, List.set_cons_zero]
          refine wpQuiet_val (by rfl) (.string (X1 ++ (S ++ P ++ Y))) (fun w' hC => by (go_simp; try first | omega | exact WS.out | exact WP.out)) ?_
          simp only [Act.put, List.setIfInBounds_toArray, List.set_cons_succ, List.set_cons_zero]
          refine wpQuiet_val (by rfl) (.string (X1 ++ (S ++ P ++ Y))) (fun w' hC => by (go_simp; try first | omega | exact WS.out | exact WP.out)) ?_
          simp only [Act.put, List.setIfInBounds_toArray, List.set_cons_succ, List.set_cons_zero]
          refine wpQuiet_nil ?_
          intro w3 hC
          have rn3 := Lib.hid (rn.out.below hC.1 rn.out.lt)
          have bn3 := Lib.hid (bn.out.trans (hC.1.mono bn.out.size))
          have rc3 := Lib.hid hC.2
          have n3 : w3.cell? ⟨w.heap.size, 0, none⟩ = some (.bool N.l) := rn3.out.cell 0 (by decide)
          have x3 : w3.cell? ⟨q, 0, none⟩ = some (.bool true) := x0 ▸ (hC.1.cell (by have := rc.out.lt; exact this))
          clear hC HC KS KP rc rn bn x0
          have hl2 : N.l = false ∨ N.l = true := by cases N.l <;> simp
          rcases hl2 with hl | hl
          · have eU := Lib.hid (eH hl)
            rw [hl] at n3
            clear eH eL
            go_wp2
            rw [eU.out]
            go_roundw
            case rel => exact ⟨i + 1, by omega, by go_num, rfl, rn3, bn3⟩
            case measure => simp [intOf]; omega
          · have eU := Lib.hid (eL hl)
            rw [hl] at n3
            clear eH eL
            have HD : Hid (RowC w3 q 26 (rowOf 21 (chF (N.c i))) w3.drew) := ⟨(Below.refl _ _).drew, rc3.out⟩
            have KX : Hid (∀ w', RowC w3 q 26 (rowOf 21 (chF (N.c i))) w' → Calls Try.prog 25 #[.int .u64 (xn : Int), .int .i64 8] w' fun e w'' => e = .returned (.string A) ∧ RowC w3 q 26 (rowOf 21 (chF (N.c i))) w'') := fun w' h => (NX.out w').mono fun e w'' ⟨h1, h2⟩ => ⟨h1, RowC.after h2 h⟩
            have KV : Hid (∀ w', RowC w3 q 26 (rowOf 21 (chF (N.c i))) w' → Calls Try.prog 25 #[.int .u64 (vn : Int), .int .i64 8] w' fun e w'' => e = .returned (.string B) ∧ RowC w3 q 26 (rowOf 21 (chF (N.c i))) w'') := fun w' h => (NV.out w').mono fun e w'' ⟨h1, h2⟩ => ⟨h1, RowC.after h2 h⟩
            clear NX NV
            generalize X1 ++ (S ++ P ++ Y) = X2 at *
            go_wp2_with fail
            refine wp_region_class (RowC w3 q 26 (rowOf 21 (chF (N.c i)))) (by kernel_rfl) (by kernel_rfl) HD.out ?_
            refine wpQuiet_val (by rfl) (.string X2) (fun w' hC => by (go_simp; try first | omega | exact WS.out | exact WP.out)) ?_
            simp only [Act.put, List.setIfInBounds_toArray, List.set_cons_succ, List.set_cons_zero]
            refine wpQuiet_val (by rfl) (.pointer (some ⟨q, 19, none⟩)) (fun w' hC => by (go_simp; try first | omega | exact WS.out | exact WP.out)) ?_
            simp only [Act.put, List.setIfInBounds_toArray, List.set_cons_succ, List.set_cons_zero]
            refine wpQuiet_val (by rfl) (.int .u64 (xn : Int)) (fun w' hC => get_cell hC.2 cx.out rfl Try.underlying24 rfl rfl) ?_
            simp only [Act.put, List.setIfInBounds_toArray, List.set_cons_succ, List.set_cons_zero]
            (go_big_quiet_want; go_big_quiet_op; apply Exists.intro; refine ⟨KX.out, ?_⟩; go_big_quiet_on)
            refine wpQuiet_val (by rfl) (.pointer (some ⟨q, 20, none⟩)) (fun w' hC => by (go_simp; try first | omega | exact WS.out | exact WP.out)) ?_
            simp only [Act.put, List.setIfInBounds_toArray, List.set_cons_succ, List.set_cons_zero]
            refine wpQuiet_val (by rfl) (.int .u64 (vn : Int)) (fun w' hC => get_cell hC.2 cv.out rfl Try.underlying24 rfl rfl) ?_
            simp only [Act.put, List.setIfInBounds_toArray, List.set_cons_succ, List.set_cons_zero]
            (go_big_quiet_want; go_big_quiet_op; apply Exists.intro; refine ⟨KV.out, ?_⟩; go_big_quiet_on)
            refine wpQuiet_val (by rfl) (.string (A ++ B)) (fun w' hC => by (go_simp; try first | omega | exact WS.out | exact WP.out)) ?_
            simp only [Act.put, List.setIfInBounds_toArray, List.set_cons_succ, List.set_cons_zero]
            refine wpQuiet_val (by rfl) (.string (X2 ++ (A ++ B))) (fun w' hC => by (go_simp; try first | omega | exact WS.out | exact WP.out)) ?_
            simp only [Act.put, List.setIfInBounds_toArray, List.set_cons_succ, List.set_cons_zero]
            refine wpQuiet_val (by rfl) (.string (X2 ++ (A ++ B))) (fun w' hC => by (go_simp; try first | omega | exact WS.out | exact WP.out)) ?_
            simp only [Act.put, List.setIfInBounds_toArray, List.set_cons_succ, List.set_cons_zero]
            refine wpQuiet_nil ?_
            intro w4 hD
            have rn4 := Lib.hid (rn3.out.below hD.1 rn3.out.lt)
            have bn4 := Lib.hid (bn3.out.trans (hD.1.mono bn3.out.size))
            clear hD HD KX KV rc3 rn3 bn3 n3 x3
            go_wp2
            rw [eU.out]
            go_roundw
            case rel => exact ⟨i + 1, by omega, by go_num, rfl, rn4, bn4⟩
            case measure => simp [intOf]; omega
      · have ei : i = 4 := by omega
        subst ei
        have l0 : ¬ ((4 : Nat) : Int) < 4 := by omega
        go_wp2
        go_ret2
        exact ⟨by rw [e1.out.1, e1.out.2]; rfl, bb.out⟩

end Go.Proofs.Ytapebaoajknepaa
