/-
  Contracts: the document's text (it calls itself), Text.
-/
import Derived.Test.YtlfgiggeeoegjaaDoorTermRefSize
import Derived.Test.YtlfgiggeeoegjaaDoorTermTextOf
namespace Go.Proofs.YtlfgiggeeoegjaaDoor
open Go.RowKit
set_option linter.unusedVariables false

theorem get_at {w : World} {x : Addr} {v : Value} (hc : w.cell? x = some v) {o : Oper} {a : Act} {y : Operand} (ho : o.op = .load 3 y) (hx : a.eval y = .pointer (some x)) : (execOp a.eval o).run Tryd.prog w = .ok (.value v) w := by
  unfold execOp
  simp only [ho, hx, Instr.loadAt, Instr.sureAddr, Sem.run_bind, Sem.run_pure, Result.andThen_ok, run_loadVar_one w x v hc Tryd.underlying3 rfl]

set_option maxHeartbeats 4000000 in
set_option maxRecDepth 8000 in
theorem refText_in (K : Nds) (n : Nat) (hn : n ≤ 200) (hK : Hid (Wf K n)) (a : Option Addr) (c : Nat) :
    ∀ i, i < n → lnT (tm K i) ≤ 2000 → ∀ (w : World), Hid (SeesN w a n K) →
    Calls Tryd.prog 23 #[.slice a n c, .int .i64 (i : Int)] w fun e w' => e = .returned (.string (bs (txT (tm K i)))) ∧ Below w.heap.size w w' := by
  intro i
  induction i using Nat.strongRecOn with
  | _ i ih =>
    intro hi hlim w hs
    rcases hK.out.kinds hi with ⟨h0, ⟨x, hx, e1⟩, e2⟩ | ⟨h0, x, y, hx, hy, e1, e2⟩
    · rcases h0 with h0 | h0
      · have et := tm_atom hK.out hi h0 e1
        have ex : bs (txT (tm K i)) = ⟨#[97]⟩ ++ bs (Lib.decDigits x) := by rw [et, show (⟨#[97]⟩ : ByteArray) = bs [97] from rfl, bs_two]; rfl
        rw [ex]
        clear ex et ih hlim
        have zx : (bs (Lib.decDigits x)).size ≤ 6 := by rw [bs_size']; exact digits_six hx
        have b1 : Below w.heap.size w (w.alloc (.cells #[.int .i64 0, .int .i64 (x : Int), .int .i64 0] 43)) := (Below.refl _ _).alloc (Nat.le_refl _) _
        have I := Lib.hid (fun w' => digits_any x hx w')
        generalize bs (Lib.decDigits x) = X at *
        have zz : 1 + X.size ≤ 9223372036854775807 := by omega
        go_enter Tryd.func23, Tryd.ntmps23
        go_wp2_with (first | (refine wpList_known rfl (at_refNodes hs.out hi rfl rfl rfl rfl _) ?_) | (refine wpList_known rfl (get_refNode hs.out hi rfl rfl) ?_))
        refine (I.out _).mono ?_
        rintro e w2 ⟨rfl, hb2⟩
        have b2 := b1.trans (hb2.mono b1.size)
        clear I hb2 b1
        go_wp2
        go_ret
        exact ⟨rfl, b2⟩
      · have et := tm_key hK.out hi h0 e1
        have ex : bs (txT (tm K i)) = ⟨#[107]⟩ ++ bs (Lib.decDigits x) := by rw [et, show (⟨#[107]⟩ : ByteArray) = bs [107] from rfl, bs_two]; rfl
        rw [ex]
        clear ex et ih hlim
        have zx : (bs (Lib.decDigits x)).size ≤ 6 := by rw [bs_size']; exact digits_six hx
        have b1 : Below w.heap.size w (w.alloc (.cells #[.int .i64 1, .int .i64 (x : Int), .int .i64 0] 43)) := (Below.refl _ _).alloc (Nat.le_refl _) _
        have I := Lib.hid (fun w' => digits_any x hx w')
        generalize bs (Lib.decDigits x) = X at *
        have zz : 1 + X.size ≤ 9223372036854775807 := by omega
        go_enter Tryd.func23, Tryd.ntmps23
        go_wp2_with (first | (refine wpList_known rfl (at_refNodes hs.out hi rfl rfl rfl rfl _) ?_) | (refine wpList_known rfl (get_refNode hs.out hi rfl rfl) ?_))
        refine (I.out _).mono ?_
        rintro e w2 ⟨rfl, hb2⟩
        have b2 := b1.trans (hb2.mono b1.size)
        clear I hb2 b1
        go_wp2
        go_ret
        exact ⟨rfl, b2⟩
    · rcases h0 with h0 | h0
      · have et := tm_pair hK.out hi h0 hx hy e1 e2
        have el : lnT (tm K i) = 3 + lnT (tm K x) + lnT (tm K y) := by rw [et, lnT_pair]
        have ex : bs (txT (tm K i)) = ((((⟨#[40]⟩ ++ bs (txT (tm K x))) ++ ⟨#[44]⟩) ++ bs (txT (tm K y))) ++ ⟨#[41]⟩) := by rw [et]; simp only [show (⟨#[40]⟩ : ByteArray) = bs [40] from rfl, show (⟨#[44]⟩ : ByteArray) = bs [44] from rfl, show (⟨#[41]⟩ : ByteArray) = bs [41] from rfl, bs_two]; simp [txT]
        rw [ex]
        clear ex
        have zx : (bs (txT (tm K x))).size = lnT (tm K x) := bs_size' _
        have zy : (bs (txT (tm K y))).size = lnT (tm K y) := bs_size' _
        have b1 : Below w.heap.size w (w.alloc (.cells #[.int .i64 2, .int .i64 (x : Int), .int .i64 (y : Int)] 43)) := (Below.refl _ _).alloc (Nat.le_refl _) _
        have r1 := Lib.hid (RowAt.new w 43 #[.int .i64 2, .int .i64 (x : Int), .int .i64 (y : Int)])
        have s1 := Lib.hid (hs.out.after b1)
        have Ix : Hid (∀ w', SeesN w' a n K → Calls Tryd.prog 23 #[.slice a n c, .int .i64 (x : Int)] w' fun e w'' => e = .returned (.string (bs (txT (tm K x)))) ∧ Below w'.heap.size w' w'') := fun w' h => ih x hx (by omega) (by omega) w' h
        have Iy : Hid (∀ w', SeesN w' a n K → Calls Tryd.prog 23 #[.slice a n c, .int .i64 (y : Int)] w' fun e w'' => e = .returned (.string (bs (txT (tm K y)))) ∧ Below w'.heap.size w' w'') := fun w' h => ih y hy (by omega) (by omega) w' h
        clear ih et
        generalize bs (txT (tm K x)) = X at *
        generalize bs (txT (tm K y)) = Y at *
        have hX : X.size ≤ 2000 := by omega
        have hY : Y.size ≤ 2000 := by omega
        clear zx zy el
        go_enter Tryd.func23, Tryd.ntmps23
        go_wp2_with (first | (refine wpList_known rfl (at_refNodes hs.out hi rfl rfl rfl rfl _) ?_) | (refine wpList_known rfl (get_refNode hs.out hi rfl rfl) ?_))
        generalize w.heap.size = p at r1 ⊢
        generalize w.alloc (.cells #[.int .i64 2, .int .i64 (x : Int), .int .i64 (y : Int)] 43) = w1 at *
        have HC : Hid (RowC w1 p 43 #[.int .i64 2, .int .i64 (x : Int), .int .i64 (y : Int)] w1.drew) := ⟨(Below.refl _ _).drew, r1.out⟩
        have Kx : Hid (∀ w', RowC w1 p 43 #[.int .i64 2, .int .i64 (x : Int), .int .i64 (y : Int)] w' → Calls Tryd.prog 23 #[.slice a n c, .int .i64 (x : Int)] w' fun e w'' => e = .returned (.string X) ∧ RowC w1 p 43 #[.int .i64 2, .int .i64 (x : Int), .int .i64 (y : Int)] w'') := fun w' h => (Ix.out w' (s1.out.after h.1)).mono fun e w'' ⟨h1, h2⟩ => ⟨h1, RowC.after h2 h⟩
        have Ky : Hid (∀ w', RowC w1 p 43 #[.int .i64 2, .int .i64 (x : Int), .int .i64 (y : Int)] w' → Calls Tryd.prog 23 #[.slice a n c, .int .i64 (y : Int)] w' fun e w'' => e = .returned (.string Y) ∧ RowC w1 p 43 #[.int .i64 2, .int .i64 (x : Int), .int .i64 (y : Int)] w'') := fun w' h => (Iy.out w' (s1.out.after h.1)).mono fun e w'' ⟨h1, h2⟩ => ⟨h1, RowC.after h2 h⟩
        clear Ix Iy s1 r1
        refine wp_region_class (RowC w1 p 43 #[.int .i64 2, .int .i64 (x : Int), .int .i64 (y : Int)]) (by kernel_rfl) (by kernel_rfl) HC.out ?_
        go_big_quiet_want; go_big_quiet_op; go_big_quiet_on
        refine wpQuiet_val (by rfl) (.pointer (some ⟨p, 1, none⟩)) (fun w' _ => by (go_simp; try omega)) ?_
        simp only [Act.put, List.setIfInBounds_toArray, List.set_cons_succ, List.set_cons_zero]
        refine wpQuiet_val (by rfl) (.int .i64 (x : Int)) (fun w' hC => get_at (x := ⟨p, 1, none⟩) (by rw [cell_of_row w' p 1 _ _ (0, 0) hC.2]; rfl) rfl rfl) ?_
        simp only [Act.put, List.setIfInBounds_toArray, List.set_cons_succ, List.set_cons_zero]
        (go_big_quiet_want; go_big_quiet_op; apply Exists.intro; refine ⟨Kx.out, ?_⟩; go_big_quiet_on)
        refine wpQuiet_val (by rfl) (.string (⟨#[40]⟩ ++ X)) (fun w' _ => by (go_simp; try omega)) ?_
        simp only [Act.put, List.setIfInBounds_toArray, List.set_cons_succ, List.set_cons_zero]
        refine wpQuiet_val (by rfl) (.string ((⟨#[40]⟩ ++ X) ++ ⟨#[44]⟩)) (fun w' _ => by (go_simp; try omega)) ?_
        simp only [Act.put, List.setIfInBounds_toArray, List.set_cons_succ, List.set_cons_zero]
        go_big_quiet_want; go_big_quiet_op; go_big_quiet_on
        refine wpQuiet_val (by rfl) (.pointer (some ⟨p, 2, none⟩)) (fun w' _ => by (go_simp; try omega)) ?_
        simp only [Act.put, List.setIfInBounds_toArray, List.set_cons_succ, List.set_cons_zero]
        refine wpQuiet_val (by rfl) (.int .i64 (y : Int)) (fun w' hC => get_at (x := ⟨p, 2, none⟩) (by rw [cell_of_row w' p 2 _ _ (0, 0) hC.2]; rfl) rfl rfl) ?_
        simp only [Act.put, List.setIfInBounds_toArray, List.set_cons_succ, List.set_cons_zero]
        (go_big_quiet_want; go_big_quiet_op; apply Exists.intro; refine ⟨Ky.out, ?_⟩; go_big_quiet_on)
        refine wpQuiet_val (by rfl) (.string (((⟨#[40]⟩ ++ X) ++ ⟨#[44]⟩) ++ Y)) (fun w' _ => by (go_simp; try omega)) ?_
        simp only [Act.put, List.setIfInBounds_toArray, List.set_cons_succ, List.set_cons_zero]
        refine wpQuiet_val (by rfl) (.string ((((⟨#[40]⟩ ++ X) ++ ⟨#[44]⟩) ++ Y) ++ ⟨#[41]⟩)) (fun w' _ => by (go_simp; try omega)) ?_
        simp only [Act.put, List.setIfInBounds_toArray, List.set_cons_succ, List.set_cons_zero]
        go_big_quiet_want; go_big_quiet_op; go_big_quiet_on
        refine wpQuiet_nil ?_
        intro w9 hC9
        have b9 := b1.trans (hC9.1.mono b1.size)
        clear hC9 HC Kx Ky
        go_wp2
        go_ret
        exact ⟨rfl, b9⟩
      · have et := tm_lock hK.out hi h0 hx hy e1 e2
        have el : lnT (tm K i) = 2 + lnT (tm K x) + lnT (tm K y) := by rw [et, lnT_lock]
        have ex : bs (txT (tm K i)) = (((⟨#[123]⟩ ++ bs (txT (tm K y))) ++ ⟨#[125]⟩) ++ bs (txT (tm K x))) := by rw [et]; simp only [show (⟨#[123]⟩ : ByteArray) = bs [123] from rfl, show (⟨#[125]⟩ : ByteArray) = bs [125] from rfl, bs_two]; simp [txT]
        rw [ex]
        clear ex
        have zx : (bs (txT (tm K x))).size = lnT (tm K x) := bs_size' _
        have zy : (bs (txT (tm K y))).size = lnT (tm K y) := bs_size' _
        have b1 : Below w.heap.size w (w.alloc (.cells #[.int .i64 3, .int .i64 (x : Int), .int .i64 (y : Int)] 43)) := (Below.refl _ _).alloc (Nat.le_refl _) _
        have r1 := Lib.hid (RowAt.new w 43 #[.int .i64 3, .int .i64 (x : Int), .int .i64 (y : Int)])
        have s1 := Lib.hid (hs.out.after b1)
        have Ix : Hid (∀ w', SeesN w' a n K → Calls Tryd.prog 23 #[.slice a n c, .int .i64 (x : Int)] w' fun e w'' => e = .returned (.string (bs (txT (tm K x)))) ∧ Below w'.heap.size w' w'') := fun w' h => ih x hx (by omega) (by omega) w' h
        have Iy : Hid (∀ w', SeesN w' a n K → Calls Tryd.prog 23 #[.slice a n c, .int .i64 (y : Int)] w' fun e w'' => e = .returned (.string (bs (txT (tm K y)))) ∧ Below w'.heap.size w' w'') := fun w' h => ih y hy (by omega) (by omega) w' h
        clear ih et
        generalize bs (txT (tm K x)) = X at *
        generalize bs (txT (tm K y)) = Y at *
        have hX : X.size ≤ 2000 := by omega
        have hY : Y.size ≤ 2000 := by omega
        clear zx zy el
        go_enter Tryd.func23, Tryd.ntmps23
        go_wp2_with (first | (refine wpList_known rfl (at_refNodes hs.out hi rfl rfl rfl rfl _) ?_) | (refine wpList_known rfl (get_refNode hs.out hi rfl rfl) ?_))
        generalize w.heap.size = p at r1 ⊢
        generalize w.alloc (.cells #[.int .i64 3, .int .i64 (x : Int), .int .i64 (y : Int)] 43) = w1 at *
        have HC : Hid (RowC w1 p 43 #[.int .i64 3, .int .i64 (x : Int), .int .i64 (y : Int)] w1.drew) := ⟨(Below.refl _ _).drew, r1.out⟩
        have Kx : Hid (∀ w', RowC w1 p 43 #[.int .i64 3, .int .i64 (x : Int), .int .i64 (y : Int)] w' → Calls Tryd.prog 23 #[.slice a n c, .int .i64 (x : Int)] w' fun e w'' => e = .returned (.string X) ∧ RowC w1 p 43 #[.int .i64 3, .int .i64 (x : Int), .int .i64 (y : Int)] w'') := fun w' h => (Ix.out w' (s1.out.after h.1)).mono fun e w'' ⟨h1, h2⟩ => ⟨h1, RowC.after h2 h⟩
        have Ky : Hid (∀ w', RowC w1 p 43 #[.int .i64 3, .int .i64 (x : Int), .int .i64 (y : Int)] w' → Calls Tryd.prog 23 #[.slice a n c, .int .i64 (y : Int)] w' fun e w'' => e = .returned (.string Y) ∧ RowC w1 p 43 #[.int .i64 3, .int .i64 (x : Int), .int .i64 (y : Int)] w'') := fun w' h => (Iy.out w' (s1.out.after h.1)).mono fun e w'' ⟨h1, h2⟩ => ⟨h1, RowC.after h2 h⟩
        clear Ix Iy s1 r1
        refine wp_region_class (RowC w1 p 43 #[.int .i64 3, .int .i64 (x : Int), .int .i64 (y : Int)]) (by kernel_rfl) (by kernel_rfl) HC.out ?_
        go_big_quiet_want; go_big_quiet_op; go_big_quiet_on
        refine wpQuiet_val (by rfl) (.pointer (some ⟨p, 2, none⟩)) (fun w' _ => by (go_simp; try omega)) ?_
        simp only [Act.put, List.setIfInBounds_toArray, List.set_cons_succ, List.set_cons_zero]
        refine wpQuiet_val (by rfl) (.int .i64 (y : Int)) (fun w' hC => get_at (x := ⟨p, 2, none⟩) (by rw [cell_of_row w' p 2 _ _ (0, 0) hC.2]; rfl) rfl rfl) ?_
        simp only [Act.put, List.setIfInBounds_toArray, List.set_cons_succ, List.set_cons_zero]
        (go_big_quiet_want; go_big_quiet_op; apply Exists.intro; refine ⟨Ky.out, ?_⟩; go_big_quiet_on)
        refine wpQuiet_val (by rfl) (.string (⟨#[123]⟩ ++ Y)) (fun w' _ => by (go_simp; try omega)) ?_
        simp only [Act.put, List.setIfInBounds_toArray, List.set_cons_succ, List.set_cons_zero]
        refine wpQuiet_val (by rfl) (.string ((⟨#[123]⟩ ++ Y) ++ ⟨#[125]⟩)) (fun w' _ => by (go_simp; try omega)) ?_
        simp only [Act.put, List.setIfInBounds_toArray, List.set_cons_succ, List.set_cons_zero]
        go_big_quiet_want; go_big_quiet_op; go_big_quiet_on
        refine wpQuiet_val (by rfl) (.pointer (some ⟨p, 1, none⟩)) (fun w' _ => by (go_simp; try omega)) ?_
        simp only [Act.put, List.setIfInBounds_toArray, List.set_cons_succ, List.set_cons_zero]
        refine wpQuiet_val (by rfl) (.int .i64 (x : Int)) (fun w' hC => get_at (x := ⟨p, 1, none⟩) (by rw [cell_of_row w' p 1 _ _ (0, 0) hC.2]; rfl) rfl rfl) ?_
        simp only [Act.put, List.setIfInBounds_toArray, List.set_cons_succ, List.set_cons_zero]
        (go_big_quiet_want; go_big_quiet_op; apply Exists.intro; refine ⟨Kx.out, ?_⟩; go_big_quiet_on)
        refine wpQuiet_val (by rfl) (.string (((⟨#[123]⟩ ++ Y) ++ ⟨#[125]⟩) ++ X)) (fun w' _ => by (go_simp; try omega)) ?_
        simp only [Act.put, List.setIfInBounds_toArray, List.set_cons_succ, List.set_cons_zero]
        go_big_quiet_want; go_big_quiet_op; go_big_quiet_on
        refine wpQuiet_nil ?_
        intro w9 hC9
        have b9 := b1.trans (hC9.1.mono b1.size)
        clear hC9 HC Kx Ky
        go_wp2
        go_ret
        exact ⟨rfl, b9⟩

set_option maxHeartbeats 2000000 in
set_option maxRecDepth 8000 in
theorem refText_any (K : Nds) (n : Nat) (i : Int) (a : Option Addr) (c : Nat) (w : World) (hs : Hid (SeesN w a n K)) :
    Calls Tryd.prog 12 #[.slice a n c, .int .i64 i] w fun e w' => e = .returned (.string (textV K n i)) ∧ Below w.heap.size w w' := by
  have Z := Lib.hid (refSize_any K n i a c w hs)
  by_cases h0 : sizeV K n i = 0
  · rw [textV_no (.inl h0)]
    rw [h0] at Z
    go_enter Tryd.func12, Tryd.ntmps12
    go_wp2_with fail
    refine Z.out.mono ?_
    rintro e w1 ⟨rfl, hb⟩
    go_wp2
    go_ret
    exact ⟨rfl, hb⟩
  · by_cases h1 : 2000 < sizeV K n i
    · rw [textV_no (.inr h1)]
      generalize sizeV K n i = z at *
      have d0 : ((z : Int) == 0) = false := beq_ff (by omega)
      have d1 : (2000 : Int) < (z : Int) := by omega
      go_enter Tryd.func12, Tryd.ntmps12
      go_wp2_with fail
      refine Z.out.mono ?_
      rintro e w1 ⟨rfl, hb⟩
      go_wp2
      go_ret
      exact ⟨rfl, hb⟩
    · obtain ⟨j, hj, rfl, hn, hK, et, el⟩ := textV_yes h0 (by omega)
      rw [et]
      clear et
      generalize sizeV K n j = z at *
      have d0 : ((z : Int) == 0) = false := beq_ff (by omega)
      have d1 : ¬ (2000 : Int) < (z : Int) := by omega
      replace hK := Lib.hid hK
      have A := Lib.hid (fun w' h => refText_in K n hn hK a c j hj (by omega) w' h)
      replace el := Lib.hid el
      generalize bs (txT (tm K j)) = tx at *
      go_enter Tryd.func12, Tryd.ntmps12
      go_wp2_with fail
      refine Z.out.mono ?_
      rintro e w1 ⟨rfl, hb⟩
      clear Z
      go_wp2_with fail
      refine (A.out w1 (hs.out.after hb)).mono ?_
      rintro e w2 ⟨rfl, hb2⟩
      have b3 := hb.trans (hb2.mono hb.size)
      clear A hb hb2
      go_wp2
      go_ret
      exact ⟨rfl, b3⟩

end Go.Proofs.YtlfgiggeeoegjaaDoor
