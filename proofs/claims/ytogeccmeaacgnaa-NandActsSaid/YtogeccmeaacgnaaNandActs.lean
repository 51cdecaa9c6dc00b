/-
  The walk of NandActs.
-/
import Derived.Test.YtogeccmeaacgnaaNandBoth
import Derived.Test.YtogeccmeaacgnaaNandActsOpen
import Derived.Test.YtogeccmeaacgnaaWfInt
namespace Go.Proofs.Ytogeccmeaacgnaa
open Go.RowKit
set_option linter.unusedVariables false

theorem el_acts : Try.prog.elem 23 = 40 := by kernel_rfl
theorem sz_act : (Try.prog.info? 40).map (·.size) = some 7 := by kernel_rfl
def actC (X : Acts) (i : Nat) : Array Value := #[.int .i64 (X.z i 0), .int .i64 (X.z i 1), .int .i64 (X.z i 2), .int .i64 (X.z i 3), .int .i64 (X.z i 4), .int .u8 (X.b i : Nat), .string (X.s i)]
theorem at_act {w0 : World} {al : Option Addr} {N c q : Nat} {F : Nat → Value} (h : SeesV w0 al (N * 7) F) (hq : q < N) {o : Oper} {a : Act} {x y : Operand} (ho : o.op = .indexAddr 23 x y) (hx : a.eval x = .slice al N c) {z : Int} (hy : a.eval y = .int .i64 z) (hz : z = (q : Int)) (w : World) :
    (execOp a.eval o).run Try.prog w = .ok (.value (.pointer (some (elV al (q * 7))))) w := run_index_v Try.underlying23 el_acts sz_act h (by decide) hq ho hx hy hz w
theorem load_act {w : World} {al : Option Addr} {N q : Nat} {X : Acts} (h : SeesV w al (N * 7) (actV X)) (hq : q < N) {o : Oper} {a : Act} {x : Operand} (ho : o.op = .load 40 x) (hx : a.eval x = .pointer (some (elV al (q * 7)))) :
    (execOp a.eval o).run Try.prog w = .ok (.value (.agg (actC X q))) w :=
  run_load_many (k := 7) [.int .i64 (X.z q 0), .int .i64 (X.z q 1), .int .i64 (X.z q 2), .int .i64 (X.z q 3), .int .i64 (X.z q 4), .int .u8 (X.b q : Nat), .string (X.s q)] rfl (show 0 < 7 by decide) (fun x v hx => by
    have e1 : ∀ y, y < 7 → (q * 7 + y) / 7 = q ∧ (q * 7 + y) % 7 = y := fun y hy => ⟨by omega, by omega⟩
    unfold actV
    match x with
    | 0 =>
      have e : v = .int .i64 (X.z q 0) := by simpa using hx.symm
      obtain ⟨e2, e3⟩ := e1 0 (by decide)
      rw [e, e2, e3]
      rfl
    | 1 =>
      have e : v = .int .i64 (X.z q 1) := by simpa using hx.symm
      obtain ⟨e2, e3⟩ := e1 1 (by decide)
      rw [e, e2, e3]
      rfl
    | 2 =>
      have e : v = .int .i64 (X.z q 2) := by simpa using hx.symm
      obtain ⟨e2, e3⟩ := e1 2 (by decide)
      rw [e, e2, e3]
      rfl
    | 3 =>
      have e : v = .int .i64 (X.z q 3) := by simpa using hx.symm
      obtain ⟨e2, e3⟩ := e1 3 (by decide)
      rw [e, e2, e3]
      rfl
    | 4 =>
      have e : v = .int .i64 (X.z q 4) := by simpa using hx.symm
      obtain ⟨e2, e3⟩ := e1 4 (by decide)
      rw [e, e2, e3]
      rfl
    | 5 =>
      have e : v = .int .u8 (X.b q : Nat) := by simpa using hx.symm
      obtain ⟨e2, e3⟩ := e1 5 (by decide)
      rw [e, e2, e3]
      rfl
    | 6 =>
      have e : v = .string (X.s q) := by simpa using hx.symm
      obtain ⟨e2, e3⟩ := e1 6 (by decide)
      rw [e, e2, e3]
      rfl
    | x + 7 => simp at hx) h hq Try.underlying40 rfl sz_act ho hx
set_option maxHeartbeats 400000 in
theorem same10_any (a b : Option Addr) (c d : Nat) (l : List ByteArray) (hl : l.length ≤ 1000000) (w : World) (ha : Hid (SeesV w a l.length (lstS l))) (hb : Hid (SeesV w b l.length (lstS l))) :
    Calls Try.prog 28 #[.slice a l.length c, .slice b l.length d] w fun e w' => e = .returned (.bool true) ∧ Below w.heap.size w w' := by
  go_enter Try.func28, Try.ntmps28
  go_wp2
  go_loopw [5] (fun i wr => ∃ j : Nat, j ≤ l.length ∧ i = .int .i64 j ∧ Below w.heap.size w wr) (fun i _ => l.length - (intOf i).toNat)
  case atStart => exact ⟨0, by omega, rfl, Below.refl _ _⟩
  case round =>
    obtain ⟨j, hj, rfl, hbl⟩ := hrel
    by_cases hlt : j < l.length
    · obtain ⟨ad, ea, hadb, hca⟩ := ha.out.after hbl j hlt
      obtain ⟨bd, eb, hbdb, hcb⟩ := hb.out.after hbl j hlt
      subst ea
      subst eb
      unfold lstS at hca hcb
      generalize l.getD j ⟨#[]⟩ = s at hca hcb
      have j0 : (0 : Int) ≤ (j : Int) := by omega
      have j1 : (j : Int) < (l.length : Int) := by omega
      go_wp2
      go_quiet (fail)
      go_wp2
      go_roundw
      case rel => exact ⟨j + 1, by omega, by go_num, hbl.trans ⟨rfl, rfl, rfl, Nat.le_refl _, fun _ _ => rfl⟩⟩
      case measure => simp [intOf]; omega
    · go_wp2
      go_ret
      exact ⟨rfl, hbl⟩
theorem below_drewN' {B : Nat} {w w' : World} (h : Below B w w') (n : Nat) : Below B w (w'.drewN n) := h.trans ⟨rfl, rfl, rfl, Nat.le_refl _, fun _ _ => rfl⟩
/-- A slice that shows these texts. -/
def histv (l : List ByteArray) : Pred := fun v w => ∃ a c, v = .slice a l.length c ∧ SeesV w a l.length (lstS l)
theorem steady_histv (l : List ByteArray) : ∀ v w w', Below w.heap.size w w' → histv l v w → histv l v w' := fun v w w' hb ⟨a, c, h1, h2⟩ => ⟨a, c, h1, h2.after hb⟩
theorem not_same (b : Bool) : (b == !b) = false := by cases b <;> rfl
theorem readV_form (n m : Nat) (S : St) (z y : Int) : ∃ rs rb re, readV n m S z y = #[.string rs, .bool rb, .int .i64 re] := by
  unfold readV
  split
  · exact ⟨_, _, _, rfl⟩
  split
  · exact ⟨_, _, _, rfl⟩
  · exact ⟨_, _, _, rfl⟩
def cutS (S : St) : St := { S with up := false }
def onS' (S : St) : St := { S with up := true, left := 0 }
def fuseS (S : St) (N : Int) (K J : Nat) : St := { S with left := N, keep := K, junk := J }
theorem ref_p4 (n m : Nat) (S S' : St) (M : Mem) (i : Nat) (v : Value) (hi : i < 4) (hp : ∀ j, j < 4 → (if j = i then v else pwF S j) = pwF S' j) (hr : ∀ j, 4 ≤ j → refF n m S M j = refF n m S' M j) : ∀ j, j < 139 → (if j = i then v else refF n m S M j) = refF n m S' M j := fun j _ => by
  by_cases c : j < 4
  · have h1 := hp j c
    have e1 : refF n m S M j = pwF S j := by unfold refF; rw [if_pos c]
    have e2 : refF n m S' M j = pwF S' j := by unfold refF; rw [if_pos c]
    rw [e1, e2]
    exact h1
  · rw [if_neg (by omega)]
    exact hr j (by omega)
theorem ref_rest {n m : Nat} {S S' : St} {M : Mem} (h1 : S.rated = S'.rated) (h2 : S.bad = S'.bad) (h3 : S.wear = S'.wear) (h4 : S.hist = S'.hist) (h5 : S.progs = S'.progs) (h6 : S.erases = S'.erases) : ∀ j, 4 ≤ j → refF n m S M j = refF n m S' M j := fun j hj => by
  unfold refF
  rw [if_neg (show ¬ j < 4 by omega), if_neg (show ¬ j < 4 by omega), h1, h2, h3, h4, h5, h6]
theorem ref_off (n m : Nat) (S : St) (M : Mem) : ∀ j, j < 139 → (if j = 0 then .bool true else refF n m S M j) = refF n m (cutS S) M j :=
  ref_p4 n m S (cutS S) M 0 (.bool true) (by decide) (fun j hj => by
    match j, hj with
    | 0, _ => rfl
    | 1, _ => rfl
    | 2, _ => rfl
    | 3, _ => rfl) (ref_rest rfl rfl rfl rfl rfl rfl)
theorem ref_on0 (n m : Nat) (S : St) (M : Mem) : ∀ j, j < 139 → (if j = 0 then .bool false else refF n m S M j) = refF n m { S with up := true } M j :=
  ref_p4 n m S { S with up := true } M 0 (.bool false) (by decide) (fun j hj => by
    match j, hj with
    | 0, _ => rfl
    | 1, _ => rfl
    | 2, _ => rfl
    | 3, _ => rfl) (ref_rest rfl rfl rfl rfl rfl rfl)
theorem ref_on1 (n m : Nat) (S : St) (M : Mem) : ∀ j, j < 139 → (if j = 1 then .int .i64 0 else refF n m { S with up := true } M j) = refF n m (onS' S) M j :=
  ref_p4 n m { S with up := true } (onS' S) M 1 (.int .i64 0) (by decide) (fun j hj => by
    match j, hj with
    | 0, _ => rfl
    | 1, _ => rfl
    | 2, _ => rfl
    | 3, _ => rfl) (ref_rest rfl rfl rfl rfl rfl rfl)
theorem LowT.cut {S : St} {t : Nat} (h : LowT S t) : LowT (cutS S) (t + 1) := ⟨Nat.le_succ_of_le h.progs, Nat.le_succ_of_le h.erases, fun i => Nat.le_succ_of_le (h.wear i), Nat.le_succ_of_le h.hist, by
  have := h.lo
  show -((t + 1 : Nat) : Int) ≤ S.left
  omega, h.hi⟩
theorem LowT.on {S : St} {t : Nat} (h : LowT S t) : LowT (onS' S) (t + 1) := ⟨Nat.le_succ_of_le h.progs, Nat.le_succ_of_le h.erases, fun i => Nat.le_succ_of_le (h.wear i), Nat.le_succ_of_le h.hist, by
  show -((t + 1 : Nat) : Int) ≤ 0
  omega, by show (0 : Int) < _; decide⟩
theorem LowT.fuse {S : St} {t : Nat} (h : LowT S t) {N : Int} (h0 : 0 ≤ N) (h1 : N < 9223372036854775808) (K J : Nat) : LowT (fuseS S N K J) (t + 1) := ⟨Nat.le_succ_of_le h.progs, Nat.le_succ_of_le h.erases, fun i => Nat.le_succ_of_le (h.wear i), Nat.le_succ_of_le h.hist, by
  show -((t + 1 : Nat) : Int) ≤ N
  omega, h1⟩

set_option maxHeartbeats 16000000 in
set_option maxRecDepth 8000 in
theorem acts_long1 (n m r : Int) (a : Option Addr) (nb cb : Nat) (al : Option Addr) (nl cl : Nat) (w : World) (h : (120 : Int) < (nl : Int)) :
    Calls Try.prog 3 #[.int .i64 n, .int .i64 m, .int .i64 r, .slice a nb cb, .slice al nl cl] w fun e w' => e = .returned (.bool true) ∧ Below w.heap.size w w' := by
  have SH : Hid (∀ w', _) := fun w' => shown10_any w'
  go_enter Try.func3, Try.ntmps3
  go_wp2_with fail
  refine (SH.out w).mono ?_
  rintro e w1 ⟨rfl, b1⟩
  go_wp2
  go_ret
  exact ⟨rfl, b1⟩

set_option maxHeartbeats 16000000 in
set_option maxRecDepth 8000 in
theorem acts_long2 (n m r : Int) (a : Option Addr) (nb cb : Nat) (al : Option Addr) (nl cl : Nat) (w : World) (h : ¬ (120 : Int) < (nl : Int)) (h2 : (70 : Int) < (nb : Int)) :
    Calls Try.prog 3 #[.int .i64 n, .int .i64 m, .int .i64 r, .slice a nb cb, .slice al nl cl] w fun e w' => e = .returned (.bool true) ∧ Below w.heap.size w w' := by
  have SH : Hid (∀ w', _) := fun w' => shown10_any w'
  go_enter Try.func3, Try.ntmps3
  go_wp2_with fail
  refine (SH.out w).mono ?_
  rintro e w1 ⟨rfl, b1⟩
  go_wp2
  go_ret
  exact ⟨rfl, b1⟩

set_option maxHeartbeats 16000000 in
set_option maxRecDepth 8000 in
theorem acts_no (n m r : Int) (a : Option Addr) (nb cb : Nat) (al : Option Addr) (nl cl : Nat) (w : World) (h : ¬ (120 : Int) < (nl : Int)) (h2 : ¬ (70 : Int) < (nb : Int)) (hn : newB n m r = false) :
    Calls Try.prog 3 #[.int .i64 n, .int .i64 m, .int .i64 r, .slice a nb cb, .slice al nl cl] w fun e w' => e = .returned (.bool true) ∧ Below w.heap.size w w' := by
  have SH : Hid (∀ w', _) := fun w' => shown10_any w'
  have NP : Hid (∀ w', _) := fun w' => newPower_any w'
  go_enter Try.func3, Try.ntmps3
  go_wp2_with fail
  refine (SH.out w).mono ?_
  rintro e w1 ⟨rfl, b1⟩
  go_wp2_with fail
  refine (NP.out w1).mono ?_
  rintro e w2 ⟨rfl, r2, b2⟩
  have b3 := b1.trans (b2.mono b1.size)
  have NW := Lib.hid (new_no w2 w1.heap.size n m r (.slice a nb cb) hn)
  have RN : Hid (∀ w', _) := fun w' => refNew_no n m r a nb cb w' hn
  clear SH NP r2 b1 b2
  go_wp2_with fail
  refine NW.out.mono ?_
  rintro e w3 ⟨rfl, rfl⟩
  go_wp2_with fail
  refine (RN.out w3).mono ?_
  rintro e w4 ⟨rfl, b4⟩
  have b5 := b3.trans (b4.mono b3.size)
  clear NW RN b3 b4
  have r6 := Lib.hid (RowAt.new w4 36 (rowOf 139 (refF 0 0 noneS noneM)))
  have b6 := b5.alloc b5.size (.cells (rowOf 139 (refF 0 0 noneS noneM)) 36)
  go_wp2_with (first | (refine wpList_new rfl (run_allocChip rfl _) ?_; generalize w4.alloc (.cells (rowOf 139 (refF 0 0 noneS noneM)) 36) = w5 at *) | (refine wpList_store_row rfl 36 _ _ rfl w4.heap.size (rowOf 139 (refF 0 0 noneS noneM)) rfl rfl 36 (rowOf 139 (refF 0 0 noneS noneM)) r6.out (infoChip _) rfl (refF_all _ _ _ _) ?_))
  go_ret
  exact ⟨rfl, below_setRow' b6 b5.size _⟩

set_option maxHeartbeats 16000000 in
set_option maxRecDepth 8000 in
theorem acts_yes (n m : Nat) (r : Int) (a : Option Addr) (nb cb : Nat) (f : Nat → Int) (al : Option Addr) (nl cl : Nat) (X : Acts) (w : World) (hf : Hid (SeesZ w a nb f)) (ha : Hid (SeesV w al (nl * 7) (actV X))) (hX : (∀ i j, i < nl → j < 5 → (Lit.int .i64 (X.z i j)).wf = true) ∧ ∀ i, i < nl → X.b i < 256) (hl : nl ≤ 120) (hb : nb ≤ 70) (n1 : 1 ≤ n) (n2 : n ≤ 64) (m1 : 1 ≤ m) (m2 : m ≤ 16) (hr : 0 ≤ r) :
    Calls Try.prog 3 #[.int .i64 (n : Nat), .int .i64 (m : Nat), .int .i64 r, .slice a nb cb, .slice al nl cl] w fun e w' => e = .returned (.bool true) ∧ Below w.heap.size w w' := by
  have SH : Hid (∀ w', _) := fun w' => shown10_any w'
  have NP : Hid (∀ w', _) := fun w' => newPower_any w'
  have l1 : ¬ (120 : Int) < (nl : Int) := by omega
  have l2 : ¬ (70 : Int) < (nb : Int) := by omega
  go_enter Try.func3, Try.ntmps3
  go_wp2_with fail
  refine (SH.out w).mono ?_
  rintro e w1 ⟨rfl, b1⟩
  go_wp2_with fail
  refine (NP.out w1).mono ?_
  rintro e w2 ⟨rfl, r2, b2⟩
  have b3 := b1.trans (b2.mono b1.size)
  have NW := Lib.hid (new_yes w.heap.size w1.heap.size n m r true 0 0 0 a nb cb f w2 r2 (hf.out.after b3) b1.size (Lib.hid (by decide)) (Lib.hid (by decide)) n1 n2 m1 m2 hr (by omega))
  clear NP r2 b1 b2
  go_wp2_with fail
  refine NW.out.mono ?_
  rintro e w3 ⟨L, rfl, hpp, hLn, hLm, h3, bn⟩
  have b4 := b3.trans (bn.mono b3.size)
  have RN := Lib.hid (refNew_yes n m r a nb cb f w3 (hf.out.after b4) n1 n2 m1 m2 hr (by omega))
  clear NW b3 bn
  go_wp2_with fail
  refine RN.out.mono ?_
  rintro e w4 ⟨M0, rfl, rc4, b5', al4, ap4⟩
  have h4 := Lib.hid (h3.out.after b5')
  have b5 := b4.trans (b5'.mono b4.size)
  have hpp' := Lib.hid hpp
  subst hLn
  subst hLm
  obtain ⟨S0, hS0⟩ : ∃ S0, newS true 0 0 0 r (badN L.n f nb) = S0 := ⟨_, rfl⟩
  rw [hS0] at h3 h4 rc4
  rw [hS0]
  have low0 : Hid (LowT S0 0) := by
    subst hS0
    exact ⟨Nat.le_refl _, Nat.le_refl _, fun _ => Nat.le_refl _, Nat.le_refl _, Int.le_refl _, by show (0 : Int) < _; decide⟩
  have r6 := Lib.hid (RowAt.new w4 36 (rowOf 139 (refF 0 0 noneS noneM)))
  have r7 := Lib.hid (r6.out.setRow (rowOf 139 (refF L.n L.m S0 M0)))
  have b6 := b5.alloc b5.size (.cells (rowOf 139 (refF 0 0 noneS noneM)) 36)
  have bA : Below w4.heap.size w4 ((w4.alloc (.cells (rowOf 139 (refF 0 0 noneS noneM)) 36)).setRow w4.heap.size (rowOf 139 (refF L.n L.m S0 M0))) := below_setRow' ((Below.refl _ _).alloc (Nat.le_refl _) _) (Nat.le_refl _) _
  have b7 := below_setRow' b6 b5.size (rowOf 139 (refF L.n L.m S0 M0))
  have bo0 : Hid (Both w.heap.size ((w4.alloc (.cells (rowOf 139 (refF 0 0 noneS noneM)) 36)).setRow w4.heap.size (rowOf 139 (refF L.n L.m S0 M0))) L S0 (.slice none 0 0) w4.heap.size S0 M0) := by
    refine ⟨h4.out.after bA, r7.out, rc4.out.after bA, b5.size, fun ad e => ?_, fun ad e => by rw [ap4] at e; cases e⟩
    obtain ⟨h8, h9⟩ := al4 ad e
    refine ⟨Nat.lt_of_lt_of_le h9 bA.size, fun hf => ?_, by omega⟩
    have := (h3.out.base _ hf).2
    omega
  clear RN h3 h4 rc4 al4 ap4 b5' b4 hS0 hr bA hpp
  go_wp2_with (first | (refine wpList_new rfl (run_allocChip rfl _) ?_; generalize w4.alloc (.cells (rowOf 139 (refF 0 0 noneS noneM)) 36) = w5 at *) | (refine wpList_store_row rfl 36 _ _ rfl w4.heap.size (rowOf 139 (refF L.n L.m S0 M0)) rfl rfl 36 (rowOf 139 (refF 0 0 noneS noneM)) r6.out (infoChip _) (by rw [rowOf_size, rowOf_size]) (refF_all _ _ _ _) ?_; generalize w5.setRow w4.heap.size (rowOf 139 (refF L.n L.m S0 M0)) = w6 at *))
  clear r6 r7 b6 b5
  generalize w4.heap.size = rp at *
  replace n1 := Lib.hid n1
  replace n2 := Lib.hid n2
  replace m1 := Lib.hid m1
  replace m2 := Lib.hid m2
  replace hX := Lib.hid hX
  go_loopw [15] (fun v wr => ∃ (i : Nat) (S : St) (hv : Value) (M : Mem), i ≤ nl ∧ v = .int .i64 (i : Int) ∧ Hid (Both w.heap.size wr L S hv rp S M) ∧ Hid (LowT S i) ∧ Below w.heap.size w wr) (fun v _ => nl - (intOf v).toNat)
  case atStart => exact ⟨0, S0, _, M0, Nat.zero_le _, rfl, bo0, low0, b7⟩
  case round =>
    clear bo0 low0 b7
    obtain ⟨i, S, hv, M, hi, rfl, bo, low, hb⟩ := hrel
    by_cases hlt : i < nl
    · have lt : (i : Int) < (nl : Int) := by omega
      have i6 : i ≤ 120 := by omega
      have sa := Lib.hid (ha.out.after hb)
      have hx0 := hX.out.1 i 0 hlt (by decide)
      have hx3 := hX.out.1 i 3 hlt (by decide)
      have hx4 := hX.out.1 i 4 hlt (by decide)
      have hxb := hX.out.2 i hlt
      have rX := Lib.hid (RowAt.new wr 40 (actC X i))
      have bX : Below wr.heap.size wr (wr.alloc (.cells (actC X i) 40)) := (Below.refl _ _).alloc (Nat.le_refl _) _
      have boX := Lib.hid (bo.out.after bX)
      have hbX := hb.trans (bX.mono hb.size)
      have r0 : RowAt (wr.alloc (.cells #[.int .i64 0, .int .i64 0, .int .i64 0, .int .i64 0, .int .i64 0, .int .u8 0, .string ⟨#[]⟩] 40)) wr.heap.size 40 #[.int .i64 0, .int .i64 0, .int .i64 0, .int .i64 0, .int .i64 0, .int .u8 0, .string ⟨#[]⟩] := RowAt.new _ _ _
      have q1 : (Try.prog.info? 40).map (·.size) = some (actC X i).size := by kernel_rfl
      have q2 : (#[.int .i64 0, .int .i64 0, .int .i64 0, .int .i64 0, .int .i64 0, .int .u8 0, .string ⟨#[]⟩] : Array Value).size = (actC X i).size := rfl
      have q3 : (actC X i).all (·.oneCell') = true := by kernel_rfl
      replace q1 := Lib.hid q1
      replace q2 := Lib.hid q2
      replace q3 := Lib.hid q3
      have lw := Lib.hid (low.out.low (by omega))
      have hlt' := Lib.hid hlt
      clear hb bo bX hlt
      by_cases hs3 : (300 : Int) < ((X.s i).size : Int)
      · go_wp2_with (first | (refine wpList_known rfl (at_act sa.out hlt'.out rfl rfl rfl rfl _) ?_) | (refine wpList_known rfl (load_act sa.out hlt'.out rfl rfl) ?_) | (refine wpList_store_row rfl 40 _ _ rfl wr.heap.size (actC X i) rfl rfl 40 #[.int .i64 0, .int .i64 0, .int .i64 0, .int .i64 0, .int .i64 0, .int .u8 0, .string ⟨#[]⟩] r0 q1.out q2.out q3.out ?_; refine Hid.out ?_))
        unfold Hid
        rw [World.setRow_alloc_new]
        generalize hwx : wr.alloc (.cells (actC X i) 40) = wx at *
        have c6 := cell_of_row wx _ 6 _ _ _ rX.out
        change wx.cell? _ = some (.string (X.s i)) at c6
        clear r0 sa hwx rX
        go_wp2_with fail
        refine (SH.out wx).mono ?_
        rintro e wy ⟨rfl, by1⟩
        have hby := hbX.trans (by1.mono hbX.size)
        go_wp2
        go_ret
        exact ⟨rfl, hby⟩
      · clear SH
        go_wp2_with (first | (refine wpList_known rfl (at_act sa.out hlt'.out rfl rfl rfl rfl _) ?_) | (refine wpList_known rfl (load_act sa.out hlt'.out rfl rfl) ?_) | (refine wpList_store_row rfl 40 _ _ rfl wr.heap.size (actC X i) rfl rfl 40 #[.int .i64 0, .int .i64 0, .int .i64 0, .int .i64 0, .int .i64 0, .int .u8 0, .string ⟨#[]⟩] r0 q1.out q2.out q3.out ?_; refine Hid.out ?_))
        unfold Hid
        rw [World.setRow_alloc_new]
        generalize hwx : wr.alloc (.cells (actC X i) 40) = wx at *
        clear r0 sa hwx q1 q2 q3
        have c0 := cell_of_row wx _ 0 _ _ _ rX.out
        have c1 := cell_of_row wx _ 1 _ _ _ rX.out
        have c2 := cell_of_row wx _ 2 _ _ _ rX.out
        have c3 := cell_of_row wx _ 3 _ _ _ rX.out
        have c4 := cell_of_row wx _ 4 _ _ _ rX.out
        have c5 := cell_of_row wx _ 5 _ _ _ rX.out
        have c6 := cell_of_row wx _ 6 _ _ _ rX.out
        change wx.cell? _ = some (.int .i64 (X.z i 0)) at c0
        change wx.cell? _ = some (.int .i64 (X.z i 1)) at c1
        change wx.cell? _ = some (.int .i64 (X.z i 2)) at c2
        change wx.cell? _ = some (.int .i64 (X.z i 3)) at c3
        change wx.cell? _ = some (.int .i64 (X.z i 4)) at c4
        change wx.cell? _ = some (.int .u8 (X.b i : Nat)) at c5
        change wx.cell? _ = some (.string (X.s i)) at c6
        unfold actC at rX
        generalize X.z i 0 = kd at *
        generalize X.z i 1 = sg at *
        generalize X.z i 2 = pg at *
        generalize X.z i 3 = fn at *
        generalize X.z i 4 = kp at *
        generalize X.b i = jk at *
        generalize X.s i = st at *
        obtain ⟨xp, hxp⟩ : ∃ xp, wr.heap.size = xp := ⟨_, rfl⟩
        rw [hxp] at rX c0 c1 c2 c3 c4 c5 c6
        rw [hxp]
        clear hxp hlt'
        by_cases k0 : kd = 0
        · subst k0
          as_aux_lemma =>
            have P1 := Lib.hid (prog_any w.heap.size wx L S hv boX.out.ch sg pg st lw.out)
            have low2 := Lib.hid (low.out.prog L.n L.m sg pg st)
            go_wp2_with fail
            refine P1.out.mono ?_
            rintro e wy ⟨rfl, hv2, ch2, g2⟩
            have bo2 := Lib.hid (boX.out.chip ch2.out g2)
            have hb2 := hbX.trans (g2.under boX.out.ch hbX.size)
            have x1 : Hid (RowAt wy xp 40 _) := rX.out.beside g2.side (fun hf => by
              rcases hf with h1 | h1 | h1 | ⟨y, hy, h1⟩ | h1
              · exact boX.out.ch.pow.apart rX.out (by decide) h1.symm
              · exact boX.out.ch.chip.apart rX.out (by decide) h1.symm
              · exact boX.out.ch.segs.apart rX.out (by decide) h1.symm
              · exact (boX.out.ch.pages y hy).apart rX.out (by decide) h1.symm
              · exact rX.out.not_own boX.out.ch.hist (by decide) h1)
            have c1 := cell_of_row wy _ 1 _ _ _ x1.out
            have c2 := cell_of_row wy _ 2 _ _ _ x1.out
            have c6 := cell_of_row wy _ 6 _ _ _ x1.out
            change wy.cell? _ = some (.int .i64 sg) at c1
            change wy.cell? _ = some (.int .i64 pg) at c2
            change wy.cell? _ = some (.string st) at c6
            have R1 := Lib.hid (refProg_any L.n L.m S M wy bo2.out.ref n2.out m2.out sg pg st lw.out ⟨boX.out.ch.byte, boX.out.ch.tall⟩)
            clear P1 boX hbX ch2 g2 rX
            obtain ⟨SZ, hSZ⟩ : ∃ SZ, progS L.n L.m S sg pg st = SZ := ⟨_, rfl⟩
            rw [hSZ] at bo2 low2 R1
            obtain ⟨E, hE⟩ : ∃ E, progE L.n L.m S sg pg st = E := ⟨_, rfl⟩
            rw [hE] at R1
            rw [hE]
            clear hSZ hE lw low
            go_wp2_with (first | (refine wpList_load_row rfl 36 _ rfl rp rfl 36 (rowOf 139 (refF L.n L.m S M)) (0, 0) _ bo2.out.row Try.underlying36 rfl (infoChip _) ?_))
            refine R1.out.mono ?_
            rintro e wz ⟨M2, rfl, rc2, bz, nw2⟩
            have boZ := Lib.hid (bo2.out.ref' bz rc2.out nw2)
            have hbz2 := hb2.trans (bz.mono hb2.size)
            have hbZ := below_setRow' hbz2 boZ.out.base (rowOf 139 (refF L.n L.m SZ M2))
            have rz := Lib.hid ((bo2.out.after bz).row)
            have lowZ := low2
            clear R1 bo2 rc2 nw2 hb2 bz hbz2 c1 c2 c6 x1 low2
            go_wp2_with (first | (refine wpList_store_row rfl 36 _ _ rfl rp (rowOf 139 (refF L.n L.m SZ M2)) rfl rfl 36 (rowOf 139 (refF L.n L.m S M)) rz.out (infoChip _) (by rw [rowOf_size, rowOf_size]) (refF_all _ _ _ _) ?_; generalize wz.setRow rp (rowOf 139 (refF L.n L.m SZ M2)) = wq at *; refine Hid.out ?_))
            unfold Hid
            clear rz
            have CT := Lib.hid (counts_any w.heap.size wq L _ _ boZ.out.ch)
            go_wp2_with fail
            refine CT.out.mono ?_
            rintro e wc ⟨rfl, bc⟩
            have bod : Hid (Both w.heap.size wc.drew L _ _ rp _ _) := boZ.out.after bc.drew
            have hbd := hbZ.trans (bc.drew.mono hbZ.size)
            have UP := Lib.hid (powUp_any L.pp _ _ _ _ wc.drew (Lib.hid bod.out.ch.pow))
            rw [hpp'.out] at UP
            have d0 := rf0 bod.out.row
            have d1 := rf137 bod.out.row
            have d2 := rf138 bod.out.row
            have hup := not_same SZ.up
            clear CT boZ hbZ bc
            go_wp2_with fail
            refine wp_region_one (by kernel_rfl) (by kernel_rfl) ?_
            generalize wc.drew = wd at *
            repeat (first | go_big_quiet_skip | (go_big_quiet_want; go_big_quiet_op; apply Exists.intro; refine ⟨UP.out, ?_⟩; go_big_quiet_on) | (go_big_quiet_want; go_big_quiet_op; go_big_quiet_on))
            refine wpQuiet_nil ?_
            clear d0 d1 d2 UP
            go_wp2
            go_roundw
            case rel => exact ⟨i + 1, SZ, _, _, by omega, by go_num, bod, lowZ, hbd⟩
            case measure => simp [intOf]; omega
        by_cases k1 : kd = 1
        · subst k1
          as_aux_lemma =>
            have P1 := Lib.hid (prog_any w.heap.size wx L S hv boX.out.ch sg pg st lw.out)
            have low2 := Lib.hid (low.out.prog L.n L.m sg pg st)
            go_wp2_with fail
            refine P1.out.mono ?_
            rintro e wy ⟨rfl, hv2, ch2, g2⟩
            have bo2 := Lib.hid (boX.out.chip ch2.out g2)
            have hb2 := hbX.trans (g2.under boX.out.ch hbX.size)
            have x1 : Hid (RowAt wy xp 40 _) := rX.out.beside g2.side (fun hf => by
              rcases hf with h1 | h1 | h1 | ⟨y, hy, h1⟩ | h1
              · exact boX.out.ch.pow.apart rX.out (by decide) h1.symm
              · exact boX.out.ch.chip.apart rX.out (by decide) h1.symm
              · exact boX.out.ch.segs.apart rX.out (by decide) h1.symm
              · exact (boX.out.ch.pages y hy).apart rX.out (by decide) h1.symm
              · exact rX.out.not_own boX.out.ch.hist (by decide) h1)
            have c1 := cell_of_row wy _ 1 _ _ _ x1.out
            have c2 := cell_of_row wy _ 2 _ _ _ x1.out
            have c6 := cell_of_row wy _ 6 _ _ _ x1.out
            change wy.cell? _ = some (.int .i64 sg) at c1
            change wy.cell? _ = some (.int .i64 pg) at c2
            change wy.cell? _ = some (.string st) at c6
            have R1 := Lib.hid (refProg_any L.n L.m S M wy bo2.out.ref n2.out m2.out sg pg st lw.out ⟨boX.out.ch.byte, boX.out.ch.tall⟩)
            clear P1 boX hbX ch2 g2 rX
            obtain ⟨SZ, hSZ⟩ : ∃ SZ, progS L.n L.m S sg pg st = SZ := ⟨_, rfl⟩
            rw [hSZ] at bo2 low2 R1
            obtain ⟨E, hE⟩ : ∃ E, progE L.n L.m S sg pg st = E := ⟨_, rfl⟩
            rw [hE] at R1
            rw [hE]
            clear hSZ hE lw low
            go_wp2_with (first | (refine wpList_load_row rfl 36 _ rfl rp rfl 36 (rowOf 139 (refF L.n L.m S M)) (0, 0) _ bo2.out.row Try.underlying36 rfl (infoChip _) ?_))
            refine R1.out.mono ?_
            rintro e wz ⟨M2, rfl, rc2, bz, nw2⟩
            have boZ := Lib.hid (bo2.out.ref' bz rc2.out nw2)
            have hbz2 := hb2.trans (bz.mono hb2.size)
            have hbZ := below_setRow' hbz2 boZ.out.base (rowOf 139 (refF L.n L.m SZ M2))
            have rz := Lib.hid ((bo2.out.after bz).row)
            have lowZ := low2
            clear R1 bo2 rc2 nw2 hb2 bz hbz2 c1 c2 c6 x1 low2
            go_wp2_with (first | (refine wpList_store_row rfl 36 _ _ rfl rp (rowOf 139 (refF L.n L.m SZ M2)) rfl rfl 36 (rowOf 139 (refF L.n L.m S M)) rz.out (infoChip _) (by rw [rowOf_size, rowOf_size]) (refF_all _ _ _ _) ?_; generalize wz.setRow rp (rowOf 139 (refF L.n L.m SZ M2)) = wq at *; refine Hid.out ?_))
            unfold Hid
            clear rz
            have CT := Lib.hid (counts_any w.heap.size wq L _ _ boZ.out.ch)
            go_wp2_with fail
            refine CT.out.mono ?_
            rintro e wc ⟨rfl, bc⟩
            have bod : Hid (Both w.heap.size wc.drew L _ _ rp _ _) := boZ.out.after bc.drew
            have hbd := hbZ.trans (bc.drew.mono hbZ.size)
            have UP := Lib.hid (powUp_any L.pp _ _ _ _ wc.drew (Lib.hid bod.out.ch.pow))
            rw [hpp'.out] at UP
            have d0 := rf0 bod.out.row
            have d1 := rf137 bod.out.row
            have d2 := rf138 bod.out.row
            have hup := not_same SZ.up
            clear CT boZ hbZ bc
            go_wp2_with fail
            refine wp_region_one (by kernel_rfl) (by kernel_rfl) ?_
            generalize wc.drew = wd at *
            repeat (first | go_big_quiet_skip | (go_big_quiet_want; go_big_quiet_op; apply Exists.intro; refine ⟨UP.out, ?_⟩; go_big_quiet_on) | (go_big_quiet_want; go_big_quiet_op; go_big_quiet_on))
            refine wpQuiet_nil ?_
            clear d0 d1 d2 UP
            go_wp2
            go_roundw
            case rel => exact ⟨i + 1, SZ, _, _, by omega, by go_num, bod, lowZ, hbd⟩
            case measure => simp [intOf]; omega
        by_cases k2 : kd = 2
        · subst k2
          as_aux_lemma =>
            have P1 := Lib.hid (prog_any w.heap.size wx L S hv boX.out.ch sg pg st lw.out)
            have low2 := Lib.hid (low.out.prog L.n L.m sg pg st)
            go_wp2_with fail
            refine P1.out.mono ?_
            rintro e wy ⟨rfl, hv2, ch2, g2⟩
            have bo2 := Lib.hid (boX.out.chip ch2.out g2)
            have hb2 := hbX.trans (g2.under boX.out.ch hbX.size)
            have x1 : Hid (RowAt wy xp 40 _) := rX.out.beside g2.side (fun hf => by
              rcases hf with h1 | h1 | h1 | ⟨y, hy, h1⟩ | h1
              · exact boX.out.ch.pow.apart rX.out (by decide) h1.symm
              · exact boX.out.ch.chip.apart rX.out (by decide) h1.symm
              · exact boX.out.ch.segs.apart rX.out (by decide) h1.symm
              · exact (boX.out.ch.pages y hy).apart rX.out (by decide) h1.symm
              · exact rX.out.not_own boX.out.ch.hist (by decide) h1)
            have c1 := cell_of_row wy _ 1 _ _ _ x1.out
            have c2 := cell_of_row wy _ 2 _ _ _ x1.out
            have c6 := cell_of_row wy _ 6 _ _ _ x1.out
            change wy.cell? _ = some (.int .i64 sg) at c1
            change wy.cell? _ = some (.int .i64 pg) at c2
            change wy.cell? _ = some (.string st) at c6
            have R1 := Lib.hid (refProg_any L.n L.m S M wy bo2.out.ref n2.out m2.out sg pg st lw.out ⟨boX.out.ch.byte, boX.out.ch.tall⟩)
            clear P1 boX hbX ch2 g2 rX
            obtain ⟨SZ, hSZ⟩ : ∃ SZ, progS L.n L.m S sg pg st = SZ := ⟨_, rfl⟩
            rw [hSZ] at bo2 low2 R1
            obtain ⟨E, hE⟩ : ∃ E, progE L.n L.m S sg pg st = E := ⟨_, rfl⟩
            rw [hE] at R1
            rw [hE]
            clear hSZ hE lw low
            go_wp2_with (first | (refine wpList_load_row rfl 36 _ rfl rp rfl 36 (rowOf 139 (refF L.n L.m S M)) (0, 0) _ bo2.out.row Try.underlying36 rfl (infoChip _) ?_))
            refine R1.out.mono ?_
            rintro e wz ⟨M2, rfl, rc2, bz, nw2⟩
            have boZ := Lib.hid (bo2.out.ref' bz rc2.out nw2)
            have hbz2 := hb2.trans (bz.mono hb2.size)
            have hbZ := below_setRow' hbz2 boZ.out.base (rowOf 139 (refF L.n L.m SZ M2))
            have rz := Lib.hid ((bo2.out.after bz).row)
            have lowZ := low2
            clear R1 bo2 rc2 nw2 hb2 bz hbz2 c1 c2 c6 x1 low2
            go_wp2_with (first | (refine wpList_store_row rfl 36 _ _ rfl rp (rowOf 139 (refF L.n L.m SZ M2)) rfl rfl 36 (rowOf 139 (refF L.n L.m S M)) rz.out (infoChip _) (by rw [rowOf_size, rowOf_size]) (refF_all _ _ _ _) ?_; generalize wz.setRow rp (rowOf 139 (refF L.n L.m SZ M2)) = wq at *; refine Hid.out ?_))
            unfold Hid
            clear rz
            have CT := Lib.hid (counts_any w.heap.size wq L _ _ boZ.out.ch)
            go_wp2_with fail
            refine CT.out.mono ?_
            rintro e wc ⟨rfl, bc⟩
            have bod : Hid (Both w.heap.size wc.drew L _ _ rp _ _) := boZ.out.after bc.drew
            have hbd := hbZ.trans (bc.drew.mono hbZ.size)
            have UP := Lib.hid (powUp_any L.pp _ _ _ _ wc.drew (Lib.hid bod.out.ch.pow))
            rw [hpp'.out] at UP
            have d0 := rf0 bod.out.row
            have d1 := rf137 bod.out.row
            have d2 := rf138 bod.out.row
            have hup := not_same SZ.up
            clear CT boZ hbZ bc
            go_wp2_with fail
            refine wp_region_one (by kernel_rfl) (by kernel_rfl) ?_
            generalize wc.drew = wd at *
            repeat (first | go_big_quiet_skip | (go_big_quiet_want; go_big_quiet_op; apply Exists.intro; refine ⟨UP.out, ?_⟩; go_big_quiet_on) | (go_big_quiet_want; go_big_quiet_op; go_big_quiet_on))
            refine wpQuiet_nil ?_
            clear d0 d1 d2 UP
            go_wp2
            go_roundw
            case rel => exact ⟨i + 1, SZ, _, _, by omega, by go_num, bod, lowZ, hbd⟩
            case measure => simp [intOf]; omega
        by_cases k3 : kd = 3
        · subst k3
          as_aux_lemma =>
            have P1 := Lib.hid (prog_any w.heap.size wx L S hv boX.out.ch sg pg st lw.out)
            have low2 := Lib.hid (low.out.prog L.n L.m sg pg st)
            go_wp2_with fail
            refine P1.out.mono ?_
            rintro e wy ⟨rfl, hv2, ch2, g2⟩
            have bo2 := Lib.hid (boX.out.chip ch2.out g2)
            have hb2 := hbX.trans (g2.under boX.out.ch hbX.size)
            have x1 : Hid (RowAt wy xp 40 _) := rX.out.beside g2.side (fun hf => by
              rcases hf with h1 | h1 | h1 | ⟨y, hy, h1⟩ | h1
              · exact boX.out.ch.pow.apart rX.out (by decide) h1.symm
              · exact boX.out.ch.chip.apart rX.out (by decide) h1.symm
              · exact boX.out.ch.segs.apart rX.out (by decide) h1.symm
              · exact (boX.out.ch.pages y hy).apart rX.out (by decide) h1.symm
              · exact rX.out.not_own boX.out.ch.hist (by decide) h1)
            have c1 := cell_of_row wy _ 1 _ _ _ x1.out
            have c2 := cell_of_row wy _ 2 _ _ _ x1.out
            have c6 := cell_of_row wy _ 6 _ _ _ x1.out
            change wy.cell? _ = some (.int .i64 sg) at c1
            change wy.cell? _ = some (.int .i64 pg) at c2
            change wy.cell? _ = some (.string st) at c6
            have R1 := Lib.hid (refProg_any L.n L.m S M wy bo2.out.ref n2.out m2.out sg pg st lw.out ⟨boX.out.ch.byte, boX.out.ch.tall⟩)
            clear P1 boX hbX ch2 g2 rX
            obtain ⟨SZ, hSZ⟩ : ∃ SZ, progS L.n L.m S sg pg st = SZ := ⟨_, rfl⟩
            rw [hSZ] at bo2 low2 R1
            obtain ⟨E, hE⟩ : ∃ E, progE L.n L.m S sg pg st = E := ⟨_, rfl⟩
            rw [hE] at R1
            rw [hE]
            clear hSZ hE lw low
            go_wp2_with (first | (refine wpList_load_row rfl 36 _ rfl rp rfl 36 (rowOf 139 (refF L.n L.m S M)) (0, 0) _ bo2.out.row Try.underlying36 rfl (infoChip _) ?_))
            refine R1.out.mono ?_
            rintro e wz ⟨M2, rfl, rc2, bz, nw2⟩
            have boZ := Lib.hid (bo2.out.ref' bz rc2.out nw2)
            have hbz2 := hb2.trans (bz.mono hb2.size)
            have hbZ := below_setRow' hbz2 boZ.out.base (rowOf 139 (refF L.n L.m SZ M2))
            have rz := Lib.hid ((bo2.out.after bz).row)
            have lowZ := low2
            clear R1 bo2 rc2 nw2 hb2 bz hbz2 c1 c2 c6 x1 low2
            go_wp2_with (first | (refine wpList_store_row rfl 36 _ _ rfl rp (rowOf 139 (refF L.n L.m SZ M2)) rfl rfl 36 (rowOf 139 (refF L.n L.m S M)) rz.out (infoChip _) (by rw [rowOf_size, rowOf_size]) (refF_all _ _ _ _) ?_; generalize wz.setRow rp (rowOf 139 (refF L.n L.m SZ M2)) = wq at *; refine Hid.out ?_))
            unfold Hid
            clear rz
            have CT := Lib.hid (counts_any w.heap.size wq L _ _ boZ.out.ch)
            go_wp2_with fail
            refine CT.out.mono ?_
            rintro e wc ⟨rfl, bc⟩
            have bod : Hid (Both w.heap.size wc.drew L _ _ rp _ _) := boZ.out.after bc.drew
            have hbd := hbZ.trans (bc.drew.mono hbZ.size)
            have UP := Lib.hid (powUp_any L.pp _ _ _ _ wc.drew (Lib.hid bod.out.ch.pow))
            rw [hpp'.out] at UP
            have d0 := rf0 bod.out.row
            have d1 := rf137 bod.out.row
            have d2 := rf138 bod.out.row
            have hup := not_same SZ.up
            clear CT boZ hbZ bc
            go_wp2_with fail
            refine wp_region_one (by kernel_rfl) (by kernel_rfl) ?_
            generalize wc.drew = wd at *
            repeat (first | go_big_quiet_skip | (go_big_quiet_want; go_big_quiet_op; apply Exists.intro; refine ⟨UP.out, ?_⟩; go_big_quiet_on) | (go_big_quiet_want; go_big_quiet_op; go_big_quiet_on))
            refine wpQuiet_nil ?_
            clear d0 d1 d2 UP
            go_wp2
            go_roundw
            case rel => exact ⟨i + 1, SZ, _, _, by omega, by go_num, bod, lowZ, hbd⟩
            case measure => simp [intOf]; omega
        by_cases k4 : kd = 4
        · subst k4
          as_aux_lemma =>
            have P1 := Lib.hid (erase_any w.heap.size wx L S hv boX.out.ch sg lw.out)
            have low2 := Lib.hid (low.out.erase L.n sg)
            go_wp2_with fail
            refine P1.out.mono ?_
            rintro e wy ⟨rfl, hv2, ch2, g2⟩
            have bo2 := Lib.hid (boX.out.chip ch2.out g2)
            have hb2 := hbX.trans (g2.under boX.out.ch hbX.size)
            have x1 : Hid (RowAt wy xp 40 _) := rX.out.beside g2.side (fun hf => by
              rcases hf with h1 | h1 | h1 | ⟨y, hy, h1⟩ | h1
              · exact boX.out.ch.pow.apart rX.out (by decide) h1.symm
              · exact boX.out.ch.chip.apart rX.out (by decide) h1.symm
              · exact boX.out.ch.segs.apart rX.out (by decide) h1.symm
              · exact (boX.out.ch.pages y hy).apart rX.out (by decide) h1.symm
              · exact rX.out.not_own boX.out.ch.hist (by decide) h1)
            have c1 := cell_of_row wy _ 1 _ _ _ x1.out
            have c2 := cell_of_row wy _ 2 _ _ _ x1.out
            have c6 := cell_of_row wy _ 6 _ _ _ x1.out
            change wy.cell? _ = some (.int .i64 sg) at c1
            change wy.cell? _ = some (.int .i64 pg) at c2
            change wy.cell? _ = some (.string st) at c6
            have R1 := Lib.hid (refErase_any L.n L.m S M wy bo2.out.ref n2.out m1.out m2.out sg lw.out boX.out.ch.tall)
            clear P1 boX hbX ch2 g2 rX
            obtain ⟨SZ, hSZ⟩ : ∃ SZ, eraseS L.n S sg = SZ := ⟨_, rfl⟩
            rw [hSZ] at bo2 low2 R1
            obtain ⟨E, hE⟩ : ∃ E, eraseE L.n S sg = E := ⟨_, rfl⟩
            rw [hE] at R1
            rw [hE]
            clear hSZ hE lw low
            go_wp2_with (first | (refine wpList_load_row rfl 36 _ rfl rp rfl 36 (rowOf 139 (refF L.n L.m S M)) (0, 0) _ bo2.out.row Try.underlying36 rfl (infoChip _) ?_))
            refine R1.out.mono ?_
            rintro e wz ⟨M2, rfl, rc2, bz, nw2⟩
            have boZ := Lib.hid (bo2.out.ref' bz rc2.out nw2)
            have hbz2 := hb2.trans (bz.mono hb2.size)
            have hbZ := below_setRow' hbz2 boZ.out.base (rowOf 139 (refF L.n L.m SZ M2))
            have rz := Lib.hid ((bo2.out.after bz).row)
            have lowZ := low2
            clear R1 bo2 rc2 nw2 hb2 bz hbz2 c1 c2 c6 x1 low2
            go_wp2_with (first | (refine wpList_store_row rfl 36 _ _ rfl rp (rowOf 139 (refF L.n L.m SZ M2)) rfl rfl 36 (rowOf 139 (refF L.n L.m S M)) rz.out (infoChip _) (by rw [rowOf_size, rowOf_size]) (refF_all _ _ _ _) ?_; generalize wz.setRow rp (rowOf 139 (refF L.n L.m SZ M2)) = wq at *; refine Hid.out ?_))
            unfold Hid
            clear rz
            have CT := Lib.hid (counts_any w.heap.size wq L _ _ boZ.out.ch)
            go_wp2_with fail
            refine CT.out.mono ?_
            rintro e wc ⟨rfl, bc⟩
            have bod : Hid (Both w.heap.size wc.drew L _ _ rp _ _) := boZ.out.after bc.drew
            have hbd := hbZ.trans (bc.drew.mono hbZ.size)
            have UP := Lib.hid (powUp_any L.pp _ _ _ _ wc.drew (Lib.hid bod.out.ch.pow))
            rw [hpp'.out] at UP
            have d0 := rf0 bod.out.row
            have d1 := rf137 bod.out.row
            have d2 := rf138 bod.out.row
            have hup := not_same SZ.up
            clear CT boZ hbZ bc
            go_wp2_with fail
            refine wp_region_one (by kernel_rfl) (by kernel_rfl) ?_
            generalize wc.drew = wd at *
            repeat (first | go_big_quiet_skip | (go_big_quiet_want; go_big_quiet_op; apply Exists.intro; refine ⟨UP.out, ?_⟩; go_big_quiet_on) | (go_big_quiet_want; go_big_quiet_op; go_big_quiet_on))
            refine wpQuiet_nil ?_
            clear d0 d1 d2 UP
            go_wp2
            go_roundw
            case rel => exact ⟨i + 1, SZ, _, _, by omega, by go_num, bod, lowZ, hbd⟩
            case measure => simp [intOf]; omega
        by_cases k5 : kd = 5
        · subst k5
          as_aux_lemma =>
            have P1 := Lib.hid (erase_any w.heap.size wx L S hv boX.out.ch sg lw.out)
            have low2 := Lib.hid (low.out.erase L.n sg)
            go_wp2_with fail
            refine P1.out.mono ?_
            rintro e wy ⟨rfl, hv2, ch2, g2⟩
            have bo2 := Lib.hid (boX.out.chip ch2.out g2)
            have hb2 := hbX.trans (g2.under boX.out.ch hbX.size)
            have x1 : Hid (RowAt wy xp 40 _) := rX.out.beside g2.side (fun hf => by
              rcases hf with h1 | h1 | h1 | ⟨y, hy, h1⟩ | h1
              · exact boX.out.ch.pow.apart rX.out (by decide) h1.symm
              · exact boX.out.ch.chip.apart rX.out (by decide) h1.symm
              · exact boX.out.ch.segs.apart rX.out (by decide) h1.symm
              · exact (boX.out.ch.pages y hy).apart rX.out (by decide) h1.symm
              · exact rX.out.not_own boX.out.ch.hist (by decide) h1)
            have c1 := cell_of_row wy _ 1 _ _ _ x1.out
            have c2 := cell_of_row wy _ 2 _ _ _ x1.out
            have c6 := cell_of_row wy _ 6 _ _ _ x1.out
            change wy.cell? _ = some (.int .i64 sg) at c1
            change wy.cell? _ = some (.int .i64 pg) at c2
            change wy.cell? _ = some (.string st) at c6
            have R1 := Lib.hid (refErase_any L.n L.m S M wy bo2.out.ref n2.out m1.out m2.out sg lw.out boX.out.ch.tall)
            clear P1 boX hbX ch2 g2 rX
            obtain ⟨SZ, hSZ⟩ : ∃ SZ, eraseS L.n S sg = SZ := ⟨_, rfl⟩
            rw [hSZ] at bo2 low2 R1
            obtain ⟨E, hE⟩ : ∃ E, eraseE L.n S sg = E := ⟨_, rfl⟩
            rw [hE] at R1
            rw [hE]
            clear hSZ hE lw low
            go_wp2_with (first | (refine wpList_load_row rfl 36 _ rfl rp rfl 36 (rowOf 139 (refF L.n L.m S M)) (0, 0) _ bo2.out.row Try.underlying36 rfl (infoChip _) ?_))
            refine R1.out.mono ?_
            rintro e wz ⟨M2, rfl, rc2, bz, nw2⟩
            have boZ := Lib.hid (bo2.out.ref' bz rc2.out nw2)
            have hbz2 := hb2.trans (bz.mono hb2.size)
            have hbZ := below_setRow' hbz2 boZ.out.base (rowOf 139 (refF L.n L.m SZ M2))
            have rz := Lib.hid ((bo2.out.after bz).row)
            have lowZ := low2
            clear R1 bo2 rc2 nw2 hb2 bz hbz2 c1 c2 c6 x1 low2
            go_wp2_with (first | (refine wpList_store_row rfl 36 _ _ rfl rp (rowOf 139 (refF L.n L.m SZ M2)) rfl rfl 36 (rowOf 139 (refF L.n L.m S M)) rz.out (infoChip _) (by rw [rowOf_size, rowOf_size]) (refF_all _ _ _ _) ?_; generalize wz.setRow rp (rowOf 139 (refF L.n L.m SZ M2)) = wq at *; refine Hid.out ?_))
            unfold Hid
            clear rz
            have CT := Lib.hid (counts_any w.heap.size wq L _ _ boZ.out.ch)
            go_wp2_with fail
            refine CT.out.mono ?_
            rintro e wc ⟨rfl, bc⟩
            have bod : Hid (Both w.heap.size wc.drew L _ _ rp _ _) := boZ.out.after bc.drew
            have hbd := hbZ.trans (bc.drew.mono hbZ.size)
            have UP := Lib.hid (powUp_any L.pp _ _ _ _ wc.drew (Lib.hid bod.out.ch.pow))
            rw [hpp'.out] at UP
            have d0 := rf0 bod.out.row
            have d1 := rf137 bod.out.row
            have d2 := rf138 bod.out.row
            have hup := not_same SZ.up
            clear CT boZ hbZ bc
            go_wp2_with fail
            refine wp_region_one (by kernel_rfl) (by kernel_rfl) ?_
            generalize wc.drew = wd at *
            repeat (first | go_big_quiet_skip | (go_big_quiet_want; go_big_quiet_op; apply Exists.intro; refine ⟨UP.out, ?_⟩; go_big_quiet_on) | (go_big_quiet_want; go_big_quiet_op; go_big_quiet_on))
            refine wpQuiet_nil ?_
            clear d0 d1 d2 UP
            go_wp2
            go_roundw
            case rel => exact ⟨i + 1, SZ, _, _, by omega, by go_num, bod, lowZ, hbd⟩
            case measure => simp [intOf]; omega
        by_cases k6 : kd = 6
        · subst k6
          as_aux_lemma =>
            obtain ⟨rs, rb, re, hrv⟩ := readV_form L.n L.m S sg pg
            have P1 := read_any w.heap.size wx L S hv boX.out.ch sg pg
            rw [hrv] at P1
            replace P1 := Lib.hid P1
            have hrv' := Lib.hid hrv
            clear hrv
            go_wp2_with fail
            refine P1.out.mono ?_
            rintro e wy ⟨rfl, by1⟩
            have bo2 := Lib.hid (boX.out.after by1)
            have hb2 := hbX.trans (by1.mono hbX.size)
            have x1 := Lib.hid (rX.out.below by1 rX.out.lt)
            have c1 := cell_of_row wy _ 1 _ _ _ x1.out
            have c2 := cell_of_row wy _ 2 _ _ _ x1.out
            change wy.cell? _ = some (.int .i64 sg) at c1
            change wy.cell? _ = some (.int .i64 pg) at c2
            have R1 := refRead_any L.n L.m S M wy bo2.out.ref n2.out m2.out sg pg
            rw [hrv'.out] at R1
            replace R1 := Lib.hid R1
            clear P1 boX hbX by1 rX
            go_wp2_with (first | (refine wpList_load_row rfl 36 _ rfl rp rfl 36 (rowOf 139 (refF L.n L.m S M)) (0, 0) _ bo2.out.row Try.underlying36 rfl (infoChip _) ?_))
            refine R1.out.mono ?_
            rintro e wz ⟨rfl, bz⟩
            have boZ := Lib.hid (bo2.out.after bz)
            have hbZ := hb2.trans (bz.mono hb2.size)
            have lowZ := Lib.hid (low.out.mono (Nat.le_succ i))
            clear R1 bo2 hb2 bz c1 c2 x1 lw low
            have CT := Lib.hid (counts_any w.heap.size wz L _ _ boZ.out.ch)
            go_wp2_with fail
            refine CT.out.mono ?_
            rintro e wc ⟨rfl, bc⟩
            have bod : Hid (Both w.heap.size wc.drew L _ _ rp _ _) := boZ.out.after bc.drew
            have hbd := hbZ.trans (bc.drew.mono hbZ.size)
            have UP := Lib.hid (powUp_any L.pp _ _ _ _ wc.drew (Lib.hid bod.out.ch.pow))
            rw [hpp'.out] at UP
            have d0 := rf0 bod.out.row
            have d1 := rf137 bod.out.row
            have d2 := rf138 bod.out.row
            have hup := not_same S.up
            clear CT boZ hbZ bc
            go_wp2_with fail
            refine wp_region_one (by kernel_rfl) (by kernel_rfl) ?_
            generalize wc.drew = wd at *
            repeat (first | go_big_quiet_skip | (go_big_quiet_want; go_big_quiet_op; apply Exists.intro; refine ⟨UP.out, ?_⟩; go_big_quiet_on) | (go_big_quiet_want; go_big_quiet_op; go_big_quiet_on))
            refine wpQuiet_nil ?_
            clear d0 d1 d2 UP
            go_wp2
            go_roundw
            case rel => exact ⟨i + 1, S, _, _, by omega, by go_num, bod, lowZ, hbd⟩
            case measure => simp [intOf]; omega
        by_cases k7 : kd = 7
        · subst k7
          as_aux_lemma =>
            have w3 := wf6_i64 hx3
            have w4 := wf6_i64 hx4
            obtain ⟨Fn, hFn⟩ : ∃ Fn : Int, (fn < 0 ∧ Fn = 0) ∨ (0 ≤ fn ∧ Fn = fn) := by
              by_cases d : fn < 0
              · exact ⟨0, .inl ⟨d, rfl⟩⟩
              · exact ⟨fn, .inr ⟨by omega, rfl⟩⟩
            obtain ⟨Kn, hKn⟩ : ∃ Kn : Nat, (kp < 0 ∧ (Kn : Int) = 0) ∨ (0 ≤ kp ∧ (Kn : Int) = kp) := by
              by_cases d : kp < 0
              · exact ⟨0, .inl ⟨d, rfl⟩⟩
              · exact ⟨kp.toNat, .inr ⟨by omega, by omega⟩⟩
            have hF0 : Hid (0 ≤ Fn ∧ Fn < 9223372036854775808) := by unfold Hid; omega
            have hK0 : ∀ _ : Unit, Hid ((Kn : Int) < 9223372036854775808) := fun _ => by unfold Hid; omega
            have hxb' : ∀ _ : Unit, Hid _ := fun _ => Lib.hid hxb
            replace hFn := Lib.hid hFn
            replace hKn := Lib.hid hKn
            clear w3 w4 hx3 hx4 hx0 hxb
            have P1 := Lib.hid (powFuse_any w1.heap.size S.up S.left S.keep S.junk wx (by have h9 := boX.out.ch.pow; rw [hpp'.out] at h9; exact h9) fn kp Fn (Kn : Int) hFn.out hKn.out jk)
            have RF : Hid (∀ w', Calls _ _ _ w' fun e w'' => e = .returned (.agg (rowOf 4 (pwF (fuseS S Fn Kn jk)))) ∧ Below w'.heap.size w' w'') := fun w' => refFuse_any S w' fn kp Fn (Kn : Int) hFn.out hKn.out jk Kn rfl
            have lowZ := Lib.hid (low.out.fuse hF0.out.1 hF0.out.2 Kn jk)
            clear hFn hKn hF0
            go_wp2_with fail
            refine P1.out.mono ?_
            rintro e wy ⟨rfl, p1, a1⟩
            obtain ⟨ch2, g2⟩ := boX.out.ch.power (by rw [hpp'.out]; exact a1) (up := S.up) (left := Fn) (keep := Kn) (junk := jk) (by rw [hpp'.out]; exact p1.out) (hxb' ()).out (hK0 ()).out
            change Ch w.heap.size wy L (fuseS S Fn Kn jk) hv at ch2
            have bo2 := Lib.hid (boX.out.chip ch2 g2)
            have hb2 := hbX.trans (g2.under boX.out.ch hbX.size)
            have x1 : Hid (RowAt wy xp 40 _) := rX.out.beside g2.side (fun hf => by
              rcases hf with h1 | h1 | h1 | ⟨y, hy, h1⟩ | h1
              · exact boX.out.ch.pow.apart rX.out (by decide) h1.symm
              · exact boX.out.ch.chip.apart rX.out (by decide) h1.symm
              · exact boX.out.ch.segs.apart rX.out (by decide) h1.symm
              · exact (boX.out.ch.pages y hy).apart rX.out (by decide) h1.symm
              · exact rX.out.not_own boX.out.ch.hist (by decide) h1)
            have c3 := cell_of_row wy _ 3 _ _ _ x1.out
            have c4 := cell_of_row wy _ 4 _ _ _ x1.out
            have c5 := cell_of_row wy _ 5 _ _ _ x1.out
            change wy.cell? _ = some (.int .i64 fn) at c3
            change wy.cell? _ = some (.int .i64 kp) at c4
            change wy.cell? _ = some (.int .u8 (jk : Nat)) at c5
            have R1 := Lib.hid (RF.out wy)
            clear RF
            clear P1 p1 a1 ch2 g2 boX hbX rX hK0 hxb'
            go_wp2_with (first | (refine wpList_load_at rfl 30 _ rfl rp 0 rfl 36 _ _ 4 (pwF S) bo2.out.row (fun j hj => by rw [Nat.zero_add, rowOf_get _ _ _ (by omega)]; unfold refF; rw [if_pos hj]) Try.underlying30 rfl infoPow4 ?_))
            refine R1.out.mono ?_
            rintro e wz ⟨rfl, bz⟩
            have bo3 := Lib.hid (bo2.out.after bz)
            have hb3 := hb2.trans (bz.mono hb2.size)
            have rp4 := ref_pow L.n L.m S (fuseS S Fn Kn jk) M (ref_rest rfl rfl rfl rfl rfl rfl)
            have rz := bo3.out.row.setRow (rowOf 139 (laidV (refF L.n L.m S M) (pwF (fuseS S Fn Kn jk)) 0 4))
            rw [rp4] at rz
            have boZ := Lib.hid (bo3.out.power (R' := fuseS S Fn Kn jk) rfl rfl ((Beside.refl (fun k => k = rp) wz).setRow (.inl rfl) _) rz)
            have hbZ := below_setRow' hb3 bo3.out.base (rowOf 139 (refF L.n L.m (fuseS S Fn Kn jk) M))
            generalize fuseS S Fn Kn jk = SZ at *
            replace rp4 := Lib.hid rp4
            clear R1 bo2 hb2 bz x1 c3 c4 c5 rz lw low
            go_wp2_with (first | (refine wpList_store_at rfl 30 _ _ rfl rp 0 139 4 (refF L.n L.m S M) (pwF SZ) rfl rfl 36 bo3.out.row infoPow4 (pwF_all _) (by decide) ?_; rw [rp4.out]; generalize wz.setRow rp (rowOf 139 (refF L.n L.m SZ M)) = wu at *; refine Hid.out ?_))
            unfold Hid
            clear bo3 hb3 rp4
            have KP := Lib.hid (powKept_any w1.heap.size SZ.up SZ.left SZ.keep SZ.junk wu (by have h9 := boZ.out.ch.pow; rw [hpp'.out] at h9; exact h9))
            go_wp2_with fail
            refine KP.out.mono ?_
            rintro e wv ⟨rfl, bv⟩
            replace boZ := Lib.hid (boZ.out.after bv)
            replace hbZ := hbZ.trans (bv.mono hbZ.size)
            have q2 := boZ.out.row.cell 2 (by decide)
            have q3 := boZ.out.row.cell 3 (by decide)
            change wv.cell? _ = some (.int .i64 (SZ.keep : Nat)) at q2
            change wv.cell? _ = some (.int .u8 (SZ.junk : Nat)) at q3
            clear KP bv
            have CT := Lib.hid (counts_any w.heap.size wv L _ _ boZ.out.ch)
            go_wp2_with fail
            refine CT.out.mono ?_
            rintro e wc ⟨rfl, bc⟩
            have bod : Hid (Both w.heap.size wc.drew L _ _ rp _ _) := boZ.out.after bc.drew
            have hbd := hbZ.trans (bc.drew.mono hbZ.size)
            have UP := Lib.hid (powUp_any L.pp _ _ _ _ wc.drew (Lib.hid bod.out.ch.pow))
            rw [hpp'.out] at UP
            have d0 := rf0 bod.out.row
            have d1 := rf137 bod.out.row
            have d2 := rf138 bod.out.row
            have hup := not_same SZ.up
            clear CT boZ hbZ bc q2 q3
            go_wp2_with fail
            refine wp_region_one (by kernel_rfl) (by kernel_rfl) ?_
            generalize wc.drew = wd at *
            repeat (first | go_big_quiet_skip | (go_big_quiet_want; go_big_quiet_op; apply Exists.intro; refine ⟨UP.out, ?_⟩; go_big_quiet_on) | (go_big_quiet_want; go_big_quiet_op; go_big_quiet_on))
            refine wpQuiet_nil ?_
            clear d0 d1 d2 UP
            go_wp2
            go_roundw
            case rel => exact ⟨i + 1, SZ, _, _, by omega, by go_num, bod, lowZ, hbd⟩
            case measure => simp [intOf]; omega
        by_cases k8 : kd = 8
        · subst k8
          as_aux_lemma =>
            have P1 := Lib.hid (powCut_any w1.heap.size S.up S.left S.keep S.junk wx (by have h9 := boX.out.ch.pow; rw [hpp'.out] at h9; exact h9))
            go_wp2_with fail
            refine P1.out.mono ?_
            rintro e wy ⟨rfl, p1, a1⟩
            obtain ⟨ch2, g2⟩ := boX.out.ch.power (by rw [hpp'.out]; exact a1) (up := false) (left := S.left) (keep := S.keep) (junk := S.junk) (by rw [hpp'.out]; exact p1.out) boX.out.ch.byte boX.out.ch.tall
            change Ch w.heap.size wy L (cutS S) hv at ch2
            have bo2 := Lib.hid (boX.out.chip ch2 g2)
            have hb2 := hbX.trans (g2.under boX.out.ch hbX.size)
            have d0 := rf0 bo2.out.row
            have f0 := bo2.out.row.free 0
            have rz := (bo2.out.row.set 0 (.bool true)).congr (ref_set (ref_off L.n L.m S M))
            have boZ := Lib.hid (bo2.out.power (R' := cutS S) rfl rfl (beside_set wy rp 0 (.bool true)) rz)
            have hbZ := hb2.setCell (p := ⟨rp, 0, none⟩) bo2.out.base (.bool true)
            have lowZ := Lib.hid low.out.cut
            generalize cutS S = SZ at *
            clear P1 p1 a1 ch2 g2 boX hbX bo2 hb2 rz rX lw low
            go_wp2_with fail
            generalize wy.setCell ⟨rp, 0, none⟩ (.bool true) = wq at *
            clear d0 f0
            have CT := Lib.hid (counts_any w.heap.size wq L _ _ boZ.out.ch)
            go_wp2_with fail
            refine CT.out.mono ?_
            rintro e wc ⟨rfl, bc⟩
            have bod : Hid (Both w.heap.size wc.drew L _ _ rp _ _) := boZ.out.after bc.drew
            have hbd := hbZ.trans (bc.drew.mono hbZ.size)
            have UP := Lib.hid (powUp_any L.pp _ _ _ _ wc.drew (Lib.hid bod.out.ch.pow))
            rw [hpp'.out] at UP
            have d0 := rf0 bod.out.row
            have d1 := rf137 bod.out.row
            have d2 := rf138 bod.out.row
            have hup := not_same SZ.up
            clear CT boZ hbZ bc
            go_wp2_with fail
            refine wp_region_one (by kernel_rfl) (by kernel_rfl) ?_
            generalize wc.drew = wd at *
            repeat (first | go_big_quiet_skip | (go_big_quiet_want; go_big_quiet_op; apply Exists.intro; refine ⟨UP.out, ?_⟩; go_big_quiet_on) | (go_big_quiet_want; go_big_quiet_op; go_big_quiet_on))
            refine wpQuiet_nil ?_
            clear d0 d1 d2 UP
            go_wp2
            go_roundw
            case rel => exact ⟨i + 1, SZ, _, _, by omega, by go_num, bod, lowZ, hbd⟩
            case measure => simp [intOf]; omega
        by_cases k9 : kd = 9
        · subst k9
          as_aux_lemma =>
            have P1 := Lib.hid (powOn_any w1.heap.size S.up S.left S.keep S.junk wx (by have h9 := boX.out.ch.pow; rw [hpp'.out] at h9; exact h9))
            go_wp2_with fail
            refine P1.out.mono ?_
            rintro e wy ⟨rfl, p1, a1⟩
            obtain ⟨ch2, g2⟩ := boX.out.ch.power (by rw [hpp'.out]; exact a1) (up := true) (left := 0) (keep := S.keep) (junk := S.junk) (by rw [hpp'.out]; exact p1.out) boX.out.ch.byte boX.out.ch.tall
            change Ch w.heap.size wy L (onS' S) hv at ch2
            have bo2 := Lib.hid (boX.out.chip ch2 g2)
            have hb2 := hbX.trans (g2.under boX.out.ch hbX.size)
            have d0 := rf0 bo2.out.row
            have f0 := bo2.out.row.free 0
            have rz := (bo2.out.row.set 0 (.bool false)).congr (ref_set (ref_on0 L.n L.m S M))
            have d1 := rz.cell 1 (by decide)
            change _ = some (Value.int .i64 (S.left.toNat : Nat)) at d1
            have f1 := rz.free 1
            have rz2 := (rz.set 1 (.int .i64 0)).congr (ref_set (ref_on1 L.n L.m S M))
            have hs2 : Beside (fun k => k = rp) wy ((wy.setCell ⟨rp, 0, none⟩ (.bool false)).setCell ⟨rp, 1, none⟩ (.int .i64 0)) := (beside_set wy rp 0 (.bool false)).setCell (.inl rfl) _
            have boZ := Lib.hid (bo2.out.power (R' := onS' S) rfl rfl hs2 rz2)
            have hbZ := (hb2.setCell (p := ⟨rp, 0, none⟩) bo2.out.base (.bool false)).setCell (p := ⟨rp, 1, none⟩) bo2.out.base (.int .i64 0)
            have lowZ := Lib.hid low.out.on
            generalize onS' S = SZ at *
            clear P1 p1 a1 ch2 g2 boX hbX bo2 hb2 rz rz2 rX lw low hs2
            go_wp2_with fail
            generalize (wy.setCell ⟨rp, 0, none⟩ (.bool false)).setCell ⟨rp, 1, none⟩ (.int .i64 0) = wq at *
            clear d0 f0 d1 f1
            have CT := Lib.hid (counts_any w.heap.size wq L _ _ boZ.out.ch)
            go_wp2_with fail
            refine CT.out.mono ?_
            rintro e wc ⟨rfl, bc⟩
            have bod : Hid (Both w.heap.size wc.drew L _ _ rp _ _) := boZ.out.after bc.drew
            have hbd := hbZ.trans (bc.drew.mono hbZ.size)
            have UP := Lib.hid (powUp_any L.pp _ _ _ _ wc.drew (Lib.hid bod.out.ch.pow))
            rw [hpp'.out] at UP
            have d0 := rf0 bod.out.row
            have d1 := rf137 bod.out.row
            have d2 := rf138 bod.out.row
            have hup := not_same SZ.up
            clear CT boZ hbZ bc
            go_wp2_with fail
            refine wp_region_one (by kernel_rfl) (by kernel_rfl) ?_
            generalize wc.drew = wd at *
            repeat (first | go_big_quiet_skip | (go_big_quiet_want; go_big_quiet_op; apply Exists.intro; refine ⟨UP.out, ?_⟩; go_big_quiet_on) | (go_big_quiet_want; go_big_quiet_op; go_big_quiet_on))
            refine wpQuiet_nil ?_
            clear d0 d1 d2 UP
            go_wp2
            go_roundw
            case rel => exact ⟨i + 1, SZ, _, _, by omega, by go_num, bod, lowZ, hbd⟩
            case measure => simp [intOf]; omega
        by_cases k10 : kd = 10
        · subst k10
          as_aux_lemma =>
            have P1 := Lib.hid (powOn_any w1.heap.size S.up S.left S.keep S.junk wx (by have h9 := boX.out.ch.pow; rw [hpp'.out] at h9; exact h9))
            go_wp2_with fail
            refine P1.out.mono ?_
            rintro e wy ⟨rfl, p1, a1⟩
            obtain ⟨ch2, g2⟩ := boX.out.ch.power (by rw [hpp'.out]; exact a1) (up := true) (left := 0) (keep := S.keep) (junk := S.junk) (by rw [hpp'.out]; exact p1.out) boX.out.ch.byte boX.out.ch.tall
            change Ch w.heap.size wy L (onS' S) hv at ch2
            have bo2 := Lib.hid (boX.out.chip ch2 g2)
            have hb2 := hbX.trans (g2.under boX.out.ch hbX.size)
            have d0 := rf0 bo2.out.row
            have f0 := bo2.out.row.free 0
            have rz := (bo2.out.row.set 0 (.bool false)).congr (ref_set (ref_on0 L.n L.m S M))
            have d1 := rz.cell 1 (by decide)
            change _ = some (Value.int .i64 (S.left.toNat : Nat)) at d1
            have f1 := rz.free 1
            have rz2 := (rz.set 1 (.int .i64 0)).congr (ref_set (ref_on1 L.n L.m S M))
            have hs2 : Beside (fun k => k = rp) wy ((wy.setCell ⟨rp, 0, none⟩ (.bool false)).setCell ⟨rp, 1, none⟩ (.int .i64 0)) := (beside_set wy rp 0 (.bool false)).setCell (.inl rfl) _
            have boZ := Lib.hid (bo2.out.power (R' := onS' S) rfl rfl hs2 rz2)
            have hbZ := (hb2.setCell (p := ⟨rp, 0, none⟩) bo2.out.base (.bool false)).setCell (p := ⟨rp, 1, none⟩) bo2.out.base (.int .i64 0)
            have lowZ := Lib.hid low.out.on
            generalize onS' S = SZ at *
            clear P1 p1 a1 ch2 g2 boX hbX bo2 hb2 rz rz2 rX lw low hs2
            go_wp2_with fail
            generalize (wy.setCell ⟨rp, 0, none⟩ (.bool false)).setCell ⟨rp, 1, none⟩ (.int .i64 0) = wq at *
            clear d0 f0 d1 f1
            have CT := Lib.hid (counts_any w.heap.size wq L _ _ boZ.out.ch)
            go_wp2_with fail
            refine CT.out.mono ?_
            rintro e wc ⟨rfl, bc⟩
            have bod : Hid (Both w.heap.size wc.drew L _ _ rp _ _) := boZ.out.after bc.drew
            have hbd := hbZ.trans (bc.drew.mono hbZ.size)
            have UP := Lib.hid (powUp_any L.pp _ _ _ _ wc.drew (Lib.hid bod.out.ch.pow))
            rw [hpp'.out] at UP
            have d0 := rf0 bod.out.row
            have d1 := rf137 bod.out.row
            have d2 := rf138 bod.out.row
            have hup := not_same SZ.up
            clear CT boZ hbZ bc
            go_wp2_with fail
            refine wp_region_one (by kernel_rfl) (by kernel_rfl) ?_
            generalize wc.drew = wd at *
            repeat (first | go_big_quiet_skip | (go_big_quiet_want; go_big_quiet_op; apply Exists.intro; refine ⟨UP.out, ?_⟩; go_big_quiet_on) | (go_big_quiet_want; go_big_quiet_op; go_big_quiet_on))
            refine wpQuiet_nil ?_
            clear d0 d1 d2 UP
            go_wp2
            go_roundw
            case rel => exact ⟨i + 1, SZ, _, _, by omega, by go_num, bod, lowZ, hbd⟩
            case measure => simp [intOf]; omega
        by_cases k11 : kd = 11
        · subst k11
          as_aux_lemma =>
            by_cases hup0 : S.up = true
            · have pr := boX.out.ch.pow
              rw [hpp'.out, hup0] at pr
              obtain ⟨l1, hl1⟩ : ∃ l1, S.left - 1 = l1 := ⟨_, rfl⟩
              obtain ⟨bb, hbb⟩ : ∃ bb, (l1 != 0) = bb := ⟨_, rfl⟩
              have P1 := Lib.hid (powAct_yes w1.heap.size S.left S.keep S.junk wx pr lw.out.lo lw.out.hi l1 hl1.symm bb hbb)
              go_wp2_with fail
              refine P1.out.mono ?_
              rintro e wy ⟨rfl, p1, a1⟩
              obtain ⟨ch2, g2⟩ := boX.out.ch.power (by rw [hpp'.out]; exact a1) (up := bb) (left := l1) (keep := S.keep) (junk := S.junk) (by rw [hpp'.out]; exact p1.out) boX.out.ch.byte boX.out.ch.tall
              change Ch w.heap.size wy L (actS S bb l1) hv at ch2
              have bo2 := Lib.hid (boX.out.chip ch2 g2)
              have hb2 := hbX.trans (g2.under boX.out.ch hbX.size)
              have R1 := refA_act S wy hup0 lw.out.hi bb (by rw [hl1]; exact hbb)
              rw [hl1] at R1
              replace R1 := Lib.hid R1
              have lowZ := low.out.act bb
              rw [hl1] at lowZ
              replace lowZ := Lib.hid lowZ
              have rp4 := ref_pow L.n L.m S (actS S bb l1) M (ref_rest rfl rfl rfl rfl rfl rfl)
              have hpg : Hid ((actS S bb l1).page = S.page ∧ (actS S bb l1).hist = S.hist) := ⟨rfl, rfl⟩
              generalize actS S bb l1 = SZ at *
              clear P1 p1 a1 ch2 g2 boX hbX rX hl1 hbb pr
              go_wp2_with (first | (refine wpList_load_at rfl 30 _ rfl rp 0 rfl 36 _ _ 4 (pwF S) bo2.out.row (fun j hj => by rw [Nat.zero_add, rowOf_get _ _ _ (by omega)]; unfold refF; rw [if_pos hj]) Try.underlying30 rfl infoPow4 ?_))
              refine R1.out.mono ?_
              rintro e wz ⟨rfl, bz⟩
              have bo3 := Lib.hid (bo2.out.after bz)
              have hb3 := hb2.trans (bz.mono hb2.size)
              have q0 := Lib.hid (RowAt.new wz 30 (rowOf 4 (pwF noneS)))
              have bo4 := Lib.hid (bo3.out.after ((Below.refl _ wz).alloc (Nat.le_refl _) (.cells (rowOf 4 (pwF noneS)) 30)))
              have hb4 := hb3.alloc hb3.size (.cells (rowOf 4 (pwF noneS)) 30)
              have lz : rp < wz.heap.size := bo3.out.row.lt
              have b45 : Below wz.heap.size wz ((wz.alloc (.cells (rowOf 4 (pwF noneS)) 30)).setRow wz.heap.size (rowOf 4 (pwF SZ))) := below_setRow' ((Below.refl _ _).alloc (Nat.le_refl _) _) (Nat.le_refl _) _
              have bo5 := Lib.hid (bo3.out.after b45)
              have hb5 := hb3.trans (b45.mono hb3.size)
              have q5 := Lib.hid (q0.out.setRow (rowOf 4 (pwF SZ)))
              have rz := bo5.out.row.setRow (rowOf 139 (laidV (refF L.n L.m S M) (pwF SZ) 0 4))
              rw [rp4] at rz
              have boZ := Lib.hid (bo5.out.power (R' := SZ) (by first | exact hpg.out.1 | rfl) (by first | exact hpg.out.2 | rfl) ((Beside.refl (fun k => k = rp) _).setRow (.inl rfl) _) rz)
              have hbZ := below_setRow' hb5 bo5.out.base (rowOf 139 (refF L.n L.m SZ M))
              replace rp4 := Lib.hid rp4
              clear R1 bo2 hb2 bz rz lw low bo3 hb3 b45 hup0 bo4 hb4
              go_wp2_with (first | (refine wpList_new rfl (run_allocPow rfl _) ?_; generalize wz.alloc (.cells (rowOf 4 (pwF noneS)) 30) = ws at *) | (refine wpList_store_row rfl 30 _ _ rfl wz.heap.size (rowOf 4 (pwF SZ)) rfl rfl 30 (rowOf 4 (pwF noneS)) q0.out (infoPow _) (by rw [rowOf_size, rowOf_size]) (pwF_all _) ?_; generalize ws.setRow wz.heap.size (rowOf 4 (pwF SZ)) = wt at *) | (refine wpList_load_row rfl 30 _ rfl wz.heap.size rfl 30 (rowOf 4 (pwF SZ)) (0, 0) _ q5.out Try.underlying30 rfl (infoPow _) ?_) | (refine wpList_store_at rfl 30 _ _ rfl rp 0 139 4 (refF L.n L.m S M) (pwF SZ) rfl rfl 36 bo5.out.row infoPow4 (pwF_all _) (by decide) ?_; rw [rp4.out]; generalize wt.setRow rp (rowOf 139 (refF L.n L.m SZ M)) = wu at *; refine Hid.out ?_))
              unfold Hid
              clear q0 q5 bo5 hb5 rp4 lz
              have CT := Lib.hid (counts_any w.heap.size wu L _ _ boZ.out.ch)
              go_wp2_with fail
              refine CT.out.mono ?_
              rintro e wc ⟨rfl, bc⟩
              have bod : Hid (Both w.heap.size wc.drew L _ _ rp _ _) := boZ.out.after bc.drew
              have hbd := hbZ.trans (bc.drew.mono hbZ.size)
              have UP := Lib.hid (powUp_any L.pp _ _ _ _ wc.drew (Lib.hid bod.out.ch.pow))
              rw [hpp'.out] at UP
              have d0 := rf0 bod.out.row
              have d1 := rf137 bod.out.row
              have d2 := rf138 bod.out.row
              have hup := not_same SZ.up
              clear CT boZ hbZ bc
              go_wp2_with fail
              refine wp_region_one (by kernel_rfl) (by kernel_rfl) ?_
              generalize wc.drew = wd at *
              repeat (first | go_big_quiet_skip | (go_big_quiet_want; go_big_quiet_op; apply Exists.intro; refine ⟨UP.out, ?_⟩; go_big_quiet_on) | (go_big_quiet_want; go_big_quiet_op; go_big_quiet_on))
              refine wpQuiet_nil ?_
              clear d0 d1 d2 UP
              go_wp2
              go_roundw
              case rel => exact ⟨i + 1, SZ, _, _, by omega, by go_num, bod, lowZ, hbd⟩
              case measure => simp [intOf]; omega
            · replace hup0 : S.up = false := by simpa using hup0
              have pr := boX.out.ch.pow
              rw [hpp'.out, hup0] at pr
              have P1 := Lib.hid (powAct_no w1.heap.size S.left S.keep S.junk wx pr)
              go_wp2_with fail
              refine P1.out.mono ?_
              rintro e wy ⟨rfl, rfl⟩
              have bo2 := boX
              have hb2 := hbX
              have R1 := Lib.hid (refAct_off S wy hup0)
              have lowZ := Lib.hid (low.out.mono (Nat.le_succ i))
              have rp4 := ref_pow L.n L.m S S M fun j hj => rfl
              have hpg : Hid (S.page = S.page ∧ S.hist = S.hist) := ⟨rfl, rfl⟩
              clear P1 boX hbX rX pr
              go_wp2_with (first | (refine wpList_load_at rfl 30 _ rfl rp 0 rfl 36 _ _ 4 (pwF S) bo2.out.row (fun j hj => by rw [Nat.zero_add, rowOf_get _ _ _ (by omega)]; unfold refF; rw [if_pos hj]) Try.underlying30 rfl infoPow4 ?_))
              refine R1.out.mono ?_
              rintro e wz ⟨rfl, bz⟩
              have bo3 := Lib.hid (bo2.out.after bz)
              have hb3 := hb2.trans (bz.mono hb2.size)
              have q0 := Lib.hid (RowAt.new wz 30 (rowOf 4 (pwF noneS)))
              have bo4 := Lib.hid (bo3.out.after ((Below.refl _ wz).alloc (Nat.le_refl _) (.cells (rowOf 4 (pwF noneS)) 30)))
              have hb4 := hb3.alloc hb3.size (.cells (rowOf 4 (pwF noneS)) 30)
              have lz : rp < wz.heap.size := bo3.out.row.lt
              have b45 : Below wz.heap.size wz ((wz.alloc (.cells (rowOf 4 (pwF noneS)) 30)).setRow wz.heap.size (rowOf 4 (pwF S))) := below_setRow' ((Below.refl _ _).alloc (Nat.le_refl _) _) (Nat.le_refl _) _
              have bo5 := Lib.hid (bo3.out.after b45)
              have hb5 := hb3.trans (b45.mono hb3.size)
              have q5 := Lib.hid (q0.out.setRow (rowOf 4 (pwF S)))
              have rz := bo5.out.row.setRow (rowOf 139 (laidV (refF L.n L.m S M) (pwF S) 0 4))
              rw [rp4] at rz
              have boZ := Lib.hid (bo5.out.power (R' := S) (by first | exact hpg.out.1 | rfl) (by first | exact hpg.out.2 | rfl) ((Beside.refl (fun k => k = rp) _).setRow (.inl rfl) _) rz)
              have hbZ := below_setRow' hb5 bo5.out.base (rowOf 139 (refF L.n L.m S M))
              replace rp4 := Lib.hid rp4
              clear R1 bo2 hb2 bz rz lw low bo3 hb3 b45 hup0 bo4 hb4
              go_wp2_with (first | (refine wpList_new rfl (run_allocPow rfl _) ?_; generalize wz.alloc (.cells (rowOf 4 (pwF noneS)) 30) = ws at *) | (refine wpList_store_row rfl 30 _ _ rfl wz.heap.size (rowOf 4 (pwF S)) rfl rfl 30 (rowOf 4 (pwF noneS)) q0.out (infoPow _) (by rw [rowOf_size, rowOf_size]) (pwF_all _) ?_; generalize ws.setRow wz.heap.size (rowOf 4 (pwF S)) = wt at *) | (refine wpList_load_row rfl 30 _ rfl wz.heap.size rfl 30 (rowOf 4 (pwF S)) (0, 0) _ q5.out Try.underlying30 rfl (infoPow _) ?_) | (refine wpList_store_at rfl 30 _ _ rfl rp 0 139 4 (refF L.n L.m S M) (pwF S) rfl rfl 36 bo5.out.row infoPow4 (pwF_all _) (by decide) ?_; rw [rp4.out]; generalize wt.setRow rp (rowOf 139 (refF L.n L.m S M)) = wu at *; refine Hid.out ?_))
              unfold Hid
              clear q0 q5 bo5 hb5 rp4 lz
              have CT := Lib.hid (counts_any w.heap.size wu L _ _ boZ.out.ch)
              go_wp2_with fail
              refine CT.out.mono ?_
              rintro e wc ⟨rfl, bc⟩
              have bod : Hid (Both w.heap.size wc.drew L _ _ rp _ _) := boZ.out.after bc.drew
              have hbd := hbZ.trans (bc.drew.mono hbZ.size)
              have UP := Lib.hid (powUp_any L.pp _ _ _ _ wc.drew (Lib.hid bod.out.ch.pow))
              rw [hpp'.out] at UP
              have d0 := rf0 bod.out.row
              have d1 := rf137 bod.out.row
              have d2 := rf138 bod.out.row
              have hup := not_same S.up
              clear CT boZ hbZ bc
              go_wp2_with fail
              refine wp_region_one (by kernel_rfl) (by kernel_rfl) ?_
              generalize wc.drew = wd at *
              repeat (first | go_big_quiet_skip | (go_big_quiet_want; go_big_quiet_op; apply Exists.intro; refine ⟨UP.out, ?_⟩; go_big_quiet_on) | (go_big_quiet_want; go_big_quiet_op; go_big_quiet_on))
              refine wpQuiet_nil ?_
              clear d0 d1 d2 UP
              go_wp2
              go_roundw
              case rel => exact ⟨i + 1, S, _, _, by omega, by go_num, bod, lowZ, hbd⟩
              case measure => simp [intOf]; omega
        as_aux_lemma =>
          have boZ := boX
          have hbZ := hbX
          have lowZ := Lib.hid (low.out.mono (Nat.le_succ i))
          clear boX hbX rX lw low
          have CT := Lib.hid (counts_any w.heap.size wx L _ _ boZ.out.ch)
          go_wp2_with fail
          refine CT.out.mono ?_
          rintro e wc ⟨rfl, bc⟩
          have bod : Hid (Both w.heap.size wc.drew L _ _ rp _ _) := boZ.out.after bc.drew
          have hbd := hbZ.trans (bc.drew.mono hbZ.size)
          have UP := Lib.hid (powUp_any L.pp _ _ _ _ wc.drew (Lib.hid bod.out.ch.pow))
          rw [hpp'.out] at UP
          have d0 := rf0 bod.out.row
          have d1 := rf137 bod.out.row
          have d2 := rf138 bod.out.row
          have hup := not_same S.up
          clear CT boZ hbZ bc
          go_wp2_with fail
          refine wp_region_one (by kernel_rfl) (by kernel_rfl) ?_
          generalize wc.drew = wd at *
          repeat (first | go_big_quiet_skip | (go_big_quiet_want; go_big_quiet_op; apply Exists.intro; refine ⟨UP.out, ?_⟩; go_big_quiet_on) | (go_big_quiet_want; go_big_quiet_op; go_big_quiet_on))
          refine wpQuiet_nil ?_
          clear d0 d1 d2 UP
          go_wp2
          go_roundw
          case rel => exact ⟨i + 1, S, _, _, by omega, by go_num, bod, lowZ, hbd⟩
          case measure => simp [intOf]; omega
    · as_aux_lemma =>
        have lt : ¬ (i : Int) < (nl : Int) := by omega
        have i6 : i ≤ 120 := by omega
        have hk6 : S.hist.length ≤ 1000000 := (low.out.low (by omega)).hist
        clear SH hlt hi low
        go_wp2_with fail
        go_loopw [34] (fun v wr => ∃ z : Int, -1 ≤ z ∧ z ≤ (L.n : Int) + 1 ∧ v = .int .i64 z ∧ Hid (Both w.heap.size wr L S hv rp S M) ∧ Below w.heap.size w wr) (fun v _ => ((L.n : Int) + 1 - intOf v).toNat)
        case atStart => exact ⟨-1, by omega, by omega, rfl, bo, hb⟩
        case round =>
          clear bo hb lt
          obtain ⟨z, z1, z2, rfl, bo, hb⟩ := hrel
          have n64 : L.n ≤ 64 := n2.out
          by_cases hzn : z ≤ (L.n : Int)
          · have d0 : decide (z ≤ (L.n : Int)) = true := decide_eq_true hzn
            have z65 : z ≤ 64 := by omega
            by_cases hin : inB z L.n = true
            · obtain ⟨x, rfl, hx⟩ := inB_get hin
              have e1 : decide ((x : Int) ≥ 0) = true := decide_eq_true (by omega)
              have e2 : decide ((x : Int) < (L.n : Int)) = true := decide_eq_true (by omega)
              have cw := rfWear bo.out.row (i := x) (by omega)
              have x64 : (x : Int) < 64 := by omega
              have WR := Lib.hid (wear_yes w.heap.size wr L S hv bo.out.ch x hx)
              clear z1 z2 hin hzn n64
              go_wp2_with fail
              refine WR.out.mono ?_
              rintro e wy ⟨rfl, rfl⟩
              clear WR cw
              go_wp2
              go_roundw
              case rel => exact ⟨(x : Int) + 1, by omega, by omega, by go_num, bo, hb⟩
              case measure => simp [intOf]; omega
            · have hin' : inB z L.n = false := by simpa using hin
              have WR := Lib.hid (wear_no w.heap.size wr L S hv bo.out.ch z hin')
              by_cases z0 : z ≥ 0
              · have e1 : decide (z ≥ 0) = true := decide_eq_true z0
                have e2 : decide (z < (L.n : Int)) = false := decide_eq_false fun h => hin ((inB_iff _ _).2 ⟨z0, h⟩)
                replace z1 := Lib.hid z1
                replace hzn := Lib.hid hzn
                clear hin hin' z0 z2 n64
                have zl : -2 < z := by have := z1.out; omega
                go_wp2_with fail
                refine WR.out.mono ?_
                rintro e wy ⟨rfl, rfl⟩
                clear WR
                go_wp2
                go_roundw
                case rel => exact ⟨z + 1, by omega, by have := hzn.out; omega, by go_num, bo, hb⟩
                case measure => have := hzn.out; simp [intOf]; omega
              · have e1 : decide (z ≥ 0) = false := decide_eq_false z0
                replace z1 := Lib.hid z1
                replace hzn := Lib.hid hzn
                clear hin hin' z0 z2 n64
                have zl : -2 < z := by have := z1.out; omega
                go_wp2_with fail
                refine WR.out.mono ?_
                rintro e wy ⟨rfl, rfl⟩
                clear WR
                go_wp2
                go_roundw
                case rel => exact ⟨z + 1, by omega, by have := hzn.out; omega, by go_num, bo, hb⟩
                case measure => have := hzn.out; simp [intOf]; omega
          · have d0 : decide (z ≤ (L.n : Int)) = false := decide_eq_false hzn
            have bod := Lib.hid (bo.out.after ((Below.refl _ wr).drew))
            have hbd := hb.drew
            clear bo hb z1 z2 hzn n64
            go_wp2_with fail
            generalize hwd : wr.drew = wd at *
            refine wp_region_steady (fun w' => Below wd.heap.size wd w') [eqv (.pointer (some ⟨L.cp, 0, none⟩)), histv S.hist, eqv (.pointer (some ⟨rp, 136, none⟩)), eqv (.slice M.ap S.hist.length M.cp), eqv (.bool true), eqv (.bool true), eqv (.pointer (some ⟨L.cp, 0, none⟩)), eqv (.int .i64 (L.n : Nat)), eqv (.int .i64 (L.n : Nat)), eqv (.bool true), eqv (.bool true), eqv (.bool true), eqv (.pointer (some ⟨L.cp, 0, none⟩)), eqv (.int .i64 (L.m : Nat)), eqv (.int .i64 (L.m : Nat)), eqv (.bool true), eqv (.bool true), eqv (.bool true)] (by kernel_rfl) (by kernel_rfl) (by rw [hwd]; exact Below.refl _ _)
              (.cons (steady_eqv _) (.cons (steady_histv _) (.cons (steady_eqv _) (.cons (steady_eqv _) (.cons (steady_eqv _) (.cons (steady_eqv _) (.cons (steady_eqv _) (.cons (steady_eqv _) (.cons (steady_eqv _) (.cons (steady_eqv _) (.cons (steady_eqv _) (.cons (steady_eqv _) (.cons (steady_eqv _) (.cons (steady_eqv _) (.cons (steady_eqv _) (.cons (steady_eqv _) (.cons (steady_eqv _) (.cons (steady_eqv _) .nil)))))))))))))))))) ?_
            intro R hR
            refine wpRely_cons (fun w' hC hf => ?_) (fun v0 => ?_)
            · (repeat (first | (obtain ⟨rfl, hf⟩ := hf) | (obtain ⟨_, hf⟩ := hf)))
              have c136 := rf136 (bod.out.after hC).row; exact grows_eqv (by rfl) hC (by go_simp)
            simp only [Act.put, List.setIfInBounds_toArray, List.set_cons_succ, List.set_cons_zero, List.nil_append]
            refine wpRely_cons (fun w' hC hf => ?_) (fun v1 => ?_)
            · (repeat (first | (obtain ⟨rfl, hf⟩ := hf) | (obtain ⟨_, hf⟩ := hf)))
              refine grows_call (by rfl) (by go_simp) ((history_any w.heap.size w' L S hv (bod.out.after hC).ch hk6).mono fun e w'' h => ?_)
              obtain ⟨a9, c9, h1, h2, h3⟩ := h
              exact ⟨_, h1, hC.trans (h3.mono hC.size), ⟨a9, c9, rfl, h2.out⟩, fun x v hv9 => hR x v _ _ h3 hv9⟩
            simp only [Act.put, List.setIfInBounds_toArray, List.set_cons_succ, List.set_cons_zero, List.nil_append, List.cons_append]
            refine wpRely_cons (fun w' hC hf => ?_) (fun v2 => ?_)
            · (repeat (first | (obtain ⟨rfl, hf⟩ := hf) | (obtain ⟨_, hf⟩ := hf)))
              have c136 := rf136 (bod.out.after hC).row; exact grows_eqv (by rfl) hC (by go_simp)
            simp only [Act.put, List.setIfInBounds_toArray, List.set_cons_succ, List.set_cons_zero, List.nil_append, List.cons_append]
            refine wpRely_cons (fun w' hC hf => ?_) (fun v3 => ?_)
            · (repeat (first | (obtain ⟨rfl, hf⟩ := hf) | (obtain ⟨_, hf⟩ := hf)))
              have c136 := rf136 (bod.out.after hC).row; exact grows_eqv (by rfl) hC (by go_simp)
            simp only [Act.put, List.setIfInBounds_toArray, List.set_cons_succ, List.set_cons_zero, List.nil_append, List.cons_append]
            refine wpRely_cons (fun w' hC hf => ?_) (fun v4 => ?_)
            · obtain ⟨⟨a9, c9, rfl, h2⟩, rfl, _⟩ := hf
              exact grows_calls hR (fun _ _ hb h => h.trans (hb.mono h.size)) hC (by rfl) (by go_simp) (same10_any a9 M.ap c9 M.cp S.hist hk6 w' h2 (bod.out.after hC).ref.past)
            simp only [Act.put, List.setIfInBounds_toArray, List.set_cons_succ, List.set_cons_zero, List.nil_append, List.cons_append]
            refine wpRely_cons (fun w' hC hf => ?_) (fun v5 => ?_)
            · (repeat (first | (obtain ⟨rfl, hf⟩ := hf) | (obtain ⟨_, hf⟩ := hf)))
              have c136 := rf136 (bod.out.after hC).row; exact grows_eqv (by rfl) hC (by go_simp)
            simp only [Act.put, List.setIfInBounds_toArray, List.set_cons_succ, List.set_cons_zero, List.nil_append, List.cons_append]
            refine wpRely_cons (fun w' hC hf => ?_) (fun v6 => ?_)
            · (repeat (first | (obtain ⟨rfl, hf⟩ := hf) | (obtain ⟨_, hf⟩ := hf)))
              have c136 := rf136 (bod.out.after hC).row; exact grows_eqv (by rfl) hC (by go_simp)
            simp only [Act.put, List.setIfInBounds_toArray, List.set_cons_succ, List.set_cons_zero, List.nil_append, List.cons_append]
            refine wpRely_cons (fun w' hC hf => ?_) (fun v7 => ?_)
            · (repeat (first | (obtain ⟨rfl, hf⟩ := hf) | (obtain ⟨_, hf⟩ := hf)))
              exact grows_calls hR (fun _ _ hb h => h.trans (hb.mono h.size)) hC (by rfl) (by go_simp) ((segs_any w.heap.size w' L S hv (bod.out.after hC).ch).mono fun e w'' h => ⟨h.1, by rw [h.2]; exact Below.refl _ _⟩)
            simp only [Act.put, List.setIfInBounds_toArray, List.set_cons_succ, List.set_cons_zero, List.nil_append, List.cons_append]
            refine wpRely_cons (fun w' hC hf => ?_) (fun v8 => ?_)
            · (repeat (first | (obtain ⟨rfl, hf⟩ := hf) | (obtain ⟨_, hf⟩ := hf)))
              have c136 := rf136 (bod.out.after hC).row; exact grows_eqv (by rfl) hC (by go_simp)
            simp only [Act.put, List.setIfInBounds_toArray, List.set_cons_succ, List.set_cons_zero, List.nil_append, List.cons_append]
            refine wpRely_cons (fun w' hC hf => ?_) (fun v9 => ?_)
            · (repeat (first | (obtain ⟨rfl, hf⟩ := hf) | (obtain ⟨_, hf⟩ := hf)))
              have c136 := rf136 (bod.out.after hC).row; exact grows_eqv (by rfl) hC (by go_simp)
            simp only [Act.put, List.setIfInBounds_toArray, List.set_cons_succ, List.set_cons_zero, List.nil_append, List.cons_append]
            refine wpRely_cons (fun w' hC hf => ?_) (fun v10 => ?_)
            · (repeat (first | (obtain ⟨rfl, hf⟩ := hf) | (obtain ⟨_, hf⟩ := hf)))
              have c136 := rf136 (bod.out.after hC).row; exact grows_eqv (by rfl) hC (by go_simp)
            simp only [Act.put, List.setIfInBounds_toArray, List.set_cons_succ, List.set_cons_zero, List.nil_append, List.cons_append]
            refine wpRely_cons (fun w' hC hf => ?_) (fun v11 => ?_)
            · (repeat (first | (obtain ⟨rfl, hf⟩ := hf) | (obtain ⟨_, hf⟩ := hf)))
              have c136 := rf136 (bod.out.after hC).row; exact grows_eqv (by rfl) hC (by go_simp)
            simp only [Act.put, List.setIfInBounds_toArray, List.set_cons_succ, List.set_cons_zero, List.nil_append, List.cons_append]
            refine wpRely_cons (fun w' hC hf => ?_) (fun v12 => ?_)
            · (repeat (first | (obtain ⟨rfl, hf⟩ := hf) | (obtain ⟨_, hf⟩ := hf)))
              have c136 := rf136 (bod.out.after hC).row; exact grows_eqv (by rfl) hC (by go_simp)
            simp only [Act.put, List.setIfInBounds_toArray, List.set_cons_succ, List.set_cons_zero, List.nil_append, List.cons_append]
            refine wpRely_cons (fun w' hC hf => ?_) (fun v13 => ?_)
            · (repeat (first | (obtain ⟨rfl, hf⟩ := hf) | (obtain ⟨_, hf⟩ := hf)))
              exact grows_calls hR (fun _ _ hb h => h.trans (hb.mono h.size)) hC (by rfl) (by go_simp) ((pages_any w.heap.size w' L S hv (bod.out.after hC).ch).mono fun e w'' h => ⟨h.1, by rw [h.2]; exact Below.refl _ _⟩)
            simp only [Act.put, List.setIfInBounds_toArray, List.set_cons_succ, List.set_cons_zero, List.nil_append, List.cons_append]
            refine wpRely_cons (fun w' hC hf => ?_) (fun v14 => ?_)
            · (repeat (first | (obtain ⟨rfl, hf⟩ := hf) | (obtain ⟨_, hf⟩ := hf)))
              have c136 := rf136 (bod.out.after hC).row; exact grows_eqv (by rfl) hC (by go_simp)
            simp only [Act.put, List.setIfInBounds_toArray, List.set_cons_succ, List.set_cons_zero, List.nil_append, List.cons_append]
            refine wpRely_cons (fun w' hC hf => ?_) (fun v15 => ?_)
            · (repeat (first | (obtain ⟨rfl, hf⟩ := hf) | (obtain ⟨_, hf⟩ := hf)))
              have c136 := rf136 (bod.out.after hC).row; exact grows_eqv (by rfl) hC (by go_simp)
            simp only [Act.put, List.setIfInBounds_toArray, List.set_cons_succ, List.set_cons_zero, List.nil_append, List.cons_append]
            refine wpRely_cons (fun w' hC hf => ?_) (fun v16 => ?_)
            · (repeat (first | (obtain ⟨rfl, hf⟩ := hf) | (obtain ⟨_, hf⟩ := hf)))
              have c136 := rf136 (bod.out.after hC).row; exact grows_eqv (by rfl) hC (by go_simp)
            simp only [Act.put, List.setIfInBounds_toArray, List.set_cons_succ, List.set_cons_zero, List.nil_append, List.cons_append]
            refine wpRely_cons (fun w' hC hf => ?_) (fun v17 => ?_)
            · (repeat (first | (obtain ⟨rfl, hf⟩ := hf) | (obtain ⟨_, hf⟩ := hf)))
              have c136 := rf136 (bod.out.after hC).row; exact grows_eqv (by rfl) hC (by go_simp)
            simp only [Act.put, List.setIfInBounds_toArray, List.set_cons_succ, List.set_cons_zero, List.nil_append, List.cons_append]
            refine wpRely_nil fun w9 hC hf => ?_
            have b9 := hbd.trans (hC.mono hbd.size)
            obtain ⟨_, _, _, _, _, _, _, _, _, _, _, _, _, _, _, _, _, rfl, _⟩ := hf
            go_wp2
            go_ret
            exact ⟨rfl, b9⟩


end Go.Proofs.Ytogeccmeaacgnaa
