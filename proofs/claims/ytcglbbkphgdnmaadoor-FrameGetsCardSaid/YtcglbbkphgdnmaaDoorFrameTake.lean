/-
  The parts that a page is read by, in memory, and takeAll.
-/
import Derived.Test.YtcglbbkphgdnmaaDoorFrameSum
import Derived.Test.YtcglbbkphgdnmaaDoorFrameShelf
import Derived.Test.YtcglbbkphgdnmaaDoorTakeNum
import Derived.Test.YtcglbbkphgdnmaaDoorMacEq
import Derived.Test.YtcglbbkphgdnmaaDoorGetCell
import Derived.Test.YtcglbbkphgdnmaaDoorApart
namespace Go.Proofs.YtcglbbkphgdnmaaDoor
open Go.RowKit
set_option linter.unusedVariables false

/-- What lies in memory while a page is read: the answer, the frame so far, the length, what the parts hold. -/
structure GW (w0 : World) (q K N : Nat) (T : ByteArray) (M : Nat) (w : World) : Prop where
  rest : Below q w0 w
  r : RowAt w (q) 24 #[.int .u8 0, .int .u64 0, .string ByteArray.empty]
  f : RowAt w (q + 1) 24 #[.int .u8 (K : Int), .int .u64 (N : Int), .string T]
  l : RowAt w (q + 2) 3 #[.int .i64 (M : Int)]
  s1 : RowAt w (q + 3) 3 #[.int .i64 1]
  k1 : RowAt w (q + 4) 50 #[.func (.func 20) #[] #[.pointer (some ⟨q + 1, 0, none⟩)]]
  s2 : RowAt w (q + 5) 3 #[.int .i64 8]
  k2 : RowAt w (q + 6) 50 #[.func (.func 21) #[] #[.pointer (some ⟨q + 1, 0, none⟩)]]
  s3 : RowAt w (q + 7) 3 #[.int .i64 2]
  k3 : RowAt w (q + 8) 50 #[.func (.func 22) #[] #[.pointer (some ⟨q + 2, 0, none⟩)]]
  ps : RowAt w (q + 9) 48 #[.func (.func 18) #[] #[], .func (.func 41) #[] #[.pointer (some ⟨q + 3, 0, none⟩), .pointer (some ⟨q + 4, 0, none⟩)], .func (.func 41) #[] #[.pointer (some ⟨q + 5, 0, none⟩), .pointer (some ⟨q + 6, 0, none⟩)], .func (.func 41) #[] #[.pointer (some ⟨q + 7, 0, none⟩), .pointer (some ⟨q + 8, 0, none⟩)], .func (.func 23) #[] #[.pointer (some ⟨q + 2, 0, none⟩), .pointer (some ⟨q + 1, 0, none⟩)], .func (.func 24) #[] #[]]

section
variable {w0 w w' : World} {q K N M : Nat} {T : ByteArray}
theorem GW.after (h : GW w0 q K N T M w) (hb : Below w.heap.size w w') : GW w0 q K N T M w' := ⟨h.rest.trans (hb.mono (by have := h.r.lt; omega)), h.r.below hb h.r.lt, h.f.below hb h.f.lt, h.l.below hb h.l.lt, h.s1.below hb h.s1.lt, h.k1.below hb h.k1.lt, h.s2.below hb h.s2.lt, h.k2.below hb h.k2.lt, h.s3.below hb h.s3.lt, h.k3.below hb h.k3.lt, h.ps.below hb h.ps.lt⟩
theorem GW.setK (h : GW w0 q K N T M w) (k : Nat) : GW w0 q k N T M (w.setCell ⟨q + 1, 0, none⟩ (.int .u8 (k : Int))) := ⟨h.rest.setCell (by show q ≤ q + 1; omega) _, h.r.setOther _ _ (by show _ ≠ q + 1; omega), h.f.set _ _, h.l.setOther _ _ (by show _ ≠ q + 1; omega), h.s1.setOther _ _ (by show _ ≠ q + 1; omega), h.k1.setOther _ _ (by show _ ≠ q + 1; omega), h.s2.setOther _ _ (by show _ ≠ q + 1; omega), h.k2.setOther _ _ (by show _ ≠ q + 1; omega), h.s3.setOther _ _ (by show _ ≠ q + 1; omega), h.k3.setOther _ _ (by show _ ≠ q + 1; omega), h.ps.setOther _ _ (by show _ ≠ q + 1; omega)⟩
theorem GW.setN (h : GW w0 q K N T M w) (k : Nat) : GW w0 q K k T M (w.setCell ⟨q + 1, 1, none⟩ (.int .u64 (k : Int))) := ⟨h.rest.setCell (by show q ≤ q + 1; omega) _, h.r.setOther _ _ (by show _ ≠ q + 1; omega), h.f.set _ _, h.l.setOther _ _ (by show _ ≠ q + 1; omega), h.s1.setOther _ _ (by show _ ≠ q + 1; omega), h.k1.setOther _ _ (by show _ ≠ q + 1; omega), h.s2.setOther _ _ (by show _ ≠ q + 1; omega), h.k2.setOther _ _ (by show _ ≠ q + 1; omega), h.s3.setOther _ _ (by show _ ≠ q + 1; omega), h.k3.setOther _ _ (by show _ ≠ q + 1; omega), h.ps.setOther _ _ (by show _ ≠ q + 1; omega)⟩
theorem GW.setT (h : GW w0 q K N T M w) (k : ByteArray) : GW w0 q K N k M (w.setCell ⟨q + 1, 2, none⟩ (.string k)) := ⟨h.rest.setCell (by show q ≤ q + 1; omega) _, h.r.setOther _ _ (by show _ ≠ q + 1; omega), h.f.set _ _, h.l.setOther _ _ (by show _ ≠ q + 1; omega), h.s1.setOther _ _ (by show _ ≠ q + 1; omega), h.k1.setOther _ _ (by show _ ≠ q + 1; omega), h.s2.setOther _ _ (by show _ ≠ q + 1; omega), h.k2.setOther _ _ (by show _ ≠ q + 1; omega), h.s3.setOther _ _ (by show _ ≠ q + 1; omega), h.k3.setOther _ _ (by show _ ≠ q + 1; omega), h.ps.setOther _ _ (by show _ ≠ q + 1; omega)⟩
theorem GW.setM (h : GW w0 q K N T M w) (k : Nat) : GW w0 q K N T k (w.setCell ⟨q + 2, 0, none⟩ (.int .i64 (k : Int))) := ⟨h.rest.setCell (by show q ≤ q + 2; omega) _, h.r.setOther _ _ (by show _ ≠ q + 2; omega), h.f.setOther _ _ (by show _ ≠ q + 2; omega), h.l.set _ _, h.s1.setOther _ _ (by show _ ≠ q + 2; omega), h.k1.setOther _ _ (by show _ ≠ q + 2; omega), h.s2.setOther _ _ (by show _ ≠ q + 2; omega), h.k2.setOther _ _ (by show _ ≠ q + 2; omega), h.s3.setOther _ _ (by show _ ≠ q + 2; omega), h.k3.setOther _ _ (by show _ ≠ q + 2; omega), h.ps.setOther _ _ (by show _ ≠ q + 2; omega)⟩
end

set_option maxHeartbeats 400000 in
set_option maxRecDepth 8000 in
theorem keepK (w0 : World) (q K N M : Nat) (T : ByteArray) (n : Nat) (hn : n < 256) (b : Bool) (hb : ((n : Int) != 0) = b) (w : World) (h : Hid (GW w0 q K N T M w)) :
    Calls Tryd.prog 20 #[.int .u64 (n : Int), .pointer (some ⟨q + 1, 0, none⟩)] w fun e w' => e = .returned (.bool b) ∧ GW w0 q n N T M w' := by
  have H := Lib.hid (h.out.setK n)
  have c := h.out.f.one 0 rfl
  have f := h.out.f.free 0
  clear h
  go_enter Tryd.func20, Tryd.ntmps20
  go_wp2
  go_ret
  exact ⟨rfl, H.out⟩

set_option maxHeartbeats 400000 in
set_option maxRecDepth 8000 in
theorem keepN (w0 : World) (q K N M : Nat) (T : ByteArray) (n : Nat) (hn : n < 18446744073709551616) (w : World) (h : Hid (GW w0 q K N T M w)) :
    Calls Tryd.prog 21 #[.int .u64 (n : Int), .pointer (some ⟨q + 1, 0, none⟩)] w fun e w' => e = .returned (.bool true) ∧ GW w0 q K n T M w' := by
  have H := Lib.hid (h.out.setN n)
  have c := h.out.f.one 1 rfl
  have f := h.out.f.free 1
  clear h
  go_enter Tryd.func21, Tryd.ntmps21
  go_wp2
  go_ret
  exact ⟨rfl, H.out⟩

set_option maxHeartbeats 400000 in
set_option maxRecDepth 8000 in
theorem keepM (w0 : World) (q K N M : Nat) (T : ByteArray) (n : Nat) (hn : n < 65536) (b : Bool) (hb : decide ((n : Int) ≤ 229) = b) (w : World) (h : Hid (GW w0 q K N T M w)) :
    Calls Tryd.prog 22 #[.int .u64 (n : Int), .pointer (some ⟨q + 2, 0, none⟩)] w fun e w' => e = .returned (.bool b) ∧ GW w0 q K N T n w' := by
  have H := Lib.hid (h.out.setM n)
  have c := h.out.l.one 0 rfl
  have f := h.out.l.free 0
  clear h
  go_enter Tryd.func22, Tryd.ntmps22
  go_wp2
  go_ret
  exact ⟨rfl, H.out⟩

set_option maxHeartbeats 400000 in
set_option maxRecDepth 8000 in
theorem partK (w0 : World) (q K N M : Nat) (T : ByteArray) (s : ByteArray) (hs : 1 ≤ s.size) (n : Nat) (hr : Hid (numV (s.data.toList.take 1) = n)) (b : Bool) (hb : ((n : Int) != 0) = b) (w : World) (h : Hid (GW w0 q K N T M w)) :
    Calls Tryd.prog 41 #[.string s, .pointer (some ⟨q + 3, 0, none⟩), .pointer (some ⟨q + 4, 0, none⟩)] w fun e w' => e = .returned (.tuple #[.string (bs (s.data.toList.drop 1)), .bool b]) ∧ GW w0 q n N T M w' := by
  have hn : n < 256 := by rw [← hr.out]; exact numV_le _ 1 (by simp; omega)
  have c := h.out.s1.one 0 rfl
  have C : Hid (Calls Tryd.prog 42 #[.string s, .int .i64 1] w fun e w' => e = .returned (.tuple #[.int .u64 (n : Int), .string (bs (s.data.toList.drop 1)), .int .i64 0]) ∧ Below w.heap.size w w') := by
    have := takeNumber_yes s 1 (by decide) (by decide) (by unfold Hid; show 1 ≤ _; rw [ba_size]; exact hs) w
    rw [← hr.out]
    exact this
  clear hr
  generalize bs (s.data.toList.drop 1) = R at *
  go_enter Tryd.func41, Tryd.ntmps41
  go_wp2_with fail
  refine C.out.mono ?_
  rintro e w1 ⟨rfl, hb1⟩
  replace h : Hid (GW w0 q K N T M w1) := h.out.after hb1
  have c2 := h.out.k1.one 0 rfl
  clear c C hb1
  go_wp2_with fail
  refine (keepK w0 q K N M T n hn b hb w1 h).mono ?_
  rintro e w2 ⟨rfl, h2⟩
  go_wp2
  go_ret2
  exact ⟨rfl, h2⟩

set_option maxHeartbeats 400000 in
set_option maxRecDepth 8000 in
theorem partN (w0 : World) (q K N M : Nat) (T : ByteArray) (s : ByteArray) (hs : 8 ≤ s.size) (n : Nat) (hr : Hid (numV (s.data.toList.take 8) = n)) (w : World) (h : Hid (GW w0 q K N T M w)) :
    Calls Tryd.prog 41 #[.string s, .pointer (some ⟨q + 5, 0, none⟩), .pointer (some ⟨q + 6, 0, none⟩)] w fun e w' => e = .returned (.tuple #[.string (bs (s.data.toList.drop 8)), .bool true]) ∧ GW w0 q K n T M w' := by
  have hn : n < 18446744073709551616 := by rw [← hr.out]; exact numV_le _ 8 (by simp; omega)
  have c := h.out.s2.one 0 rfl
  have C : Hid (Calls Tryd.prog 42 #[.string s, .int .i64 8] w fun e w' => e = .returned (.tuple #[.int .u64 (n : Int), .string (bs (s.data.toList.drop 8)), .int .i64 0]) ∧ Below w.heap.size w w') := by
    have := takeNumber_yes s 8 (by decide) (by decide) (by unfold Hid; show 8 ≤ _; rw [ba_size]; exact hs) w
    rw [← hr.out]
    exact this
  clear hr
  generalize bs (s.data.toList.drop 8) = R at *
  go_enter Tryd.func41, Tryd.ntmps41
  go_wp2_with fail
  refine C.out.mono ?_
  rintro e w1 ⟨rfl, hb1⟩
  replace h : Hid (GW w0 q K N T M w1) := h.out.after hb1
  have c2 := h.out.k2.one 0 rfl
  clear c C hb1
  go_wp2_with fail
  refine (keepN w0 q K N M T n hn w1 h).mono ?_
  rintro e w2 ⟨rfl, h2⟩
  go_wp2
  go_ret2
  exact ⟨rfl, h2⟩

set_option maxHeartbeats 400000 in
set_option maxRecDepth 8000 in
theorem partM (w0 : World) (q K N M : Nat) (T : ByteArray) (s : ByteArray) (hs : 2 ≤ s.size) (n : Nat) (hr : Hid (numV (s.data.toList.take 2) = n)) (b : Bool) (hb : decide ((n : Int) ≤ 229) = b) (w : World) (h : Hid (GW w0 q K N T M w)) :
    Calls Tryd.prog 41 #[.string s, .pointer (some ⟨q + 7, 0, none⟩), .pointer (some ⟨q + 8, 0, none⟩)] w fun e w' => e = .returned (.tuple #[.string (bs (s.data.toList.drop 2)), .bool b]) ∧ GW w0 q K N T n w' := by
  have hn : n < 65536 := by rw [← hr.out]; exact numV_le _ 2 (by simp; omega)
  have c := h.out.s3.one 0 rfl
  have C : Hid (Calls Tryd.prog 42 #[.string s, .int .i64 2] w fun e w' => e = .returned (.tuple #[.int .u64 (n : Int), .string (bs (s.data.toList.drop 2)), .int .i64 0]) ∧ Below w.heap.size w w') := by
    have := takeNumber_yes s 2 (by decide) (by decide) (by unfold Hid; show 2 ≤ _; rw [ba_size]; exact hs) w
    rw [← hr.out]
    exact this
  clear hr
  generalize bs (s.data.toList.drop 2) = R at *
  go_enter Tryd.func41, Tryd.ntmps41
  go_wp2_with fail
  refine C.out.mono ?_
  rintro e w1 ⟨rfl, hb1⟩
  replace h : Hid (GW w0 q K N T M w1) := h.out.after hb1
  have c2 := h.out.k3.one 0 rfl
  clear c C hb1
  go_wp2_with fail
  refine (keepM w0 q K N M T n hn b hb w1 h).mono ?_
  rintro e w2 ⟨rfl, h2⟩
  go_wp2
  go_ret2
  exact ⟨rfl, h2⟩

set_option maxHeartbeats 400000 in
set_option maxRecDepth 8000 in
theorem partT (w0 : World) (q K N M : Nat) (T : ByteArray) (s : ByteArray) (hs : s.size ≤ 100000) (hM : M ≤ s.size) (w : World) (h : Hid (GW w0 q K N T M w)) :
    Calls Tryd.prog 23 #[.string s, .pointer (some ⟨q + 2, 0, none⟩), .pointer (some ⟨q + 1, 0, none⟩)] w fun e w' => e = .returned (.tuple #[.string (bs (s.data.toList.drop M)), .bool true]) ∧ GW w0 q K N (bs (s.data.toList.take M)) M w' := by
  have E1 : Hid (s.extract 0 M = bs (s.data.toList.take M)) := Lib.extract_upto s M
  have E2 : Hid (s.extract M s.size = bs (s.data.toList.drop M)) := Lib.extract_from s M
  rw [← E1.out, ← E2.out]
  have H := Lib.hid (h.out.setT (s.extract 0 M))
  have c := h.out.f.one 2 rfl
  have f := h.out.f.free 2
  have c2 := h.out.l.one 0 rfl
  have c3 := H.out.l.one 0 rfl
  clear h
  go_enter Tryd.func23, Tryd.ntmps23
  go_wp2
  go_ret2
  exact ⟨rfl, H.out⟩

set_option maxHeartbeats 400000 in
set_option maxRecDepth 8000 in
theorem takeFilling_any (s : ByteArray) (hs : s.size ≤ 100000) (b : Bool) (hb : decide (s.data.toList = List.replicate s.size 0) = b) (w : World) :
    Calls Tryd.prog 24 #[.string s] w fun e w' => e = .returned (.tuple #[.string ByteArray.empty, .bool b]) ∧ Below w.heap.size w w' := by
  have e9 : Hid ((Lib.trimB s.data.toList 0).isEmpty = b) := by
    unfold Hid
    rw [← hb, Bool.eq_iff_iff, List.isEmpty_iff, decide_eq_true_iff, trimB_nil, ba_size]
  clear hb
  have C := Lib.hid (trim_any s 0 (by decide) w (by omega))
  go_enter Tryd.func24, Tryd.ntmps24
  go_wp2_with fail
  refine C.out.mono ?_
  rintro e w1 ⟨rfl, hb1⟩
  go_wp2
  go_ret2
  exact ⟨by rw [← e9.out]; rfl, hb1⟩

set_option maxHeartbeats 400000 in
set_option maxRecDepth 8000 in
theorem takeSum_no (s : ByteArray) (hs : s.size ≠ 256) (w : World) :
    Calls Tryd.prog 18 #[.string s] w fun e w' => e = .returned (.tuple #[.string ByteArray.empty, .bool false]) ∧ w' = w := by
  have d : ((s.size : Int) != 256) = true := by simp; omega
  go_enter Tryd.func18, Tryd.ntmps18
  go_wp2
  go_ret2
  exact ⟨rfl, rfl⟩

set_option maxHeartbeats 400000 in
set_option maxRecDepth 8000 in
theorem takeSum_yes (s : ByteArray) (hs : s.size = 256) (b : Bool) (hb : Hid (decide (s.data.toList.drop 240 = sumL (s.data.toList.take 240)) = b)) (w : World) (hk : Hid (KRow w)) :
    Calls Tryd.prog 18 #[.string s] w fun e w' => e = .returned (.tuple #[.string (bs (s.data.toList.take 240)), .bool b]) ∧ Below w.heap.size w w' := by
  have d : ((s.size : Int) != 256) = false := by simp; omega
  have E1 : Hid (s.extract 0 240 = bs (s.data.toList.take 240)) := Lib.extract_upto s 240
  have E2 : Hid (s.extract 240 256 = bs (s.data.toList.drop 240)) := by rw [← hs]; exact Lib.extract_from s 240
  have EB : Hid (((bs (s.data.toList.drop 240)).toList == (bs (sumL (s.data.toList.take 240))).toList) = b) := by
    unfold Hid
    rw [← hb.out, Bool.eq_iff_iff, beq_iff_eq, decide_eq_true_iff, ByteArray.toList_eq, ByteArray.toList_eq]
    exact Iff.rfl
  have S : Hid (∀ w', Below w.heap.size w w' → Calls Tryd.prog 14 #[.string (bs (s.data.toList.take 240))] w' fun e w'' => e = .returned (.string (bs (sumL (s.data.toList.take 240)))) ∧ Below w'.heap.size w' w'') := fun w' hw =>
    sumOf_any (bs (s.data.toList.take 240)) (by rw [bs_size, List.length_take, ba_size]; omega) w' (hk.out.below hw hk.out.1 hw.size)
  have S2 : Hid (∀ w', Calls Tryd.prog 40 #[.string (bs (s.data.toList.drop 240)), .string (bs (sumL (s.data.toList.take 240)))] w' fun e w'' => e = .returned (.bool b) ∧ w'' = w') := fun w' => by
    rw [← EB.out]
    exact same_any _ _ w'
  clear EB hb hk
  generalize bs (sumL (s.data.toList.take 240)) = B at *
  generalize bs (s.data.toList.take 240) = A at *
  generalize bs (s.data.toList.drop 240) = D at *
  go_enter Tryd.func18, Tryd.ntmps18
  go_wp2
  go_quiet (fail)
  rw [E1.out, E2.out]
  have b0 : Below w.heap.size w (w.drewN nq) := ⟨rfl, rfl, rfl, Nat.le_refl _, fun _ _ => rfl⟩
  generalize w.drewN nq = w1 at *
  go_wp2_with fail
  refine (S.out w1 b0).mono ?_
  rintro e w2 ⟨rfl, hb⟩
  replace b0 : Below w.heap.size w w2 := b0.trans (hb.mono b0.size)
  clear hb S
  go_wp2_with fail
  refine (S2.out w2).mono ?_
  rintro e w3 ⟨rfl, rfl⟩
  go_wp2
  go_ret2
  exact ⟨rfl, b0⟩

end Go.Proofs.YtcglbbkphgdnmaaDoor
