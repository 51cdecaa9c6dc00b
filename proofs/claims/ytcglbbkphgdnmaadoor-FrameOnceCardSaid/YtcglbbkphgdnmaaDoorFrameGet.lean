/-
  Contract: Get.
-/
import Derived.Test.YtcglbbkphgdnmaaDoorFrameAll
import Derived.Test.YtcglbbkphgdnmaaDoorWant
namespace Go.Proofs.YtcglbbkphgdnmaaDoor
open Go.RowKit
set_option linter.unusedVariables false

/-- What takeNumber makes: a part, with its size and its test. -/
def MadePart (k : Int) (v : Value) (w : World) (e : Ending) (w' : World) : Prop :=
  e = .returned (.func (.func 41) #[] #[.pointer (some ⟨w.heap.size, 0, none⟩), .pointer (some ⟨w.heap.size + 1, 0, none⟩)]) ∧ w'.heap.size = w.heap.size + 2 ∧
    RowAt w' w.heap.size 3 #[.int .i64 k] ∧ RowAt w' (w.heap.size + 1) 50 #[v] ∧ Below w.heap.size w w'

set_option maxHeartbeats 400000 in
set_option maxRecDepth 8000 in
theorem takeNumber_make (k : Int) (F : Nat) (cs : Array Value) (w : World) :
    Calls Tryd.prog 19 #[.int .i64 k, .func (.func F) #[] cs] w (MadePart k (.func (.func F) #[] cs) w) := by
  have r1 := Lib.hid (RowAt.new w 3 #[.int .i64 k])
  have r2 := Lib.hid (RowAt.new (w.alloc (.cells #[.int .i64 k] 3)) 50 #[.func (.func F) #[] cs])
  go_enter Tryd.func19, Tryd.ntmps19
  go_wp2
  go_ret
  refine ⟨rfl, by simp, r1.out.alloc _, ?_, ((Below.refl _ _).alloc (Nat.le_refl _) _).alloc (by simp) _⟩
  have := r2.out
  simpa using this

/-- Get's answers. -/
def gotV (P : List UInt8) : Value := if okB P = true then .agg #[.int .u8 (kindL P : Int), .int .u64 (seqL P : Int), .string (bs (textL P))] else .agg #[.int .u8 0, .int .u64 0, .string ByteArray.empty]
def gotE (P : List UInt8) : Int := if okB P = true then 0 else 120

theorem size_frame (cs : Array Value) (h : cs.size = 3) : (Tryd.prog.info? 24).map (·.size) = some cs.size := by rw [h]; kernel_rfl

set_option maxHeartbeats 1000000 in
set_option maxRecDepth 8000 in
theorem get_list (P : List UInt8) (hs : P.length ≤ 100000) (w : World) (hk : Hid (KRow w)) :
    Calls Tryd.prog 9 #[.string (bs P)] w fun e w' => e = .returned (.tuple #[gotV P, .int .i64 (gotE P)]) ∧ Below w.heap.size w w' := by
  obtain ⟨w3, hw3⟩ : ∃ w3, ((w.alloc (.cells #[.int .u8 0, .int .u64 0, .string ByteArray.empty] 24)).alloc (.cells #[.int .u8 0, .int .u64 0, .string ByteArray.empty] 24)).alloc (.cells #[.int .i64 0] 3) = w3 := ⟨_, rfl⟩
  have z3 : w3.heap.size = w.heap.size + 3 := by rw [← hw3]; simp
  have b3 : Below w.heap.size w w3 := by rw [← hw3]; exact (((Below.refl _ _).alloc (Nat.le_refl _) _).alloc (by simp) _).alloc (by simp; omega) _
  have r : RowAt w3 w.heap.size 24 #[.int .u8 0, .int .u64 0, .string ByteArray.empty] := by rw [← hw3]; exact ((RowAt.new _ _ _).alloc _).alloc _
  have f : RowAt w3 (w.heap.size + 1) 24 #[.int .u8 0, .int .u64 0, .string ByteArray.empty] := by
    have := (RowAt.new (w.alloc (.cells #[.int .u8 0, .int .u64 0, .string ByteArray.empty] 24)) 24 #[.int .u8 0, .int .u64 0, .string ByteArray.empty]).alloc (.cells #[.int .i64 0] 3)
    rw [hw3] at this
    simpa using this
  have l : RowAt w3 (w.heap.size + 2) 3 #[.int .i64 0] := by
    have := RowAt.new ((w.alloc (.cells #[.int .u8 0, .int .u64 0, .string ByteArray.empty] 24)).alloc (.cells #[.int .u8 0, .int .u64 0, .string ByteArray.empty] 24)) 3 #[.int .i64 0]
    rw [hw3] at this
    simpa using this
  have hq : Hid (0 < w.heap.size) := hk.out.1
  have HW := Lib.hid hw3
  clear hw3
  replace r := Lib.hid r
  replace f := Lib.hid f
  replace l := Lib.hid l
  replace z3 := Lib.hid z3
  go_enter Tryd.func9, Tryd.ntmps9
  go_wp2_with fail
  rw [show w.heap.size + 1 + 1 = w.heap.size + 2 from rfl, show ((w.alloc (.cells #[.int .u8 0, .int .u64 0, .string ⟨#[]⟩] 24)).alloc (.cells #[.int .u8 0, .int .u64 0, .string ⟨#[]⟩] 24)).alloc (.cells #[.int .i64 0] 3) = w3 from HW.out]
  refine (takeNumber_make 1 _ _ w3).mono ?_
  rintro e w4 ⟨rfl, z4, s1, k1, hb⟩
  rw [z3.out] at z4 s1 k1 ⊢
  replace z4 : Hid (w4.heap.size = w.heap.size + 5) := z4
  replace s1 : Hid (RowAt w4 (w.heap.size + 3) 3 #[.int .i64 1]) := s1
  replace k1 := Lib.hid k1
  replace r := Lib.hid (r.out.below hb r.out.lt)
  replace f := Lib.hid (f.out.below hb f.out.lt)
  replace l := Lib.hid (l.out.below hb l.out.lt)
  replace b3 : Below w.heap.size w w4 := b3.trans (hb.mono b3.size)
  clear hb z3 HW
  go_wp2_with fail
  refine (takeNumber_make 8 _ _ w4).mono ?_
  rintro e w5 ⟨rfl, z5, s2, k2, hb⟩
  rw [z4.out] at z5 s2 k2 ⊢
  replace z5 : Hid (w5.heap.size = w.heap.size + 7) := z5
  replace s2 := Lib.hid s2
  replace k2 := Lib.hid k2
  replace r := Lib.hid (r.out.below hb r.out.lt)
  replace f := Lib.hid (f.out.below hb f.out.lt)
  replace l := Lib.hid (l.out.below hb l.out.lt)
  replace s1 := Lib.hid (s1.out.below hb s1.out.lt)
  replace k1 := Lib.hid (k1.out.below hb k1.out.lt)
  replace b3 : Below w.heap.size w w5 := b3.trans (hb.mono b3.size)
  clear hb z4
  go_wp2_with fail
  refine (takeNumber_make 2 _ _ w5).mono ?_
  rintro e w6 ⟨rfl, z6, s3, k3, hb⟩
  rw [z5.out] at z6 s3 k3 ⊢
  replace z6 : Hid (w6.heap.size = w.heap.size + 9) := z6
  replace s3 := Lib.hid s3
  replace k3 := Lib.hid k3
  replace r := Lib.hid (r.out.below hb r.out.lt)
  replace f := Lib.hid (f.out.below hb f.out.lt)
  replace l := Lib.hid (l.out.below hb l.out.lt)
  replace s1 := Lib.hid (s1.out.below hb s1.out.lt)
  replace k1 := Lib.hid (k1.out.below hb k1.out.lt)
  replace s2 := Lib.hid (s2.out.below hb s2.out.lt)
  replace k2 := Lib.hid (k2.out.below hb k2.out.lt)
  replace b3 : Below w.heap.size w w6 := b3.trans (hb.mono b3.size)
  clear hb z5
  have ps : Hid (RowAt (w6.alloc (.cells #[.func (.func 18) #[] #[], .func (.func 41) #[] #[.pointer (some ⟨w.heap.size + 3, 0, none⟩), .pointer (some ⟨w.heap.size + 4, 0, none⟩)], .func (.func 41) #[] #[.pointer (some ⟨w.heap.size + 5, 0, none⟩), .pointer (some ⟨w.heap.size + 6, 0, none⟩)], .func (.func 41) #[] #[.pointer (some ⟨w.heap.size + 7, 0, none⟩), .pointer (some ⟨w.heap.size + 8, 0, none⟩)], .func (.func 23) #[] #[.pointer (some ⟨w.heap.size + 2, 0, none⟩), .pointer (some ⟨w.heap.size + 1, 0, none⟩)], .func (.func 24) #[] #[]] 48)) (w.heap.size + 9) 48 #[.func (.func 18) #[] #[], .func (.func 41) #[] #[.pointer (some ⟨w.heap.size + 3, 0, none⟩), .pointer (some ⟨w.heap.size + 4, 0, none⟩)], .func (.func 41) #[] #[.pointer (some ⟨w.heap.size + 5, 0, none⟩), .pointer (some ⟨w.heap.size + 6, 0, none⟩)], .func (.func 41) #[] #[.pointer (some ⟨w.heap.size + 7, 0, none⟩), .pointer (some ⟨w.heap.size + 8, 0, none⟩)], .func (.func 23) #[] #[.pointer (some ⟨w.heap.size + 2, 0, none⟩), .pointer (some ⟨w.heap.size + 1, 0, none⟩)], .func (.func 24) #[] #[]]) := by
    have := RowAt.new w6 48 #[.func (.func 18) #[] #[], .func (.func 41) #[] #[.pointer (some ⟨w.heap.size + 3, 0, none⟩), .pointer (some ⟨w.heap.size + 4, 0, none⟩)], .func (.func 41) #[] #[.pointer (some ⟨w.heap.size + 5, 0, none⟩), .pointer (some ⟨w.heap.size + 6, 0, none⟩)], .func (.func 41) #[] #[.pointer (some ⟨w.heap.size + 7, 0, none⟩), .pointer (some ⟨w.heap.size + 8, 0, none⟩)], .func (.func 23) #[] #[.pointer (some ⟨w.heap.size + 2, 0, none⟩), .pointer (some ⟨w.heap.size + 1, 0, none⟩)], .func (.func 24) #[] #[]]
    rw [z6.out] at this
    exact this
  have G : Hid (GW w w.heap.size 0 0 ByteArray.empty 0 (w6.alloc (.cells #[.func (.func 18) #[] #[], .func (.func 41) #[] #[.pointer (some ⟨w.heap.size + 3, 0, none⟩), .pointer (some ⟨w.heap.size + 4, 0, none⟩)], .func (.func 41) #[] #[.pointer (some ⟨w.heap.size + 5, 0, none⟩), .pointer (some ⟨w.heap.size + 6, 0, none⟩)], .func (.func 41) #[] #[.pointer (some ⟨w.heap.size + 7, 0, none⟩), .pointer (some ⟨w.heap.size + 8, 0, none⟩)], .func (.func 23) #[] #[.pointer (some ⟨w.heap.size + 2, 0, none⟩), .pointer (some ⟨w.heap.size + 1, 0, none⟩)], .func (.func 24) #[] #[]] 48))) := ⟨b3.alloc (by rw [z6.out]; omega) _, r.out.alloc _, f.out.alloc _, l.out.alloc _, s1.out.alloc _, k1.out.alloc _, s2.out.alloc _, k2.out.alloc _, s3.out.alloc _, k3.out.alloc _, ps.out⟩
  clear ps r f l s1 k1 s2 k2 s3 k3 b3
  have C := Lib.hid (takeAll_any w w.heap.size P hs _ hk hq G)
  clear G
  go_wp2_with fail
  rw [z6.out]
  refine C.out.mono ?_
  rintro e w8 ⟨rfl, K, N, T, M, h, hyes⟩
  have HY := Lib.hid hyes
  have HH := Lib.hid h
  have b8 : Below w.heap.size w w8 := h.rest
  have r := Lib.hid h.r
  have f := Lib.hid h.f
  clear C hyes h z6 HH
  cases hb : okB P with
  | false =>
    have e1 : Hid (gotV P = .agg #[.int .u8 0, .int .u64 0, .string ByteArray.empty] ∧ gotE P = 120) := by unfold Hid gotV gotE; rw [hb]; exact ⟨rfl, rfl⟩
    clear hb
    go_wp2_with (refine wpList_store_row rfl 24 _ _ rfl w.heap.size #[.int .u8 0, .int .u64 0, .string ⟨#[]⟩] rfl rfl 24 _ r.out (size_frame _ rfl) rfl (by simp [Value.oneCell']) ?_)
    refine bodyPost_ret (v := .tuple #[.agg #[.int .u8 0, .int .u64 0, .string ByteArray.empty], .int .i64 120]) ?_ rfl ⟨by rw [e1.out.1, e1.out.2], below_setRow' b8 (Nat.le_refl _) _⟩
    exact results_row_one Tryd.results9 _ _ w.heap.size 24 #[.int .u8 0, .int .u64 0, .string ByteArray.empty] (0, 0) _ rfl (r.out.setRow _) Tryd.underlying24 rfl (size_frame _ rfl)
  | true =>
    have e1 : Hid (gotV P = .agg #[.int .u8 (kindL P : Int), .int .u64 (seqL P : Int), .string (bs (textL P))] ∧ gotE P = 0) := by unfold Hid gotV gotE; rw [hb]; exact ⟨rfl, rfl⟩
    obtain ⟨rfl, rfl, rfl⟩ := HY.out hb
    clear hb
    go_wp2_with (first | (refine wpList_load_row rfl 24 _ rfl (w.heap.size + 1) rfl 24 _ (0, 0) _ f.out Tryd.underlying24 rfl (size_frame _ rfl) ?_) | (refine wpList_store_row rfl 24 _ _ rfl w.heap.size #[.int .u8 (kindL P : Int), .int .u64 (seqL P : Int), .string (bs (textL P))] rfl rfl 24 _ r.out (size_frame _ rfl) rfl (by simp [Value.oneCell']) ?_))
    refine bodyPost_ret (v := .tuple #[.agg #[.int .u8 (kindL P : Int), .int .u64 (seqL P : Int), .string (bs (textL P))], .int .i64 0]) ?_ rfl ⟨by rw [e1.out.1, e1.out.2], below_setRow' b8 (Nat.le_refl _) _⟩
    exact results_row_one Tryd.results9 _ _ w.heap.size 24 #[.int .u8 (kindL P : Int), .int .u64 (seqL P : Int), .string (bs (textL P))] (0, 0) _ rfl (r.out.setRow _) Tryd.underlying24 rfl (size_frame _ rfl)

theorem get_any (s : ByteArray) (hs : s.size ≤ 100000) (w : World) (hk : Hid (KRow w)) :
    Calls Tryd.prog 9 #[.string s] w fun e w' => e = .returned (.tuple #[gotV s.data.toList, .int .i64 (gotE s.data.toList)]) ∧ Below w.heap.size w w' := by
  have := get_list s.data.toList (by rw [ba_size]; exact hs) w hk
  rwa [bs_data] at this

end Go.Proofs.YtcglbbkphgdnmaaDoor
