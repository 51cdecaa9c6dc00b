/-
  Contracts of ctr.At and ctr.Crypt.
-/
import Derived.Test.YtmbkjbkbnigcfaaCtrStream
import Derived.Test.YtmbkjbkbnigcfaaRangeTail
import Derived.Test.YtmbkjbkbnigcfaaAesByte
import Derived.Laws.BitsAllLaws
namespace Go.Proofs.Ytmbkjbkbnigcfaa
open Go.RowKit Go.Shelf

theorem wp_at_region4 {P : Program} {ops : Array Oper} {d : Bool} {Q : Exit → Act → World → Prop} {a : Act} {w : World} (h : Hid ((Code.region 4 ops d).wp P Q a w)) : (Code.region 4 ops d).wp P Q a w := h

/-- A text hidden from a place on. -/
def hideN (key : Nat → Nat) (nonce at_ : Nat) (s : ByteArray) : Nat → Nat := fun j => streamN key nonce (at_ + j) ^^^ byteS s j

theorem hide_byt {key : Nat → Nat} (hk : Byt key) (nonce at_ : Nat) (s : ByteArray) : Byt (hideN key nonce at_ s) := fun j => xor_byte (stream_byt hk nonce (at_ + j)) (byteS_lt s j)

set_option maxHeartbeats 2000000 in
set_option maxRecDepth 8000 in
theorem at_yes (key : Nat → Nat) (hk : Hid (Byt key)) (nonce : Nat) (hn : Hid (nonce < 18446744073709551616)) (at_ : Nat) (s : ByteArray) (hs : at_ + s.size ≤ 4096) (w : World) :
    Calls Try.prog 14 #[.agg (rowOf 16 (w8 key)), .int .u64 (nonce : Int), .int .i64 (at_ : Int), .string s] w fun e w' => e = .returned (.string (bs (listB s.size (hideN key nonce at_ s)))) ∧ Below w.heap.size w w' := by
  obtain ⟨i0, hi, hz0, hz1, hz2⟩ := info_parts Try.info5
  have hi' := Lib.hid hi; have hz0' := Lib.hid hz0; have hz1' := Lib.hid hz1; have hz2' := Lib.hid hz2
  clear hi hz0 hz1 hz2
  have t1 : ¬ ((at_ : Int) < 0) := by omega
  have t2 : ¬ ((4096 : Int) - (s.size : Int) < (at_ : Int)) := by omega
  have hss : (s.size : Int) ≤ 4096 := by omega
  refine (callsIn_wide (n := 1)).1 (callsIn_of_wp_marks Try.func14 rfl trivial (wpIn_wide.2 ?_) rfl)
  simp only [Try.ntmps14, List.size_toArray, List.length_cons, List.length_nil, Nat.reduceAdd, Nat.reduceSub, Array.replicate_succ, Array.replicate_zero, List.push_toArray, List.append_toArray, List.nil_append, List.cons_append]
  go_wp2_with (refine wpList_make_own _ rfl _ _ 34 rfl w.heap.size 5 i0 (.int .u8 0) 1 Try.underlying34 hi'.out hz0'.out hz1'.out .i64 .i64 (s.size : Int) s.size rfl rfl rfl (by rw [hz2'.out]; omega) (by unfold maxLen; omega) (by simp; omega) ?_; intro w1 hown hgrow; refine Hid.out ?_)
  unfold Hid
  rw [World.size_alloc, World.size_alloc] at hown
  have r1 : Hid (RowAt w1 w.heap.size 23 (rowOf 16 (w8 key))) := (hgrow.block _ (by simp; omega) (by simp)).trans ((RowAt.new w _ _).alloc _)
  have q1 : Hid (RowAt w1 (w.heap.size + 1) 9 #[.string s]) := (hgrow.block _ (by simp) (by simp)).trans (heap_new2 w _ _)
  have b1 : Below w.heap.size w w1 := (((Below.refl _ _).alloc (Nat.le_refl _) _).alloc (by simp) _).grown hgrow (by simp; omega) (fun _ e => by cases e)
  have MB := made_box hown
  have bx := Lib.hid MB.1
  have ow := Lib.hid MB.2.1
  have b2 := b1.trans (MB.2.2.mono b1.size)
  have r2 := Lib.hid (r1.out.below MB.2.2 r1.out.lt)
  have q2 := Lib.hid (q1.out.below MB.2.2 q1.out.lt)
  have hB : w.heap.size ≤ w1.heap.size := b1.size
  clear MB hown hgrow b1 r1 q1
  repeat (first | (with_reducible refine wp_at_region4 ?_) | go_values | go_skip | go_guarded | go_step | go_upon | go_back)
  unfold Hid
  generalize w1.alloc _ = w2 at *
  generalize hv : Value.slice (some { block := w.heap.size + 1 + 1, off := 0 }) 0 s.size = v at *
  replace hv := Lib.hid hv
  generalize w1.heap.size = B at *
  obtain ⟨z, hz⟩ : ∃ z, z = at_ + s.size := ⟨_, rfl⟩
  have ez : (at_ : Int) + (s.size : Int) = (z : Int) := by omega
  have hzl : z ≤ 5000 := by omega
  have hz' := Lib.hid hz
  clear hz
  have SM := Lib.hid (stream_make key nonce at_ z w2)
  have cs := cell_of_one q2.out
  go_wp2_with (refine wpList_load_row rfl 23 _ rfl w.heap.size rfl 23 (rowOf 16 (w8 key)) (0, 0) _ r2.out Try.underlying23 rfl (info_key _) ?_)
  refine SM.out.mono ?_
  rintro e w3 ⟨rfl, cp, hsz, hb3⟩
  have cp' := Lib.hid cp
  have hs3 : w2.heap.size + 3 < w3.heap.size := by omega
  have C0 : Hid (Col w.heap.size B w3.heap.size [(w.heap.size + 1, .cells #[.string s] 9 (0, 0))] w (listB 0 (hideN key nonce at_ s)) w3) :=
    Col.inner (m := w3.heap.size) (W := w2) ⟨⟨w.heap.size + 1 + 1, s.size, (by show Boxed w2 B 34 (.slice (some ⟨w.heap.size + 1 + 1, 0, none⟩) 0 s.size); rw [hv.out]; exact bx.out), (by show w2.ownsRow w.heap.size 5 1 (.slice (some ⟨w.heap.size + 1 + 1, 0, none⟩) 0 s.size) 0 []; rw [hv.out]; exact ow.out)⟩, fun j o h => by
      simp only [List.mem_singleton, Prod.mk.injEq] at h
      obtain ⟨rfl, rfl⟩ := h
      exact ⟨q2.out, rfl, rfl, Nat.lt_of_lt_of_le q2.out.lt hb3.size⟩, b2, rfl, hB, Nat.le_trans b2.size hb3.size⟩ (Inner.of_below hb3)
  clear SM cp bx ow r2 q2 b2 hsz hb3 cs
  generalize w2.heap.size = sB at *
  clear t1 t2 ez
  go_wp2
  refine wp_rangeFunc_all (w0 := w3) rfl (enters_of Try.func23 (by kernel_rfl) rfl) (stream_seq sB key hk nonce at_ z hn (by have := hz'.out; omega) hzl w3 hs3 cp'.out) (Below.refl _ _) (fun _ => rfl)
    (fun k W => Col w.heap.size B w3.heap.size [(w.heap.size + 1, .cells #[.string s] 9 (0, 0))] w (listB k (hideN key nonce at_ s)) W) (fun k A A' h hAA => h.inner hAA) (fun k A j o o' h h1 h2 h3 => h.put o' h1 h2 h3) C0.out
    (fun k => { tmps := #[.agg (rowOf 16 (w8 key)), .int .u64 (nonce : Int), .int .i64 (at_ : Int), .string s, .pointer (some ⟨w.heap.size, 0, none⟩), undef, undef, .pointer (some ⟨w.heap.size + 1, 0, none⟩), .string ⟨#[]⟩, .pointer (some ⟨B, 0, none⟩), .int .u8 ((streamN key nonce (at_ + k) : Nat) : Int), .int .i64 (at_ : Int), .bool false, .bool false, .int .i64 (at_ : Int), .string s, .int .i64 (s.size : Int), .int .i64 (4096 - (s.size : Int)), .bool false, .bool false, .string s, .int .i64 (s.size : Int), v, .agg (rowOf 16 (w8 key)), .int .u64 (nonce : Int), .int .i64 (at_ : Int), .int .i64 (at_ : Int), .string s, .int .i64 (s.size : Int), .int .i64 (z : Int), .func (.func 23) #[] (capV sB), .int .u8 ((streamN key nonce (at_ + k) : Nat) : Int), undef, undef, undef, undef, undef, undef, undef, undef, undef, undef, undef], defers := [] }) ?assign ?body ?done
  case assign =>
    intro l k W K hK
    refine wpIn_round_list l (by kernel_rfl) (fun ⟨_, _, h⟩ => h) ?_
    simp only [List.zip_toArray, List.zip_cons_cons, List.zip_nil_right, List.foldl_toArray, List.foldl_cons, List.foldl_nil, List.setIfInBounds_toArray, List.set_cons_succ, List.set_cons_zero]
    generalize streamN key nonce (at_ + k) = x at *
    go_wp2
    exact hK
  case body =>
    intro l k W hI hkm
    have hI' := Lib.hid hI.drew
    have hsz := hI'.out.size
    have hbyte := stream_byt hk.out nonce (at_ + k)
    have hks : k < s.size := by have := hz'.out; omega
    have hks' : (k : Int) < (s.size : Int) := by omega
    obtain ⟨g0, c0, hv0, hr0⟩ := hI'.out.row
    rw [listB_length] at hr0 hv0
    have q0 : RowAt W.drew (w.heap.size + 1) 9 #[.string s] := (hI'.out.keep _ _ (List.mem_singleton.2 rfl)).1
    have cs := cell_of_one q0
    have hc := hv0.cell
    have hv0' := Lib.hid hv0
    have hr0' := Lib.hid hr0
    have o0 : Hid (Outer W W.drew) := Outer.of_below (Below.refl _ _).drew
    clear hv0 hr0 hI
    obtain ⟨b, hb⟩ : ∃ b, (s[k]'hks).toNat = b := ⟨_, rfl⟩
    have hb8 : b < 256 := by rw [← hb]; exact UInt8.toNat_lt _
    have hbS : Hid (byteS s k = b) := by
      unfold Hid byteS
      rw [← hb, List.getD_eq_getElem?_getD, List.getElem?_eq_getElem (by rw [ba_size]; exact hks)]
      rfl
    replace hb := Lib.hid hb
    generalize hx : streamN key nonce (at_ + k) = x at *
    replace hx := Lib.hid hx
    have hxb := Lib.hid (u8_xor_nat x b hbyte hb8)
    have hc8 : x ^^^ b < 256 := xor_byte hbyte hb8
    refine wpIn_block ?_
    generalize hW1 : W.drew = W1 at *
    have HC : ColC W1 B (.slice (some ⟨g0, 0, none⟩) k c0) (w.heap.size + 1) s W.drew := by rw [hW1]; exact ⟨Below.refl _ _, hv0'.out, q0⟩
    have hW1' := Lib.hid hW1
    clear hW1
    clear cs hc q0
    refine wpIn_round_rely_tail l 8 (ColC W1 B (.slice (some ⟨g0, 0, none⟩) k c0) (w.heap.size + 1) s) [eqv (.slice (some ⟨g0, 0, none⟩) k c0), eqv (.int .u8 (x : Int)), eqv (.string s), eqv (.slice (some ⟨g0, 0, none⟩) k c0), eqv (.int .i64 (k : Int)), eqv (.int .u8 (b : Int)), eqv (.int .u8 ((x ^^^ b : Nat) : Int)), heldv 5 1 #[.int .u8 ((x ^^^ b : Nat) : Int)]] (by kernel_rfl) roundPostN_block (by kernel_rfl) (by kernel_rfl) HC
      (.cons (steady_eqv _) (.cons (steady_eqv _) (.cons (steady_eqv _) (.cons (steady_eqv _) (.cons (steady_eqv _) (.cons (steady_eqv _) (.cons (steady_eqv _) (.cons (steady_heldv _ _ _) .nil)))))))) ?_
    intro R hR
    simp only [List.take_succ_cons, List.take_zero, List.drop_succ_cons, List.drop_zero]
    refine wpRely_cons (fun w' hC hf => ?_) (fun v0 => ?_)
    · (repeat (first | (obtain ⟨rfl, hf⟩ := hf) | (obtain ⟨⟨q, rfl, hq⟩, hf⟩ := hf) | (obtain ⟨_, hf⟩ := hf)))
      have cc := hC.2.1.cell
      exact grows_eqv (by rfl) hC (by go_simp)
    simp only [Act.put, List.setIfInBounds_toArray, List.set_cons_succ, List.set_cons_zero, List.nil_append]
    refine wpRely_cons (fun w' hC hf => ?_) (fun v1 => ?_)
    · (repeat (first | (obtain ⟨rfl, hf⟩ := hf) | (obtain ⟨⟨q, rfl, hq⟩, hf⟩ := hf) | (obtain ⟨_, hf⟩ := hf)))
      exact grows_eqv (by rfl) hC (by go_simp)
    simp only [Act.put, List.setIfInBounds_toArray, List.set_cons_succ, List.set_cons_zero, List.nil_append, List.cons_append]
    refine wpRely_cons (fun w' hC hf => ?_) (fun v2 => ?_)
    · (repeat (first | (obtain ⟨rfl, hf⟩ := hf) | (obtain ⟨⟨q, rfl, hq⟩, hf⟩ := hf) | (obtain ⟨_, hf⟩ := hf)))
      have cs := cell_of_one hC.2.2
      exact grows_eqv (by rfl) hC (by go_simp)
    simp only [Act.put, List.setIfInBounds_toArray, List.set_cons_succ, List.set_cons_zero, List.nil_append, List.cons_append]
    refine wpRely_cons (fun w' hC hf => ?_) (fun v3 => ?_)
    · (repeat (first | (obtain ⟨rfl, hf⟩ := hf) | (obtain ⟨⟨q, rfl, hq⟩, hf⟩ := hf) | (obtain ⟨_, hf⟩ := hf)))
      have cc := hC.2.1.cell
      exact grows_eqv (by rfl) hC (by go_simp)
    simp only [Act.put, List.setIfInBounds_toArray, List.set_cons_succ, List.set_cons_zero, List.nil_append, List.cons_append]
    refine wpRely_cons (fun w' hC hf => ?_) (fun v4 => ?_)
    · (repeat (first | (obtain ⟨rfl, hf⟩ := hf) | (obtain ⟨⟨q, rfl, hq⟩, hf⟩ := hf) | (obtain ⟨_, hf⟩ := hf)))
      exact grows_eqv (by rfl) hC (by go_simp)
    simp only [Act.put, List.setIfInBounds_toArray, List.set_cons_succ, List.set_cons_zero, List.nil_append, List.cons_append]
    refine wpRely_cons (fun w' hC hf => ?_) (fun v5 => ?_)
    · (repeat (first | (obtain ⟨rfl, hf⟩ := hf) | (obtain ⟨⟨q, rfl, hq⟩, hf⟩ := hf) | (obtain ⟨_, hf⟩ := hf)))
      exact grows_eqv (by rfl) hC (by rw [← hb.out]; go_simp)
    simp only [Act.put, List.setIfInBounds_toArray, List.set_cons_succ, List.set_cons_zero, List.nil_append, List.cons_append]
    refine wpRely_cons (fun w' hC hf => ?_) (fun v6 => ?_)
    · (repeat (first | (obtain ⟨rfl, hf⟩ := hf) | (obtain ⟨⟨q, rfl, hq⟩, hf⟩ := hf) | (obtain ⟨_, hf⟩ := hf)))
      exact grows_eqv (by rfl) hC (by rw [← hxb.out]; go_simp)
    simp only [Act.put, List.setIfInBounds_toArray, List.set_cons_succ, List.set_cons_zero, List.nil_append, List.cons_append]
    refine wpRely_cons (fun w' hC hf => ?_) (fun v7 => ?_)
    · (repeat (first | (obtain ⟨rfl, hf⟩ := hf) | (obtain ⟨⟨q, rfl, hq⟩, hf⟩ := hf) | (obtain ⟨_, hf⟩ := hf)))
      exact grows_held hR (fun _ _ hb h => h.after hb) hC (by rfl) (by go_simp)
    simp only [Act.put, List.setIfInBounds_toArray, List.set_cons_succ, List.set_cons_zero, List.nil_append, List.cons_append]
    refine wpRely_nil fun w9 hC hf => ?_
    (repeat (first | (obtain ⟨rfl, hf⟩ := hf) | (obtain ⟨⟨q, rfl, hq⟩, hf⟩ := hf) | (obtain ⟨_, hf⟩ := hf)))
    have b9 := hC.1
    have hI9 := Lib.hid (hI'.out.inner (Inner.of_below b9))
    have hr9 := Lib.hid (own_same hr0'.out fun g cur hg => block_some b9 hg)
    have hv9 := Lib.hid hC.2.1
    have hsz9 : w.heap.size ≤ w9.heap.size := hI9.out.size
    have o9 : Hid (Outer W w9) := (Outer.of_below (Below.refl _ _).drew).trans (by rw [hW1'.out]; exact Outer.of_below b9)
    have q9 : Hid (∀ j u, [Value.int .u8 ((x ^^^ b : Nat) : Int)][j]? = some u → w9.cell? ((⟨q, 0, none⟩ : Addr).add j) = some u) := fun j u hu => by
      match j, hu with
      | 0, hu => simp only [List.getElem?_cons_zero, Option.some.injEq] at hu; subst hu; exact cell_of_one hq
    have e1 : Hid (listB k (hideN key nonce at_ s) ++ [UInt8.ofNat (x ^^^ b)] = listB (k + 1) (hideN key nonce at_ s)) := by unfold Hid; rw [listB_succ]; unfold hideN; rw [hx.out, hbS.out]
    clear hC hq hI' b9 hv0' hr0' HC o0
    generalize x ^^^ b = c at *
    go_wp2_with (at_builtin; refine wpList_append_own _ rfl _ _ 34 rfl w.heap.size 5 i0 (.int .u8 0) 1 1 Try.underlying34 hi'.out hz0'.out hz1'.out hz2'.out rfl (by decide) _ _ _ rfl hr9.out ⟨q, 0, none⟩ 1 1 [.int .u8 (c : Int)] rfl rfl q9.out (one_cell c) (by unfold maxLen; omega) (by omega) hsz9 ?_; intro v1 w4 hown hgrow _; refine Hid.out ?_)
    unfold Hid
    have hown' : w4.ownsRow w.heap.size 5 1 v1 ((listB k (hideN key nonce at_ s)).length + 1) ((listB k (hideN key nonce at_ s)).map bv ++ [bv (UInt8.ofNat c)]) := by rw [listB_length, ← bv_nat hc8]; exact hown
    have AP := hI9.out.append0 (v := .slice (some ⟨g0, 0, none⟩) k c0) hv9.out (by rw [listB_length]; exact hr9.out) hown' hgrow
    obtain ⟨g4, c4, rfl⟩ := ownsRow_succ hown
    have hc4 := AP.2.2.cell
    have hf4 := AP.2.2.frozen
    have AP1 := Lib.hid AP
    clear hown hown' hgrow AP
    go_wp2
    refine ⟨rfl, ?_, o9.out.trans AP1.out.2.1⟩
    have := AP1.out.1
    rw [e1.out] at this
    exact this
  case done =>
    intro D W hD hI hK
    rw [show z - at_ = s.size by have := hz'.out; omega] at hI
    obtain ⟨g0, c0, hv0, hr0⟩ := hI.row
    rw [listB_length] at hv0 hr0
    have hc := hv0.cell
    have hcv := own_string (P := Try.prog) (src := 34) (dst := 9) (listB s.size (hideN key nonce at_ s)) Try.underlying34 Try.underlying5 Try.underlying9 hr0
    have hK' := Lib.hid hK
    have hlow := hI.low
    have hle : w.heap.size ≤ D := Nat.le_trans hI.hm hD
    clear hI hK hv0 hr0
    go_wp2
    refine ⟨by simp, .inl ⟨_, _, rfl, run_takeDeferred hK'.out, ?_⟩⟩
    exact ⟨_, results_tmp rfl _ _ _, rfl, hlow.trans ⟨rfl, rfl, rfl, by rw [World.putObj_size]; exact Nat.le_refl _, fun k hk => World.putObj_heap_other (by omega)⟩⟩

set_option maxHeartbeats 1000000 in
set_option maxRecDepth 8000 in
theorem at_no (key : Nat → Nat) (nonce : Nat) (at_ : Int) (s : ByteArray) (hs : s.size ≤ 9223372036854775807) (h : at_ < 0 ∨ 4096 - (s.size : Int) < at_) (w : World) :
    Calls Try.prog 14 #[.agg (rowOf 16 (w8 key)), .int .u64 (nonce : Int), .int .i64 at_, .string s] w fun e w' => e = .returned (.string (bs [])) ∧ Below w.heap.size w w' := by
  by_cases h1 : at_ < 0
  · go_enter Try.func14, Try.ntmps14
    go_wp2
    go_ret
    exact ⟨rfl, ((Below.refl _ _).alloc (Nat.le_refl _) _).alloc (by simp) _⟩
  · have h2 : 4096 - (s.size : Int) < at_ := by omega
    have h3 : (s.size : Int) ≤ 9223372036854775807 := by omega
    clear h hs
    go_enter Try.func14, Try.ntmps14
    go_wp2
    go_ret
    exact ⟨rfl, ((Below.refl _ _).alloc (Nat.le_refl _) _).alloc (by simp) _⟩

theorem crypt_yes (key : Nat → Nat) (hk : Hid (Byt key)) (nonce : Nat) (hn : Hid (nonce < 18446744073709551616)) (s : ByteArray) (hs : s.size ≤ 4096) (w : World) :
    Calls Try.prog 12 #[.agg (rowOf 16 (w8 key)), .int .u64 (nonce : Int), .string s] w fun e w' => e = .returned (.string (bs (listB s.size (hideN key nonce 0 s)))) ∧ Below w.heap.size w w' := by
  have A := Lib.hid (at_yes key hk nonce hn 0 s (by omega))
  rw [show ((0 : Nat) : Int) = 0 from rfl] at A
  have r0 : Hid (RowAt (w.alloc (.cells (rowOf 16 (w8 key)) 23)) w.heap.size 23 (rowOf 16 (w8 key))) := RowAt.new _ _ _
  have b0 : Below w.heap.size w (w.alloc (.cells (rowOf 16 (w8 key)) 23)) := (Below.refl _ _).alloc (Nat.le_refl _) _
  go_enter Try.func12, Try.ntmps12
  go_wp2_with (refine wpList_load_row rfl 23 _ rfl w.heap.size rfl 23 (rowOf 16 (w8 key)) (0, 0) _ r0.out Try.underlying23 rfl (info_key _) ?_)
  refine (A.out _).mono ?_
  rintro e w1 ⟨rfl, hb1⟩
  replace b0 := b0.trans (hb1.mono b0.size)
  clear hb1 A r0
  go_wp2
  go_ret
  exact ⟨rfl, b0⟩

theorem crypt_no (key : Nat → Nat) (nonce : Nat) (s : ByteArray) (hs : s.size ≤ 9223372036854775807) (h : 4096 < s.size) (w : World) :
    Calls Try.prog 12 #[.agg (rowOf 16 (w8 key)), .int .u64 (nonce : Int), .string s] w fun e w' => e = .returned (.string (bs [])) ∧ Below w.heap.size w w' := by
  have A := Lib.hid (at_no key nonce 0 s hs (by omega))
  have r0 : Hid (RowAt (w.alloc (.cells (rowOf 16 (w8 key)) 23)) w.heap.size 23 (rowOf 16 (w8 key))) := RowAt.new _ _ _
  have b0 : Below w.heap.size w (w.alloc (.cells (rowOf 16 (w8 key)) 23)) := (Below.refl _ _).alloc (Nat.le_refl _) _
  go_enter Try.func12, Try.ntmps12
  go_wp2_with (refine wpList_load_row rfl 23 _ rfl w.heap.size rfl 23 (rowOf 16 (w8 key)) (0, 0) _ r0.out Try.underlying23 rfl (info_key _) ?_)
  refine (A.out _).mono ?_
  rintro e w1 ⟨rfl, hb1⟩
  replace b0 := b0.trans (hb1.mono b0.size)
  clear hb1 A r0
  go_wp2
  go_ret
  exact ⟨rfl, b0⟩

end Go.Proofs.Ytmbkjbkbnigcfaa
