/-
  The document's Xor.
-/
import Derived.Test.YtmbkjbkbnigcfaaCtrStream
import Derived.Test.YtmbkjbkbnigcfaaRelyTail
import Derived.Test.YtmbkjbkbnigcfaaAesByte
namespace Go.Proofs.Ytmbkjbkbnigcfaa
open Go.RowKit

/-- Two texts, byte by byte. -/
def xorS (s t : ByteArray) : Nat → Nat := fun j => byteS s j ^^^ byteS t j

theorem byteS_get (s : ByteArray) (j : Nat) (h : j < s.size) : byteS s j = (s[j]'h).toNat := by
  unfold byteS
  rw [List.getD_eq_getElem?_getD, List.getElem?_eq_getElem (by rw [ba_size]; exact h)]
  rfl

theorem own_kept {W W' : World} {n₀ : Nat} {v : Value} {n : Nat} {xs : List Value} (h : W.ownsRow n₀ 5 1 v n xs) (hb : Below W.heap.size W W') : W'.ownsRow n₀ 5 1 v n xs :=
  own_same h fun _ _ hg => block_some hb hg

set_option maxHeartbeats 2000000 in
set_option maxRecDepth 8000 in
theorem refXor_any (s t : ByteArray) (h1 : s.size ≤ t.size) (h2 : s.size ≤ 100000) (w : World) :
    Calls Try.prog 13 #[.string s, .string t] w fun e w' => e = .returned (.string (bs (listB s.size (xorS s t)))) ∧ Below w.heap.size w w' := by
  obtain ⟨i0, hi, hz0, hz1, hz2⟩ := info_parts Try.info5
  have hi' := Lib.hid hi; have hz0' := Lib.hid hz0; have hz1' := Lib.hid hz1; have hz2' := Lib.hid hz2
  clear hi hz0 hz1 hz2
  go_enter Try.func13, Try.ntmps13
  go_wp2
  go_loopw [5, 6] (fun v i wr => ∃ j : Nat, j ≤ s.size ∧ i = .int .i64 (j : Int) ∧ Hid (wr.ownsRow w.heap.size 5 1 v j ((listB j (xorS s t)).map bv)) ∧ Below w.heap.size w wr)
    (fun _ i _ => s.size - (intOf i).toNat)
  case atStart => exact ⟨0, by omega, rfl, World.ownsRow_made _ _ _ (Nat.le_refl _) (by unfold maxLen; omega) (by simp), (Below.refl _ _).alloc (Nat.le_refl _) _⟩
  case round =>
    obtain ⟨j, hj, rfl, hown, hbl⟩ := hrel
    by_cases hlt : j < s.size
    · have hj1 : (j : Int) < (s.size : Int) := by omega
      have hj2 : j < t.size := by omega
      have hj3 : (j : Int) < (t.size : Int) := by omega
      obtain ⟨a, ha⟩ : ∃ a, (s[j]'hlt).toNat = a := ⟨_, rfl⟩
      obtain ⟨b, hb⟩ : ∃ b, (t[j]'hj2).toNat = b := ⟨_, rfl⟩
      have ha8 : a < 256 := by rw [← ha]; exact UInt8.toNat_lt _
      have hb8 : b < 256 := by rw [← hb]; exact UInt8.toNat_lt _
      have hxb := Lib.hid (u8_xor_nat a b ha8 hb8)
      have hc8 : a ^^^ b < 256 := xor_byte ha8 hb8
      have e1 : Hid (listB j (xorS s t) ++ [UInt8.ofNat (a ^^^ b)] = listB (j + 1) (xorS s t)) := by unfold Hid; rw [listB_succ]; unfold xorS; rw [byteS_get s j hlt, byteS_get t j hj2, ha, hb]
      replace ha := Lib.hid ha
      replace hb := Lib.hid hb
      go_wp2
      refine wp_region_rely_tail 9 (fun w' => Below wr.drew.heap.size wr.drew w') [eqv u5, eqv (.string s), eqv (.int .i64 (j : Int)), eqv (.int .u8 (a : Int)), eqv (.string t), eqv (.int .i64 (j : Int)), eqv (.int .u8 (b : Int)), eqv (.int .u8 ((a ^^^ b : Nat) : Int)), heldv 5 1 #[.int .u8 ((a ^^^ b : Nat) : Int)]] (by kernel_rfl) (by kernel_rfl) (Below.refl _ _)
        (.cons (steady_eqv _) (.cons (steady_eqv _) (.cons (steady_eqv _) (.cons (steady_eqv _) (.cons (steady_eqv _) (.cons (steady_eqv _) (.cons (steady_eqv _) (.cons (steady_eqv _) (.cons (steady_heldv _ _ _) .nil))))))))) ?_
      intro R hR
      simp only [List.take_succ_cons, List.take_zero, List.drop_succ_cons, List.drop_zero]
      refine wpRely_cons (fun w' hC hf => ?_) (fun v0 => ?_)
      · (repeat (first | (obtain ⟨rfl, hf⟩ := hf) | (obtain ⟨⟨q, rfl, hq⟩, hf⟩ := hf) | (obtain ⟨_, hf⟩ := hf)))
        exact grows_eqv (by rfl) hC (by go_simp)
      simp only [Act.put, List.setIfInBounds_toArray, List.set_cons_succ, List.set_cons_zero, List.nil_append]
      refine wpRely_cons (fun w' hC hf => ?_) (fun v1 => ?_)
      · (repeat (first | (obtain ⟨rfl, hf⟩ := hf) | (obtain ⟨⟨q, rfl, hq⟩, hf⟩ := hf) | (obtain ⟨_, hf⟩ := hf)))
        exact grows_eqv (by rfl) hC (by go_simp)
      simp only [Act.put, List.setIfInBounds_toArray, List.set_cons_succ, List.set_cons_zero, List.nil_append, List.cons_append]
      refine wpRely_cons (fun w' hC hf => ?_) (fun v2 => ?_)
      · (repeat (first | (obtain ⟨rfl, hf⟩ := hf) | (obtain ⟨⟨q, rfl, hq⟩, hf⟩ := hf) | (obtain ⟨_, hf⟩ := hf)))
        exact grows_eqv (by rfl) hC (by go_simp)
      simp only [Act.put, List.setIfInBounds_toArray, List.set_cons_succ, List.set_cons_zero, List.nil_append, List.cons_append]
      refine wpRely_cons (fun w' hC hf => ?_) (fun v3 => ?_)
      · (repeat (first | (obtain ⟨rfl, hf⟩ := hf) | (obtain ⟨⟨q, rfl, hq⟩, hf⟩ := hf) | (obtain ⟨_, hf⟩ := hf)))
        exact grows_eqv (by rfl) hC (by rw [← ha.out]; go_simp)
      simp only [Act.put, List.setIfInBounds_toArray, List.set_cons_succ, List.set_cons_zero, List.nil_append, List.cons_append]
      refine wpRely_cons (fun w' hC hf => ?_) (fun v4 => ?_)
      · (repeat (first | (obtain ⟨rfl, hf⟩ := hf) | (obtain ⟨⟨q, rfl, hq⟩, hf⟩ := hf) | (obtain ⟨_, hf⟩ := hf)))
        exact grows_eqv (by rfl) hC (by go_simp)
      simp only [Act.put, List.setIfInBounds_toArray, List.set_cons_succ, List.set_cons_zero, List.nil_append, List.cons_append]
      refine wpRely_cons (fun w' hC hf => ?_) (fun v5 => ?_)
      · (repeat (first | (obtain ⟨rfl, hf⟩ := hf) | (obtain ⟨⟨q, rfl, hq⟩, hf⟩ := hf) | (obtain ⟨_, hf⟩ := hf)))
        exact grows_eqv (by rfl) hC (by go_simp)
      simp only [Act.put, List.setIfInBounds_toArray, List.set_cons_succ, List.set_cons_zero, List.nil_append, List.cons_append]
      refine wpRely_cons (fun w' hC hf => ?_) (fun v6 => ?_)
      · (repeat (first | (obtain ⟨rfl, hf⟩ := hf) | (obtain ⟨⟨q, rfl, hq⟩, hf⟩ := hf) | (obtain ⟨_, hf⟩ := hf)))
        exact grows_eqv (by rfl) hC (by rw [← hb.out]; go_simp)
      simp only [Act.put, List.setIfInBounds_toArray, List.set_cons_succ, List.set_cons_zero, List.nil_append, List.cons_append]
      refine wpRely_cons (fun w' hC hf => ?_) (fun v7 => ?_)
      · (repeat (first | (obtain ⟨rfl, hf⟩ := hf) | (obtain ⟨⟨q, rfl, hq⟩, hf⟩ := hf) | (obtain ⟨_, hf⟩ := hf)))
        exact grows_eqv (by rfl) hC (by rw [← hxb.out]; go_simp)
      simp only [Act.put, List.setIfInBounds_toArray, List.set_cons_succ, List.set_cons_zero, List.nil_append, List.cons_append]
      refine wpRely_cons (fun w' hC hf => ?_) (fun v8 => ?_)
      · (repeat (first | (obtain ⟨rfl, hf⟩ := hf) | (obtain ⟨⟨q, rfl, hq⟩, hf⟩ := hf) | (obtain ⟨_, hf⟩ := hf)))
        exact grows_held hR (fun _ _ hb h => h.trans (hb.mono h.size)) hC (by rfl) (by go_simp)
      simp only [Act.put, List.setIfInBounds_toArray, List.set_cons_succ, List.set_cons_zero, List.nil_append, List.cons_append]
      refine wpRely_nil fun w9 hC hf => ?_
      (repeat (first | (obtain ⟨rfl, hf⟩ := hf) | (obtain ⟨⟨q, rfl, hq⟩, hf⟩ := hf) | (obtain ⟨_, hf⟩ := hf)))
      have b9 := hC
      have hr9 := Lib.hid (own_kept (W := wr) hown.out ((Below.refl _ _).drew.trans b9))
      have hbl9 : Below w.heap.size w w9 := hbl.trans (((Below.refl _ _).drew.trans b9).mono hbl.size)
      have q9 : Hid (∀ i u, [Value.int .u8 ((a ^^^ b : Nat) : Int)][i]? = some u → w9.cell? ((⟨q, 0, none⟩ : Addr).add i) = some u) := fun i u hu => by
        match i, hu with
        | 0, hu => simp only [List.getElem?_cons_zero, Option.some.injEq] at hu; subst hu; exact cell_of_one hq
      clear hq b9 hown hC
      generalize a ^^^ b = c at *
      go_wp2_with (at_builtin; refine wpList_append_own _ rfl _ _ 34 rfl w.heap.size 5 i0 (.int .u8 0) 1 1 Try.underlying34 hi'.out hz0'.out hz1'.out hz2'.out rfl (by decide) _ _ _ rfl hr9.out ⟨q, 0, none⟩ 1 1 [.int .u8 (c : Int)] rfl rfl q9.out (one_cell c) (by unfold maxLen; omega) (by omega) hbl9.size ?_; intro v1 w4 hown hgrow _; refine Hid.out ?_)
      unfold Hid
      have hown' : Hid (w4.ownsRow w.heap.size 5 1 v1 (j + 1) ((listB (j + 1) (xorS s t)).map bv)) := by unfold Hid; rw [← e1.out, List.map_append, List.map_singleton, ← bv_nat hc8]; exact hown
      have hbl4 : Below w.heap.size w w4 := hbl9.grown hgrow hbl9.size (fun g hg => (hr9.out.lt g hg).1)
      clear hown hgrow hr9 hbl9
      go_wp2
      go_roundw
      case rel => exact ⟨j + 1, by omega, by go_num, hown', hbl4⟩
      case measure => simp [intOf]; omega
    · have hje : j = s.size := by omega
      subst hje
      have hcv := own_string (P := Try.prog) (src := 34) (dst := 9) (listB s.size (xorS s t)) Try.underlying34 Try.underlying5 Try.underlying9 hown.out
      have hx2 : ¬ ((s.size : Int) < (s.size : Int)) := by omega
      go_wp2
      go_ret
      exact ⟨rfl, hbl⟩

end Go.Proofs.Ytmbkjbkbnigcfaa
