/-
  The walk of the law MacMixes.
-/
import Derived.Test.YtkgfmbciiiojjaaDoorMacLaw6
import Derived.Maps.AppendAt
namespace Go.Proofs.YtkgfmbciiiojjaaDoor
open Go.RowKit

theorem owns_empty {w : World} {p base : Nat} (h : RowAt w p 5 #[]) (hb : base ≤ p) : w.ownsRow base 5 1 (.slice (some ⟨p, 0, none⟩) 0 0) 0 [] :=
  ⟨by simp, Or.inr ⟨p, 0, #[], rfl, hb, h, Nat.le_refl _, by decide, by simp, by simp⟩⟩

theorem own_after {w w' : World} {base : Nat} {e : TypeId} {size : Nat} {v : Value} {n : Nat} {xs : List Value} (h : w.ownsRow base e size v n xs) (hb : Below w.heap.size w w') : w'.ownsRow base e size v n xs := by
  obtain ⟨h1, h2⟩ := h
  refine ⟨h1, ?_⟩
  rcases h2 with h2 | ⟨g, cap, cur, e1, e2, e3, e4⟩
  · exact .inl h2
  · exact .inr ⟨g, cap, cur, e1, e2, by rw [hb.block g (Array.getElem?_eq_some_iff.1 e3).1]; exact e3, e4⟩

/-- Sum of two texts, in a slice of their own. -/
theorem sum_two (a b : ByteArray) (ha : a.size ≤ 100000) (hb : b.size ≤ 100000) (p : Nat) (w : World) (hk : KRow w) (hr : RowAt w p 9 ([a, b].map Value.string).toArray) :
    Calls Tryd.prog 14 #[.slice (some ⟨p, 0, none⟩) 2 2] w fun e w' => e = .returned (.agg (rowOf 32 (w8 (sumN (a.data.toList ++ b.data.toList))))) ∧ Below w.heap.size w w' := by
  have hj : joinTo [a, b] 2 = a.data.toList ++ b.data.toList := by simp [joinTo]
  have h := sum_any (some ⟨p, 0, none⟩) 2 [a, b] (by simp) (by unfold Hid; show (joinTo [a, b] 2).length ≤ _; rw [hj]; simp; omega) w hk (sees_row hr)
  rw [show [a, b].length = 2 from rfl, hj] at h
  exact h

/-- What stays: the inner sum in its block, the row of the other mixture; the rest above. -/
def MixC (w : World) (p : Nat) (y : Nat → Nat) (vb : Value) (fb : Nat → Nat) (w' : World) : Prop := Below w.heap.size w w' ∧ RowAt w' p 27 (rowOf 32 (w8 y)) ∧ w'.ownsRow w.heap.size 5 1 vb 64 ((listB 64 fb).map bv)

theorem MixC.after {w w1 w2 : World} {p : Nat} {y : Nat → Nat} {vb : Value} {fb : Nat → Nat} (hb : Below w1.heap.size w1 w2) (h : MixC w p y vb fb w1) : MixC w p y vb fb w2 := ⟨h.1.trans (hb.mono h.1.size), h.2.1.below hb h.2.1.lt, own_after h.2.2 hb⟩

set_option maxHeartbeats 1000000 in
set_option maxRecDepth 8000 in
theorem macMixes_in (key : ByteArray) (z1 : key.size ≤ 64) (s : ByteArray) (z2 : s.size ≤ 300) (w : World) (hk : KRow w) :
    Calls Tryd.prog 7 #[.string key, .string s] w fun e w' => e = .returned (.bool true) ∧ Below w.heap.size w w' := by
  have HK := Lib.hid hk
  clear hk
  obtain ⟨i0, hi, hz0, hz1, hz2⟩ := info_parts Tryd.info5
  have d1 : decide ((64 : Int) < (key.size : Int)) = false := decide_eq_false (by omega)
  have d2 : decide ((300 : Int) < (s.size : Int)) = false := decide_eq_false (by omega)
  have hL : key.data.toList.length = key.size := by simp
  have HS := Lib.hid (blockN_short key.data.toList (by omega))
  have hB := Lib.hid (byteL_bytes key.data.toList)
  obtain ⟨fa, hfae⟩ : ∃ f, xorN (byteL key.data.toList) 54 = f := ⟨_, rfl⟩
  obtain ⟨fb, hfbe⟩ : ∃ f, xorN (byteL key.data.toList) 92 = f := ⟨_, rfl⟩
  have hab : Hid (Bytes fa) := by rw [← hfae]; exact xorN_bytes hB.out (by decide)
  have hbb0 : Hid (Bytes fb) := by rw [← hfbe]; exact xorN_bytes hB.out (by decide)
  have HFA := Lib.hid hfae
  have HFB := Lib.hid hfbe
  have HL := Lib.hid hL
  clear hL hfae hfbe
  go_enter Tryd.func7, Tryd.ntmps7
  go_wp2_with fail
  refine (shown3_any _ HK).mono ?_
  rintro e w1 ⟨rfl, hb1⟩
  have hs1 := hb1.size
  have ra : RowAt ((w1.alloc (.cells #[] 5)).alloc (.cells #[] 5)) w1.heap.size 5 #[] := (RowAt.new _ _ _).alloc _
  have rb : RowAt ((w1.alloc (.cells #[] 5)).alloc (.cells #[] 5)) (w1.heap.size + 1) 5 #[] := row_second w1 _ _ _
  have oa := Lib.hid (owns_empty (base := w.heap.size) ra hs1)
  have ob := Lib.hid (owns_empty (base := w.heap.size) rb (by omega))
  have bl0 : Below w.heap.size w ((w1.alloc (.cells #[] 5)).alloc (.cells #[] 5)) := (hb1.alloc hs1 _).alloc (by simp; omega) _
  clear ra rb
  go_wp2
  go_loopw [5, 6, 7] (fun va vb i wr => ∃ j ga gb : Nat, j ≤ 64 ∧ i = .int .i64 j ∧ wr.ownsRow w.heap.size 5 1 va j ((listB j fa).map bv) ∧ wr.ownsRow w.heap.size 5 1 vb j ((listB j fb).map bv) ∧ Hid (va.ownBlock = some ga) ∧ Hid (vb.ownBlock = some gb) ∧ ga ≠ gb ∧ Below w.heap.size w wr)
    (fun _ _ i _ => 64 - (intOf i).toNat)
  case atStart => exact ⟨0, w1.heap.size, w1.heap.size + 1, by omega, rfl, oa.out, ob.out, rfl, rfl, by omega, bl0⟩
  case round =>
    clear oa ob bl0 hb1 hs1
    obtain ⟨j, ga, gb, hj, rfl, ha, hb, hga, hgb, hne, hbl⟩ := hrel
    have hsz := hbl.size
    have hgas := (ha.lt ga hga.out).2
    have hgbs := (hb.lt gb hgb.out).2
    by_cases hlt : j < 64
    · have hfa := hab.out j
      have hfb := hbb0.out j
      by_cases hk : j < key.size
      · have hkI : (j : Int) < (key.size : Int) := by omega
        have e1 : Hid (bits .xor .u8 ((key[j]'hk).toNat : Int) 54 = ((fa j : Nat) : Int)) := by
          unfold Hid
          rw [byteL_get key j hk, show (54 : Int) = ((54 : Nat) : Int) from rfl, u8_xor_nat _ _ (hB.out j) (by decide), ← HFA.out]
          rfl
        have e2 : Hid (bits .xor .u8 ((key[j]'hk).toNat : Int) 92 = ((fb j : Nat) : Int)) := by
          unfold Hid
          rw [byteL_get key j hk, show (92 : Int) = ((92 : Nat) : Int) from rfl, u8_xor_nat _ _ (hB.out j) (by decide), ← HFB.out]
          rfl
        go_wp2_with (at_builtin; refine wpList_append_own_at _ rfl _ _ 35 rfl w.heap.size 5 i0 (.int .u8 0) 1 1 Tryd.underlying35 hi hz0 hz1 hz2 rfl (by decide) _ _ _ rfl (ha.alloc _) ⟨wr.heap.size, 0, none⟩ 1 1 [.int .u8 (bits .xor .u8 ((key[j]'hk).toNat : Int) 54)] rfl rfl (news_one _ _ _) (one_byte _) (by unfold maxLen; omega) (by omega) (by simp; omega) ?_)
        intro va w2 ha' hg2 _ hat
        have ha2 : w2.ownsRow w.heap.size 5 1 va (j + 1) ((listB (j + 1) fa).map bv) := by
          rw [listB_succ, List.map_append, List.map_singleton, ← ofNat_bv _ hfa, ← e1.out]
          exact ha'
        have hb2 : Below w.heap.size w w2 := (hbl.alloc (by omega) _).grown hg2 (by simp; omega) (fun g hg => (ha.lt g hg).1)
        have hbb : w2.ownsRow w.heap.size 5 1 u6 j ((listB j fb).map bv) := (hb.alloc _).kept hg2 (Or.inr (by rw [hgb.out, hga.out]; simp; omega))
        have hga2 : ∃ ga2, va.ownBlock = some ga2 ∧ ga2 ≠ gb := by
          rcases hat with h | h
          · exact ⟨ga, by rw [h, hga.out], hne⟩
          · exact ⟨_, h, by simp; omega⟩
        obtain ⟨ga2, hga2, hne2⟩ := hga2
        replace hga2 := Lib.hid hga2
        have hlt2 := (ha2.lt ga2 hga2.out).2
        have hsz2 := hb2.size
        have hgb2 := (hbb.lt gb hgb.out).2
        clear ha' hg2 hat ha hbl hb hga hne
        go_wp2_with (at_builtin; refine wpList_append_own_at _ rfl _ _ 35 rfl w.heap.size 5 i0 (.int .u8 0) 1 1 Tryd.underlying35 hi hz0 hz1 hz2 rfl (by decide) _ _ _ rfl (hbb.alloc _) ⟨w2.heap.size, 0, none⟩ 1 1 [.int .u8 (bits .xor .u8 ((key[j]'hk).toNat : Int) 92)] rfl rfl (news_one _ _ _) (one_byte _) (by unfold maxLen; omega) (by omega) (by simp; omega) ?_)
        intro vb w3 hb' hg3 _ hbt
        have hb3 : w3.ownsRow w.heap.size 5 1 vb (j + 1) ((listB (j + 1) fb).map bv) := by
          rw [listB_succ, List.map_append, List.map_singleton, ← ofNat_bv _ hfb, ← e2.out]
          exact hb'
        have hbl3 : Below w.heap.size w w3 := (hb2.alloc (by omega) _).grown hg3 (by simp; omega) (fun g hg => (hbb.lt g hg).1)
        have ha3 : w3.ownsRow w.heap.size 5 1 va (j + 1) ((listB (j + 1) fa).map bv) := (ha2.alloc _).kept hg3 (Or.inr (by rw [hga2.out, hgb.out]; simp; omega))
        have hgb3 : ∃ gb3, vb.ownBlock = some gb3 ∧ ga2 ≠ gb3 := by
          rcases hbt with h | h
          · exact ⟨gb, by rw [h, hgb.out], hne2⟩
          · exact ⟨_, h, by simp; omega⟩
        obtain ⟨gb3, hgb3, hne3⟩ := hgb3
        clear hb' hg3 hbt hbb hb2 ha2
        go_wp2
        go_roundw
        case rel => exact ⟨j + 1, ga2, gb3, by omega, by go_num, ha3, hb3, hga2, hgb3, hne3, hbl3⟩
        case measure => simp [intOf]; omega
      · have hkI : ¬ (j : Int) < (key.size : Int) := by omega
        have e0 := byteL_none key.data.toList j (by rw [HL.out]; omega)
        have e1 : Hid (54 = ((fa j : Nat) : Int)) := by
          unfold Hid
          rw [← HFA.out]
          unfold xorN
          rw [e0]
          rfl
        have e2 : Hid (92 = ((fb j : Nat) : Int)) := by
          unfold Hid
          rw [← HFB.out]
          unfold xorN
          rw [e0]
          rfl
        have dk : decide (j < key.size) = false := decide_eq_false hk
        clear e0
        go_wp2_with (at_builtin; refine wpList_append_own_at _ rfl _ _ 35 rfl w.heap.size 5 i0 (.int .u8 0) 1 1 Tryd.underlying35 hi hz0 hz1 hz2 rfl (by decide) _ _ _ rfl (ha.alloc _) ⟨wr.heap.size, 0, none⟩ 1 1 [.int .u8 (54)] rfl rfl (news_one _ _ _) (one_byte _) (by unfold maxLen; omega) (by omega) (by simp; omega) ?_)
        intro va w2 ha' hg2 _ hat
        have ha2 : w2.ownsRow w.heap.size 5 1 va (j + 1) ((listB (j + 1) fa).map bv) := by
          rw [listB_succ, List.map_append, List.map_singleton, ← ofNat_bv _ hfa, ← e1.out]
          exact ha'
        have hb2 : Below w.heap.size w w2 := (hbl.alloc (by omega) _).grown hg2 (by simp; omega) (fun g hg => (ha.lt g hg).1)
        have hbb : w2.ownsRow w.heap.size 5 1 u6 j ((listB j fb).map bv) := (hb.alloc _).kept hg2 (Or.inr (by rw [hgb.out, hga.out]; simp; omega))
        have hga2 : ∃ ga2, va.ownBlock = some ga2 ∧ ga2 ≠ gb := by
          rcases hat with h | h
          · exact ⟨ga, by rw [h, hga.out], hne⟩
          · exact ⟨_, h, by simp; omega⟩
        obtain ⟨ga2, hga2, hne2⟩ := hga2
        replace hga2 := Lib.hid hga2
        have hlt2 := (ha2.lt ga2 hga2.out).2
        have hsz2 := hb2.size
        have hgb2 := (hbb.lt gb hgb.out).2
        clear ha' hg2 hat ha hbl hb hga hne
        go_wp2_with (at_builtin; refine wpList_append_own_at _ rfl _ _ 35 rfl w.heap.size 5 i0 (.int .u8 0) 1 1 Tryd.underlying35 hi hz0 hz1 hz2 rfl (by decide) _ _ _ rfl (hbb.alloc _) ⟨w2.heap.size, 0, none⟩ 1 1 [.int .u8 (92)] rfl rfl (news_one _ _ _) (one_byte _) (by unfold maxLen; omega) (by omega) (by simp; omega) ?_)
        intro vb w3 hb' hg3 _ hbt
        have hb3 : w3.ownsRow w.heap.size 5 1 vb (j + 1) ((listB (j + 1) fb).map bv) := by
          rw [listB_succ, List.map_append, List.map_singleton, ← ofNat_bv _ hfb, ← e2.out]
          exact hb'
        have hbl3 : Below w.heap.size w w3 := (hb2.alloc (by omega) _).grown hg3 (by simp; omega) (fun g hg => (hbb.lt g hg).1)
        have ha3 : w3.ownsRow w.heap.size 5 1 va (j + 1) ((listB (j + 1) fa).map bv) := (ha2.alloc _).kept hg3 (Or.inr (by rw [hga2.out, hgb.out]; simp; omega))
        have hgb3 : ∃ gb3, vb.ownBlock = some gb3 ∧ ga2 ≠ gb3 := by
          rcases hbt with h | h
          · exact ⟨gb, by rw [h, hgb.out], hne2⟩
          · exact ⟨_, h, by simp; omega⟩
        obtain ⟨gb3, hgb3, hne3⟩ := hgb3
        clear hb' hg3 hbt hbb hb2 ha2
        go_wp2
        go_roundw
        case rel => exact ⟨j + 1, ga2, gb3, by omega, by go_num, ha3, hb3, hga2, hgb3, hne3, hbl3⟩
        case measure => simp [intOf]; omega
    · have : j = 64 := by omega
      subst this
      have hcv := own_string (P := Tryd.prog) (src := 35) (dst := 9) (listB 64 fa) Tryd.underlying35 Tryd.underlying5 Tryd.underlying9 ha
      have az : (bs (listB 64 fa)).size = 64 := by rw [bs_size, listB_length]
      have bz : (bs (listB 64 fb)).size = 64 := by rw [bs_size, listB_length]
      have b3 : Below wr.heap.size wr (wr.alloc (.cells #[.string (bs (listB 64 fa)), .string s] 9)) := (Below.refl _ _).alloc (Nat.le_refl _) _
      have b4 := hbl.trans (b3.mono hsz)
      have S1 := Lib.hid (sum_two (bs (listB 64 fa)) s (by omega) (by omega) wr.heap.size _ (HK.out.below b4 HK.out.1 b4.size) (RowAt.new wr 9 _))
      have EA : Hid (listB 64 fa = mixL (blockN key.data.toList) 54) := by unfold Hid mixL; rw [← HFA.out, HS.out]
      have EB : Hid (listB 64 fb = mixL (blockN key.data.toList) 92) := by unfold Hid mixL; rw [← HFB.out, HS.out]
      have E0 : Hid (sumN ((bs (listB 64 fa)).data.toList ++ s.data.toList) = sumN (mixL (blockN key.data.toList) 54 ++ s.data.toList)) := by rw [← EA.out]; rfl
      rw [E0.out] at S1
      have ob3 := Lib.hid (own_after hb b3)
      go_wp2_with fail
      refine S1.out.mono ?_
      rintro e w5 ⟨rfl, hb5⟩
      have ob5 := Lib.hid (own_after ob3.out hb5)
      have b5 : Below w.heap.size w w5 := b4.trans (hb5.mono b4.size)
      have hY := Lib.hid (sumN_bytes (mixL (blockN key.data.toList) 54 ++ s.data.toList))
      have EM : Hid (macN key.data.toList s.data.toList = sumN (listB 64 fb ++ listB 32 (sumN (mixL (blockN key.data.toList) 54 ++ s.data.toList)))) := by unfold Hid; rw [EB.out]; rfl
      generalize sumN (mixL (blockN key.data.toList) 54 ++ s.data.toList) = y at *
      clear hcv b3 b4 S1 E0 EA EB ob3 hb5 ha hb hbl hab HFA HFB HS HL hB hga hgb hgas hgbs hne az
      go_wp2_with (refine wpList_store_row rfl 27 _ _ rfl w5.heap.size (rowOf 32 (w8 y)) rfl rfl 27 _ (RowAt.new _ _ _) (info_hash _) (by rw [rowOf_size]; rfl) (rowOf_cells8 _ _) ?_; rw [World.setRow_alloc_new]; have r6 := Lib.hid (RowAt.new w5 27 (rowOf 32 (w8 y))); have ob6 := Lib.hid (ob5.out.alloc (.cells (rowOf 32 (w8 y)) 27)); have b6 := b5.alloc b5.size (.cells (rowOf 32 (w8 y)) 27); generalize w5.alloc _ = w6 at *; generalize w5.heap.size = q0 at *)
      simp only [Act.put]
      have HC : MixC w q0 y u6 fb w6.drew := ⟨b6.drew, r6.out, ob6.out⟩
      have sl := run_slice_all (P := Tryd.prog) Tryd.underlying27 sz8 q0
      have cv : Hid (∀ w', RowAt w' q0 27 (rowOf 32 (w8 y)) → (convert 35 9 (.slice (some ⟨q0, 0, none⟩) 32 32)).run Tryd.prog w' = .ok (.string (bs (listB 32 y))) w') :=
        fun w' hr => block_string hY.out Tryd.underlying35 Tryd.underlying5 Tryd.underlying9 hr
      have cb : Hid (∀ w', w'.ownsRow w.heap.size 5 1 u6 64 ((listB 64 fb).map bv) → (convert 35 9 u6).run Tryd.prog w' = .ok (.string (bs (listB 64 fb))) w') :=
        fun w' ho => own_string (listB 64 fb) Tryd.underlying35 Tryd.underlying5 Tryd.underlying9 ho
      have hz32 : (bs (listB 32 y)).size = 32 := by rw [bs_size, listB_length]
      have M1 : Hid (∀ w' p, Below w.heap.size w w' → RowAt w' p 9 ([s].map Value.string).toArray → Calls Tryd.prog 10 #[.string key, .slice (some ⟨p, 0, none⟩) 1 1] w' fun e w'' => e = .returned (.agg (rowOf 32 (w8 (macN key.data.toList s.data.toList)))) ∧ Below w'.heap.size w' w'') :=
        fun w' p hb hr => mac_row key (by omega) s (by omega) p w' (HK.out.below hb HK.out.1 hb.size) hr
      have S2 : Hid (∀ w' p, Below w.heap.size w w' → RowAt w' p 9 ([bs (listB 64 fb), bs (listB 32 y)].map Value.string).toArray → Calls Tryd.prog 14 #[.slice (some ⟨p, 0, none⟩) 2 2] w' fun e w'' => e = .returned (.agg (rowOf 32 (w8 (macN key.data.toList s.data.toList)))) ∧ Below w'.heap.size w' w'') := by
        intro w' p hb hr
        have h := sum_two (bs (listB 64 fb)) (bs (listB 32 y)) (by omega) (by omega) p w' (HK.out.below hb HK.out.1 hb.size) hr
        rw [EM.out]
        exact h
      generalize macN key.data.toList s.data.toList = z at *
      generalize bs (listB 64 fb) = m9 at *
      generalize bs (listB 32 y) = h9 at *
      clear b6 r6 ob6 b5 ob5 EM hY HK hz32 bz hbb0
      refine wp_region_steady (MixC w q0 y u6 fb) [eqv (.string key), eqv (.string s), seesv [s], eqv (.agg (rowOf 32 (w8 z))), eqv u6, eqv (.string m9), eqv (.slice (some ⟨q0, 0, none⟩) 32 32), eqv (.string h9), seesv [m9, h9], eqv (.agg (rowOf 32 (w8 z))), eqv (.bool true), eqv (.bool true)] (by kernel_rfl) (by kernel_rfl) HC
        (.cons (steady_eqv _) (.cons (steady_eqv _) (.cons (steady_seesv _) (.cons (steady_eqv _) (.cons (steady_eqv _) (.cons (steady_eqv _) (.cons (steady_eqv _) (.cons (steady_eqv _) (.cons (steady_seesv _) (.cons (steady_eqv _) (.cons (steady_eqv _) (.cons (steady_eqv _) .nil)))))))))))) ?_
      intro R hR
      refine wpRely_cons (fun w' hC hf => ?_) (fun v0 => ?_)
      · (repeat (first | (obtain ⟨rfl, hf⟩ := hf) | (obtain ⟨⟨q, rfl, hq⟩, hf⟩ := hf) | (obtain ⟨_, hf⟩ := hf)))
        exact grows_eqv (by rfl) hC (by go_simp)
      simp only [Act.put, List.setIfInBounds_toArray, List.set_cons_succ, List.set_cons_zero, List.nil_append, List.cons_append]
      refine wpRely_cons (fun w' hC hf => ?_) (fun v1 => ?_)
      · (repeat (first | (obtain ⟨rfl, hf⟩ := hf) | (obtain ⟨⟨q, rfl, hq⟩, hf⟩ := hf) | (obtain ⟨_, hf⟩ := hf)))
        exact grows_eqv (by rfl) hC (by go_simp)
      simp only [Act.put, List.setIfInBounds_toArray, List.set_cons_succ, List.set_cons_zero, List.nil_append, List.cons_append]
      refine wpRely_cons (fun w' hC hf => ?_) (fun v2 => ?_)
      · (repeat (first | (obtain ⟨rfl, hf⟩ := hf) | (obtain ⟨⟨q, rfl, hq⟩, hf⟩ := hf) | (obtain ⟨_, hf⟩ := hf)))
        exact grows_strs hR (fun _ _ hb h => h.after hb) hC (by rfl) (by go_simp)
      simp only [Act.put, List.setIfInBounds_toArray, List.set_cons_succ, List.set_cons_zero, List.nil_append, List.cons_append]
      refine wpRely_cons (fun w' hC hf => ?_) (fun v3 => ?_)
      · (repeat (first | (obtain ⟨rfl, hf⟩ := hf) | (obtain ⟨⟨q, rfl, hq⟩, hf⟩ := hf) | (obtain ⟨_, hf⟩ := hf)))
        exact grows_calls hR (fun _ _ hb h => h.after hb) hC (by rfl) (by go_simp) (M1.out w' q hC.1 hq)
      simp only [Act.put, List.setIfInBounds_toArray, List.set_cons_succ, List.set_cons_zero, List.nil_append, List.cons_append]
      refine wpRely_cons (fun w' hC hf => ?_) (fun v4 => ?_)
      · (repeat (first | (obtain ⟨rfl, hf⟩ := hf) | (obtain ⟨⟨q, rfl, hq⟩, hf⟩ := hf) | (obtain ⟨_, hf⟩ := hf)))
        exact grows_eqv (by rfl) hC (by go_simp)
      simp only [Act.put, List.setIfInBounds_toArray, List.set_cons_succ, List.set_cons_zero, List.nil_append, List.cons_append]
      refine wpRely_cons (fun w' hC hf => ?_) (fun v5 => ?_)
      · (repeat (first | (obtain ⟨rfl, hf⟩ := hf) | (obtain ⟨⟨q, rfl, hq⟩, hf⟩ := hf) | (obtain ⟨_, hf⟩ := hf)))
        have cw := cb.out w' hC.2.2
        exact grows_eqv (by rfl) hC (by go_simp)
      simp only [Act.put, List.setIfInBounds_toArray, List.set_cons_succ, List.set_cons_zero, List.nil_append, List.cons_append]
      refine wpRely_cons (fun w' hC hf => ?_) (fun v6 => ?_)
      · (repeat (first | (obtain ⟨rfl, hf⟩ := hf) | (obtain ⟨⟨q, rfl, hq⟩, hf⟩ := hf) | (obtain ⟨_, hf⟩ := hf)))
        exact grows_eqv (by rfl) hC (by go_simp)
      simp only [Act.put, List.setIfInBounds_toArray, List.set_cons_succ, List.set_cons_zero, List.nil_append, List.cons_append]
      refine wpRely_cons (fun w' hC hf => ?_) (fun v7 => ?_)
      · (repeat (first | (obtain ⟨rfl, hf⟩ := hf) | (obtain ⟨⟨q, rfl, hq⟩, hf⟩ := hf) | (obtain ⟨_, hf⟩ := hf)))
        have cw := cv.out w' hC.2.1
        exact grows_eqv (by rfl) hC (by go_simp)
      simp only [Act.put, List.setIfInBounds_toArray, List.set_cons_succ, List.set_cons_zero, List.nil_append, List.cons_append]
      refine wpRely_cons (fun w' hC hf => ?_) (fun v8 => ?_)
      · (repeat (first | (obtain ⟨rfl, hf⟩ := hf) | (obtain ⟨⟨q, rfl, hq⟩, hf⟩ := hf) | (obtain ⟨_, hf⟩ := hf)))
        exact grows_strs hR (fun _ _ hb h => h.after hb) hC (by rfl) (by go_simp)
      simp only [Act.put, List.setIfInBounds_toArray, List.set_cons_succ, List.set_cons_zero, List.nil_append, List.cons_append]
      refine wpRely_cons (fun w' hC hf => ?_) (fun v9 => ?_)
      · (repeat (first | (obtain ⟨rfl, hf⟩ := hf) | (obtain ⟨⟨q, rfl, hq⟩, hf⟩ := hf) | (obtain ⟨_, hf⟩ := hf)))
        exact grows_calls hR (fun _ _ hb h => h.after hb) hC (by rfl) (by go_simp) (S2.out w' q hC.1 hq)
      simp only [Act.put, List.setIfInBounds_toArray, List.set_cons_succ, List.set_cons_zero, List.nil_append, List.cons_append]
      refine wpRely_cons (fun w' hC hf => ?_) (fun v10 => ?_)
      · (repeat (first | (obtain ⟨rfl, hf⟩ := hf) | (obtain ⟨⟨q, rfl, hq⟩, hf⟩ := hf) | (obtain ⟨_, hf⟩ := hf)))
        exact grows_eqv (by rfl) hC (run_eql_hash z rfl rfl rfl w')
      simp only [Act.put, List.setIfInBounds_toArray, List.set_cons_succ, List.set_cons_zero, List.nil_append, List.cons_append]
      refine wpRely_cons (fun w' hC hf => ?_) (fun v11 => ?_)
      · (repeat (first | (obtain ⟨rfl, hf⟩ := hf) | (obtain ⟨⟨q, rfl, hq⟩, hf⟩ := hf) | (obtain ⟨_, hf⟩ := hf)))
        exact grows_eqv (by rfl) hC (by go_simp)
      simp only [Act.put, List.setIfInBounds_toArray, List.set_cons_succ, List.set_cons_zero, List.nil_append, List.cons_append]
      refine wpRely_nil fun w9 hC hf => ?_
      have b9 := hC.1
      obtain ⟨_, _, _, _, _, _, _, _, _, _, _, f11, _⟩ := hf
      subst f11
      clear M1 S2 cv cb hC HC
      go_wp2
      go_ret
      exact ⟨rfl, b9⟩

set_option maxHeartbeats 400000 in
theorem walk_MacMixes (key : ByteArray) (_h1 : key.size ≤ maxLen) (s : ByteArray) (_h2 : s.size ≤ maxLen) (w : World) (hk : KRow w) :
    Calls Tryd.prog 7 #[.string key, .string s] w fun e w' => e = .returned (.bool true) ∧ Below w.heap.size w w' := by
  have HK := Lib.hid hk
  clear hk
  by_cases h1 : (64 : Int) < (key.size : Int)
  · go_enter Tryd.func7, Tryd.ntmps7
    go_wp2_with fail
    refine (shown3_any _ HK).mono ?_
    rintro e w1 ⟨rfl, hb1⟩
    go_wp2
    go_ret
    exact ⟨rfl, hb1⟩
  have d1 : decide ((64 : Int) < (key.size : Int)) = false := decide_eq_false h1
  by_cases h2 : (300 : Int) < (s.size : Int)
  · go_enter Tryd.func7, Tryd.ntmps7
    go_wp2_with fail
    refine (shown3_any _ HK).mono ?_
    rintro e w1 ⟨rfl, hb1⟩
    go_wp2
    go_ret
    exact ⟨rfl, hb1⟩
  exact macMixes_in key (by omega) s (by omega) w HK.out

end Go.Proofs.YtkgfmbciiiojjaaDoor
