/-
  Contract: Mac.
-/
import Derived.Test.YtedmdojmgccclaaDoorMacLong
import Derived.Test.YtedmdojmgccclaaDoorRelyRows
import Derived.Laws.AppendOwnNone
import Derived.Deep.AppendLies
namespace Go.Proofs.YtedmdojmgccclaaDoor
open Go.RowKit

theorem Tryd.info9 : (Tryd.prog.info? 9).map (fun i => (i.zero, i.size, i.bytes)) = some (some (.string ByteArray.empty), 1, 16) := by kernel_rfl

/-- What an owned row of texts shows. -/
theorem own_sees {w : World} {base : Nat} {v : Value} {n : Nat} {ss : List ByteArray} (h : w.ownsRow base 9 1 v n (ss.map Value.string)) (hn : 0 < n) : ss.length = n ∧ ∃ g cap, v = .slice (some ⟨g, 0, none⟩) n cap ∧ Sees w (some ⟨g, 0, none⟩) ss := by
  have hl : ss.length = n := by simpa using h.1
  obtain ⟨g, cap, hv, _, hg⟩ := h.form hn
  refine ⟨hl, g, cap, hv, fun j hj => ⟨_, rfl, hg, ?_⟩⟩
  refine h.cells (by rw [hv]; rfl) j _ ?_
  simp [List.getElem?_eq_getElem hj]

/-- Texts, appended to a row of the call's own. -/
theorem wpList_append_strs {ops : Array Oper} {rest : List Oper} {o : Oper} {act : Act} {Q : Exit → Act → World → Prop} {w : World} {base : Nat} (hgd : o.guard = none) (s x : Operand)
    (ho : o.op = .call { callee := .builtin .append, args := #[s, x], argTypes := #[66, 66] }) (v : Value) (n : Nat) (xs : List Value) (hs : act.eval s = v) (hown : w.ownsRow base 9 1 v n xs)
    (a : Option Addr) (c : Nat) (ss : List ByteArray) (hac : a = none → c = 0) (hx : act.eval x = .slice a ss.length c) (hsees : Sees w a ss) (hb : base ≤ w.heap.size) (hl : n + ss.length ≤ 1000000)
    (h : ∀ v' w', w'.ownsRow base 9 1 v' (n + ss.length) (xs ++ ss.map Value.string) → Below base w w' → wpList Tryd.prog ops Q rest (act.put o.dst v') w') : wpList Tryd.prog ops Q (o :: rest) act w := by
  obtain ⟨i0, hi, hz0, hz1, hz2⟩ := info_parts Tryd.info9
  cases a with
  | none =>
    have hc : c = 0 := hac rfl
    subst hc
    have hn : ss = [] := by
      cases ss with
      | nil => rfl
      | cons s r => obtain ⟨ad, e, _⟩ := hsees 0 (by simp); cases e
    subst hn
    refine wpList_append_own_none hgd s x 66 ho base 9 i0 1 Tryd.underlying66 hi v n xs hs hown hx (h v w ?_ (Below.refl _ _))
    simpa using hown
  | some ad =>
    refine wpList_append_own w hgd s x 66 ho base 9 i0 (.string ByteArray.empty) 1 16 Tryd.underlying66 hi hz0 hz1 hz2 rfl (by decide) v n xs hs hown ad ss.length c (ss.map Value.string) hx (by simp) (fun j u hj => ?_) (fun u hu => ?_) (by unfold maxLen; omega) (by omega) hb (fun v' w' h1 h2 _ => h v' w' h1 ((Below.refl _ _).grown h2 hb (fun g hg => (hown.lt g hg).1)))
    · have hjl : j < ss.length := by
        have := (List.getElem?_eq_some_iff.1 hj).1
        simpa using this
      obtain ⟨ad', e, _, hc⟩ := hsees j hjl
      cases e
      rw [hc]
      simpa [List.getElem?_eq_getElem hjl] using hj
    · simp only [List.mem_map] at hu
      obtain ⟨b, _, rfl⟩ := hu
      rfl

theorem owns_one (w : World) (s : ByteArray) : (w.alloc (.cells #[.string s] 9)).ownsRow w.heap.size 9 1 (.slice (some ⟨w.heap.size, 0, none⟩) 1 1) 1 [.string s] :=
  ⟨by simp, Or.inr ⟨w.heap.size, 1, #[.string s], rfl, Nat.le_refl _, RowAt.new _ _ _, Nat.le_refl _, by unfold maxLen; omega, by simp, by simp⟩⟩

theorem joinTo_cons (s : ByteArray) (ss : List ByteArray) : joinTo (s :: ss) (s :: ss).length = s.data.toList ++ joinTo ss ss.length := by
  unfold joinTo
  simp

/-- What stays while the outer sum is reckoned. -/
def MacC (w : World) (p q : Nat) (y : Nat → Nat) (w' : World) : Prop := Below p w w' ∧ RowAt w' q 59 (rowOf 32 (w8 y)) ∧ ∃ f, RowAt w' p 59 (rowOf 32 (w8 f))

theorem MacC.after {w w1 w2 : World} {p q : Nat} {y : Nat → Nat} (hb : Below w1.heap.size w1 w2) (h : MacC w p q y w1) : MacC w p q y w2 := by
  obtain ⟨h1, h2, f, h3⟩ := h
  exact ⟨h1.trans (hb.mono (Nat.le_of_lt h3.lt)), h2.below hb h2.lt, f, h3.below hb h3.lt⟩

theorem MacC.store {w w1 : World} {p q : Nat} {y : Nat → Nat} (z : Nat → Nat) (hpq : p ≠ q) (h : MacC w p q y w1) : MacC w p q y (w1.setRow p (rowOf 32 (w8 z))) := by
  obtain ⟨h1, h2, f, h3⟩ := h
  exact ⟨below_setRow' h1 (Nat.le_refl _) _, h2.setRowOther _ _ hpq.symm, z, h3.setRow _⟩


set_option maxHeartbeats 1000000 in
set_option maxRecDepth 8000 in
theorem mac_any (key : ByteArray) (hm : key.size ≤ 100000) (a : Option Addr) (c : Nat) (hac : a = none → c = 0) (ss : List ByteArray) (hl : ss.length ≤ 1000) (hz : Hid ((joinTo ss ss.length).length ≤ 500000)) (w : World) (hk : Hid (KRow w)) (hs : Hid (Sees w a ss)) :
    Calls Tryd.prog 25 #[.string key, .slice a ss.length c] w fun e w' => e = .returned (.agg (rowOf 32 (w8 (macN key.data.toList (joinTo ss ss.length))))) ∧ Below w.heap.size w w' := by
  obtain ⟨i0, hi, hz0, hz1, hz2⟩ := info_parts Tryd.info9
  have E : Hid (macN key.data.toList (joinTo ss ss.length) = sumN (mixL (blockN key.data.toList) 92 ++ listB 32 (sumN (mixL (blockN key.data.toList) 54 ++ joinTo ss ss.length)))) := rfl
  have hB := Lib.hid (blockN_bytes key.data.toList)
  go_enter Tryd.func25, Tryd.ntmps25
  go_wp2_with fail
  rw [← z8_32]
  have r0 : Hid (RowAt (w.alloc (.cells (rowOf 32 (w8 zeroN)) 59)) w.heap.size 59 (rowOf 32 (w8 zeroN))) := RowAt.new _ _ _
  have b0 : Below w.heap.size w (w.alloc (.cells (rowOf 32 (w8 zeroN)) 59)) := (Below.refl _ _).alloc (Nat.le_refl _) _
  generalize w.alloc (.cells (rowOf 32 (w8 zeroN)) 59) = w0 at *
  refine (blockKeyOf_any key hm w0 (hk.out.below b0 hk.out.1 b0.size)).mono ?_
  rintro e w1 ⟨rfl, hb1⟩
  replace r0 : Hid (RowAt w1 w.heap.size 59 (rowOf 32 (w8 zeroN))) := r0.out.below hb1 r0.out.lt
  replace b0 : Below w.heap.size w w1 := b0.trans (hb1.mono b0.size)
  clear hb1
  generalize blockN key.data.toList = B at *
  have l54 : (mixL B 54).length = 64 := listB_length _ _
  have l92 : (mixL B 92).length = 64 := listB_length _ _
  have L54 := Lib.hid l54
  have L92 := Lib.hid l92
  clear l54 l92
  go_wp2_with fail
  refine (mixed_any B hB 54 (by decide) _).mono ?_
  rintro e w2 ⟨rfl, hb2⟩
  replace r0 : Hid (RowAt w2 w.heap.size 59 (rowOf 32 (w8 zeroN))) := r0.out.below hb2 r0.out.lt
  replace b0 : Below w.heap.size w w2 := b0.trans (hb2.mono b0.size)
  clear hb2
  have hs2 : Hid (Sees (w2.alloc (.cells #[.string (bs (mixL B 54))] 9)) a ss) := (hs.out.below b0 (Nat.le_refl _)).below ((Below.refl _ _).alloc (Nat.le_refl w2.heap.size) _) (Nat.le_refl _)
  go_wp2_with (at_builtin; refine wpList_append_strs rfl _ _ rfl _ 1 [.string (bs (mixL B 54))] rfl (owns_one w2 _) a c ss hac rfl hs2.out (by simp) (by omega) ?_)
  intro v' w3 hown hb3
  have hown' : w3.ownsRow w2.heap.size 9 1 v' (1 + ss.length) ((bs (mixL B 54) :: ss).map Value.string) := hown
  obtain ⟨hlen, g, cap, rfl, hse⟩ := own_sees hown' (by omega)
  have hb4 : Below w2.heap.size w2 w3 := ((Below.refl _ _).alloc (Nat.le_refl w2.heap.size) _).trans hb3
  replace r0 : Hid (RowAt w3 w.heap.size 59 (rowOf 32 (w8 zeroN))) := r0.out.below hb4 r0.out.lt
  replace b0 : Below w.heap.size w w3 := b0.trans (hb4.mono b0.size)
  have hj := Lib.hid (joinTo_cons (bs (mixL B 54)) ss)
  have S1 := Lib.hid (sum_any (some ⟨g, 0, none⟩) cap (bs (mixL B 54) :: ss) (by simp; omega) (by
    have h1 := hz.out
    have h2 := L54.out
    unfold Hid
    rw [hj.out, List.length_append]
    show (mixL B 54).length + _ ≤ _
    omega) w3 (hk.out.below b0 hk.out.1 b0.size) hse)
  rw [hj.out, hlen] at S1
  clear hb3 hb4 hown hown' hse hs2 hj hlen hs
  go_wp2_with fail
  refine S1.out.mono ?_
  rintro e w4 ⟨rfl, hb4⟩
  replace r0 : Hid (RowAt w4 w.heap.size 59 (rowOf 32 (w8 zeroN))) := r0.out.below hb4 r0.out.lt
  replace b0 : Below w.heap.size w w4 := b0.trans (hb4.mono b0.size)
  clear hb4 S1
  have E2 : Hid (sumN ((bs (mixL B 54)).data.toList ++ joinTo ss ss.length) = sumN (mixL B 54 ++ joinTo ss ss.length)) := rfl
  rw [E2.out]
  clear E2
  have hY := Lib.hid (sumN_bytes (mixL B 54 ++ joinTo ss ss.length))
  generalize sumN (mixL B 54 ++ joinTo ss ss.length) = y at *
  have hpq : w.heap.size < w4.heap.size := r0.out.lt
  go_wp2_with (refine wpList_store_row rfl 59 _ _ rfl w4.heap.size (rowOf 32 (w8 y)) rfl rfl 59 _ (RowAt.new _ _ _) (info_hash _) (by rw [rowOf_size]; rfl) (rowOf_cells8 _ _) ?_; rw [World.setRow_alloc_new]; have r1 := Lib.hid (RowAt.new w4 59 (rowOf 32 (w8 y))); replace r0 := Lib.hid (r0.out.alloc (.cells (rowOf 32 (w8 y)) 59)); replace b0 := b0.alloc b0.size (.cells (rowOf 32 (w8 y)) 59); generalize w4.alloc _ = w5 at *; generalize w4.heap.size = q at *)
  simp only [Act.put]
  have sl := run_slice_all (P := Tryd.prog) Tryd.underlying59 sz8 q
  have cv : Hid (∀ w', RowAt w' q 59 (rowOf 32 (w8 y)) → (convert 54 9 (.slice (some ⟨q, 0, none⟩) 32 32)).run Tryd.prog w' = .ok (.string (bs (listB 32 y))) w') :=
    fun w' hr => block_string hY.out Tryd.underlying54 Tryd.underlying5 Tryd.underlying9 hr
  have hj : Hid (joinTo [bs (mixL B 92), bs (listB 32 y)] 2 = mixL B 92 ++ listB 32 y) := by
    have := joinTo_cons (bs (mixL B 92)) [bs (listB 32 y)]
    rw [joinTo_cons (bs (listB 32 y)) []] at this
    unfold Hid
    rw [show joinTo [] [].length = [] from rfl, List.append_nil] at this
    exact this
  have M1 : Hid (∀ w', Calls Tryd.prog 34 #[.agg (rowOf 64 (w8 B)), .int .u8 92] w' fun e w'' => e = .returned (.string (bs (mixL B 92))) ∧ Below w'.heap.size w' w'') := fun w' => mixed_any B hB 92 (by decide) w'
  have S2 : Hid (∀ w' p, Below w.heap.size w w' → RowAt w' p 9 ([bs (mixL B 92), bs (listB 32 y)].map Value.string).toArray → Calls Tryd.prog 35 #[.slice (some ⟨p, 0, none⟩) 2 2] w' fun e w'' => e = .returned (.agg (rowOf 32 (w8 (sumN (mixL B 92 ++ listB 32 y))))) ∧ Below w'.heap.size w' w'') := by
    intro w' p hb hr
    have h := sum_any (some ⟨p, 0, none⟩) 2 [bs (mixL B 92), bs (listB 32 y)] (by simp) (by
      unfold Hid
      show (joinTo [bs (mixL B 92), bs (listB 32 y)] 2).length ≤ _
      rw [hj.out, List.length_append, L92.out, listB_length]
      decide) w' (hk.out.below hb hk.out.1 hb.size) (sees_row hr)
    rw [show [bs (mixL B 92), bs (listB 32 y)].length = 2 from rfl, hj.out] at h
    exact h
  generalize sumN (mixL B 92 ++ listB 32 y) = z at *
  generalize bs (mixL B 92) = m9 at *
  generalize bs (listB 32 y) = h9 at *
  have HC : MacC w w.heap.size q y w5.drew := ⟨b0.drew, r1.out, zeroN, r0.out⟩
  clear hj hB L54 L92 b0 r0 r1 hY hac hl hz
  refine wp_region_firm (MacC w w.heap.size q y) [eqv (.func (.func 34) #[.agg (rowOf 64 (w8 B))] #[]), eqv (.string m9), eqv (.slice (some ⟨q, 0, none⟩) 32 32), eqv (.string h9), seesv [m9, h9], eqv (.agg (rowOf 32 (w8 z))), rowv w.heap.size 59 (rowOf 32 (w8 z))] (by kernel_rfl) (by kernel_rfl) HC
    (.cons (steady_eqv _) (.cons (steady_eqv _) (.cons (steady_eqv _) (.cons (steady_eqv _) (.cons (steady_seesv _) (.cons (steady_eqv _) (.cons (steady_rowv _ _ _) .nil))))))) w.heap.size (rowOf 32 (w8 z))
    (fun w' hC => by
      obtain ⟨_, _, f, h3⟩ := hC
      exact .cons (fun _ h => h) (.cons (fun _ h => h) (.cons (fun _ h => h) (.cons (fun _ h => h) (.cons (fun _ h => seesv_firm h3 (by decide) h) (.cons (fun _ h => h) (.cons (fun _ _ => h3.setRow _) (.nil _ _))))))))
    ?_
  intro R hR hF
  refine wpRely_cons (fun w' hC hf => ?_) (fun v0 => ?_)
  · exact grows_eqv (by rfl) hC (by go_simp)
  simp only [Act.put, List.setIfInBounds_toArray, List.set_cons_succ, List.set_cons_zero]
  refine wpRely_cons (fun w' hC hf => ?_) (fun v1 => ?_)
  · obtain ⟨rfl, _⟩ := hf
    exact grows_calls hR (fun _ _ hb h => h.after hb) hC (by rfl) (by go_simp) (M1.out w')
  simp only [Act.put, List.setIfInBounds_toArray, List.set_cons_succ, List.set_cons_zero]
  refine wpRely_cons (fun w' hC hf => ?_) (fun v2 => ?_)
  · exact grows_eqv (by rfl) hC (by go_simp)
  simp only [Act.put, List.setIfInBounds_toArray, List.set_cons_succ, List.set_cons_zero]
  refine wpRely_cons (fun w' hC hf => ?_) (fun v3 => ?_)
  · obtain ⟨rfl, _⟩ := hf
    have cw := cv.out w' hC.2.1
    exact grows_eqv (by rfl) hC (by go_simp)
  simp only [Act.put, List.setIfInBounds_toArray, List.set_cons_succ, List.set_cons_zero]
  refine wpRely_cons (fun w' hC hf => ?_) (fun v4 => ?_)
  · obtain ⟨rfl, rfl, _⟩ := hf
    exact grows_strs hR (fun _ _ hb h => h.after hb) hC (by rfl) (by go_simp)
  simp only [Act.put, List.setIfInBounds_toArray, List.set_cons_succ, List.set_cons_zero]
  refine wpRely_cons (fun w' hC hf => ?_) (fun v5 => ?_)
  · obtain ⟨⟨p, rfl, hp⟩, _⟩ := hf
    exact grows_calls hR (fun _ _ hb h => h.after hb) hC (by rfl) (by go_simp) (S2.out w' p hC.1 hp)
  simp only [Act.put, List.setIfInBounds_toArray, List.set_cons_succ, List.set_cons_zero]
  refine wpRely_cons (fun w' hC hf => ?_) (fun v6 => ?_)
  · obtain ⟨rfl, _⟩ := hf
    obtain ⟨f, h3⟩ := hC.2.2
    exact grows_store (by rfl) rfl rfl rfl h3 (info_hash _) (by rw [rowOf_size, rowOf_size]) (rowOf_cells8 _ _) (MacC.store z (by omega) hC) (hF w' hC)
  simp only [Act.put]
  refine wpRely_nil fun w9 hC hf => ?_
  obtain ⟨_, _, _, _, _, _, h6, _⟩ := hf
  have b9 := hC.1
  clear M1 S2 cv hC hF
  go_wp2
  refine bodyPost_ret (v := .agg (rowOf 32 (w8 z))) ?_ rfl ⟨by rw [E.out], b9⟩
  exact results_cell_row Tryd.results25 _ _ w.heap.size 59 (rowOf 32 (w8 z)) (0, 0) _ rfl h6 Tryd.underlying59 rfl (info_hash _)

end Go.Proofs.YtedmdojmgccclaaDoor
