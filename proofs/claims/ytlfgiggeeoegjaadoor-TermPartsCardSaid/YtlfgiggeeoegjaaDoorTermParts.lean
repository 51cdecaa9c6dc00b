/-
  Contracts: slices.Reverse of numbers, Parts.
-/
import Derived.Test.YtlfgiggeeoegjaaDoorTermIter
import Derived.Test.YtlfgiggeeoegjaaDoorTermSizes
import Derived.Test.YtlfgiggeeoegjaaDoorTermShelf
import Derived.Laws.IdiomCopy
import Derived.Shelf.Abstract
namespace Go.Proofs.YtlfgiggeeoegjaaDoor
open Go.RowKit Go.Shelf
set_option linter.unusedVariables false

theorem other_setCells (g : Nat) : ∀ (vs : List Value) (o : Nat) (w : World) (k : Nat), k ≠ g → (w.setCells g o vs).heap[k]? = w.heap[k]?
  | [], _, _, _, _ => rfl
  | v :: r, o, w, k, h => by
    rw [World.setCells, other_setCells g r (o + 1) _ k h]
    exact Below.heap_setCell _ _ _ _ h

theorem below_setC {B g : Nat} {a : World} (hb : B ≤ g) : ∀ (vs : List Value) (o : Nat) (w : World), Below B a w → Below B a (w.setCells g o vs)
  | [], _, _, h => h
  | v :: r, o, w, h => below_setC hb r (o + 1) _ (h.setCell (p := ⟨g, o, none⟩) hb v)

/-- The numbers of a row, the other way round. -/
theorem reverse_any (g c N : Nat) (hN : N ≤ 1000000) (f : Nat → Nat) (w : World) (hc : Hid (∀ j, j < N → w.cell? ⟨g, j, none⟩ = some (.int .i64 ((f j : Nat) : Int)))) (hf : Hid (∀ j, j < N → w.frozen? ⟨g, j, none⟩ = false)) :
    Calls Tryd.prog 32 #[.slice (some ⟨g, 0, none⟩) N c] w fun e w' => e = .returned (.tuple #[]) ∧ Hid (∀ j, j < N → w'.cell? ⟨g, j, none⟩ = some (.int .i64 ((f (N - 1 - j) : Nat) : Int))) ∧ Hid (∀ k, k ≠ g → w'.heap[k]? = w.heap[k]?) ∧ Hid (∀ B, B ≤ g → Below B w w') := by
  obtain ⟨zs, hz⟩ : ∃ zs : List Int, zs = (List.range N).map (fun j => ((f j : Nat) : Int)) := ⟨_, rfl⟩
  have hl : zs.length = N := by rw [hz]; simp
  have hg : ∀ j, j < N → zs.getD j 0 = ((f j : Nat) : Int) := by
    intro j hj
    rw [hz, List.getD_eq_getElem?_getD, List.getElem?_map, List.getElem?_range hj]
    rfl
  refine (Any.slices_Reverse_int_cells lays112 g 0 N c zs w (by omega) (by omega) (fun j hj => by rw [Nat.zero_add, hc.out j (by omega), hg j (by omega)]) (fun j hj => by rw [Nat.zero_add]; exact hf.out j hj)).mono ?_
  rintro e w' ⟨rfl, q, rfl⟩
  have b0 : ∀ B, Below B w (w.drewN q) := fun B => ⟨rfl, rfl, rfl, Nat.le_refl _, fun _ _ => rfl⟩
  refine ⟨rfl, fun j hj => ?_, fun k hk => by rw [other_setCells g _ _ _ k hk]; rfl, fun B hB => below_setC hB _ _ _ (b0 B)⟩
  have hlen : ((zs.take N).reverse.map (Value.int .i64)).length = N := by simp; omega
  have h1 := World.cell?_setCells_in g ((zs.take N).reverse.map (Value.int .i64)) 0 (w.drewN q) (fun j hj => by
    rw [Nat.zero_add]
    show (w.cell? _).isSome = true
    rw [hc.out j (by omega)]
    rfl) j (by omega)
  rw [Nat.zero_add] at h1
  rw [h1]
  congr 1
  have e1 : (zs.take N).reverse = zs.reverse := by rw [List.take_of_length_le (by omega)]
  simp only [e1, List.getElem_map, List.getElem_reverse]
  congr 1
  have h2 := hg (N - 1 - j) (by omega)
  rw [List.getD_eq_getElem?_getD, List.getElem?_eq_getElem (by omega)] at h2
  simpa [hl] using h2

/-- The variable at B holds a row of the first k numbers of f; below n₀ all is as in w. -/
structure ColI (n₀ B m : Nat) (w : World) (f : Nat → Nat) (k : Nat) (W : World) : Prop where
  row : ∃ v, Boxed W B 35 v ∧ W.ownsRow n₀ 3 1 v k (cellL k (numV f))
  low : Below n₀ w W
  base : w.heap.size = n₀
  hB : n₀ ≤ B
  hm : n₀ ≤ m

section
variable {n₀ B m : Nat} {w W W' : World} {f : Nat → Nat} {k : Nat}
theorem own_ints_same {v : Value} {n : Nat} {xs : List Value} (h : W.ownsRow n₀ 3 1 v n xs) (hb : ∀ (g : Nat) (cur : Array Value), W.heap[g]? = some (.cells cur 3 (0, 0)) → W'.heap[g]? = some (.cells cur 3 (0, 0))) :
    W'.ownsRow n₀ 3 1 v n xs := by
  refine ⟨h.1, ?_⟩
  rcases h.2 with hn | ⟨g, cap, cur, rfl, h1, hg, rest⟩
  · exact .inl hn
  · exact .inr ⟨g, cap, cur, rfl, h1, hb g cur hg, rest⟩
theorem ColI.size (h : ColI n₀ B m w f k W) : n₀ ≤ W.heap.size := by rw [← h.base]; exact h.low.size
theorem ColI.inner (h : ColI n₀ B m w f k W) (i : InnerB lzI m W W') : ColI n₀ B m w f k W' := by
  obtain ⟨v, hv, hr⟩ := h.row
  exact ⟨⟨v, i.block _ _ hv (.inr rfl), own_ints_same hr fun g cur hg => i.block _ _ hg (.inr rfl)⟩, h.low.trans ((i.mono h.hm).below h.size), h.base, h.hB, h.hm⟩
theorem put_cells {W : World} {j k : Nat} {o o' x : Obj} (hj : W.heap[j]? = some o) (ho : o.isCells = false) (hk : W.heap[k]? = some x) (hx : x.isCells = true) : (W.putObj j o').heap[k]? = some x := by
  rw [World.putObj_heap_other]
  · exact hk
  · intro e
    subst e
    rw [hj] at hk
    cases hk
    rw [ho] at hx
    cases hx
theorem ColI.put (h : ColI n₀ B m w f k W) {j : Nat} {o : Obj} (o' : Obj) (hm : m ≤ j) (hj : W.heap[j]? = some o) (ho : o.isCells = false) : ColI n₀ B m w f k (W.putObj j o') := by
  obtain ⟨v, hv, hr⟩ := h.row
  exact ⟨⟨v, put_cells hj ho hv rfl, own_ints_same hr fun g cur hg => put_cells hj ho hg rfl⟩,
    h.low.trans ⟨rfl, rfl, rfl, by rw [World.putObj_size]; exact Nat.le_refl _, fun k hk => World.putObj_heap_other (by have := h.hm; omega)⟩, h.base, h.hB, h.hm⟩
/-- A number appended, and the variable set. -/
theorem ColI.append (h : ColI n₀ B m w f k W) {w1 : World} {v v' : Value} (hv : Boxed W B 35 v) (hr : W.ownsRow n₀ 3 1 v k (cellL k (numV f)))
    (hown : w1.ownsRow n₀ 3 1 v' (k + 1) (cellL (k + 1) (numV f))) (hgrow : W.grownBy w1 v.ownBlock) :
    ColI n₀ B m w f (k + 1) (w1.setCell ⟨B, 0, none⟩ v') ∧ OuterB lzI n₀ W (w1.setCell ⟨B, 0, none⟩ v') ∧ Boxed w1 B 35 v := by
  have hv1 : Boxed w1 B 35 v := hv.kept hgrow (hv.not_row (by decide) hr)
  have hv2 := hv1.set v'
  have hr2 := hown.kept (grownBy_setCell' w1 B v') (.inr (hv1.not_row (by decide) hown).symm)
  have hb2 : Below n₀ W (w1.setCell ⟨B, 0, none⟩ v') := by
    refine ((Below.refl n₀ W).grown hgrow h.size fun j ej => ?_).setCell (p := ⟨B, 0, none⟩) h.hB v'
    exact (hr.lt j ej).1
  have hout : OuterB lzI n₀ W (w1.setCell ⟨B, 0, none⟩ v') := by
    refine ⟨hb2.os, hb2.tape, hb2.output, hb2.size, fun j o hj ho => ?_⟩
    have hlt := (Array.getElem?_eq_some_iff.1 hj).1
    rcases ho with ho | ho
    · rw [hb2.block j ho]
      exact hj
    · rw [Below.heap_setCell _ _ _ _ (fun e => ?_), hgrow.block j hlt (fun e => ?_)]
      · exact hj
      · rcases hr.2 with ⟨rfl, _⟩ | ⟨g, cap, cur, rfl, _, hg, _⟩
        · simp [Value.ownBlock] at e
        · obtain rfl : j = g := by simpa [Value.ownBlock] using e
          rw [hg] at hj
          cases hj
          cases ho
      · have e' : j = B := e
        subst e'
        have hv' : W.heap[j]? = _ := hv
        rw [hv'] at hj
        cases hj
        cases ho
  exact ⟨⟨⟨v', hv2, hr2⟩, h.low.trans hb2, h.base, h.hB, h.hm⟩, hout, hv1⟩
end

/-- The places that are told of i. -/
def partsV (K : Nds) (n : Nat) (i : Int) : List Nat := if placeB K n i = true then partL K i.toNat else []

theorem getD_rev (l : List Nat) (j : Nat) (hj : j < l.length) : l.reverse.getD j 0 = l.getD (l.length - 1 - j) 0 := by
  rw [List.getD_eq_getElem?_getD, List.getD_eq_getElem?_getD, List.getElem?_reverse hj]
theorem downL_pos (K : Nds) (i : Nat) : 0 < (downL K i (i + 1)).length := by
  obtain ⟨l, hl⟩ := partL_last K i
  have := congrArg List.length hl
  rw [← partL_eq, List.length_reverse] at this
  simp at this
  omega

/-- What Parts comes to. -/
def PartsEnd (l : List Nat) (w : World) (e : Ending) (w' : World) : Prop := ∃ a c, e = .returned (.slice a l.length c) ∧ Hid (SeesI w' a l.length (fun j => l.getD j 0)) ∧ Below w.heap.size w w'

set_option maxHeartbeats 2000000 in
set_option maxRecDepth 8000 in
theorem parts_no (K : Nds) (n : Nat) (i : Int) (hpl : placeB K n i = false) (a : Option Addr) (c : Nat) (hc : n ≤ c) (w : World) (hs : Hid (SeesN w a n K)) :
    Calls Tryd.prog 18 #[.slice a n c, .int .i64 i] w (PartsEnd [] w) := by
  have H := hasTerm_any K n a c hc i w hs
  rw [hpl] at H
  replace H := Lib.hid H
  clear hpl
  go_enter Tryd.func18, Tryd.ntmps18
  go_wp2_with fail
  refine H.out.mono ?_
  rintro e w1 ⟨rfl, hb⟩
  go_wp2
  go_ret
  exact ⟨none, 0, rfl, SeesV.nil _ _ _, hb⟩

set_option maxHeartbeats 4000000 in
set_option maxRecDepth 8000 in
theorem parts_yes (K : Nds) (n : Nat) (i : Nat) (hpl : placeB K n (i : Int) = true) (a : Option Addr) (c : Nat) (hc : n ≤ c) (w : World) (hs : Hid (SeesN w a n K)) :
    Calls Tryd.prog 18 #[.slice a n c, .int .i64 (i : Int)] w (PartsEnd (partL K i) w) := by
  have H := hasTerm_any K n a c hc i w hs
  rw [hpl] at H
  replace H := Lib.hid H
  obtain ⟨i', hi, e, hn, hK⟩ := place_yes hpl
  obtain rfl : i = i' := by omega
  clear hpl e
  replace hK := Lib.hid hK
  have hab : Hid (∀ ad, a = some ad → ad.block < w.heap.size) := fun ad e => by
    obtain ⟨ad', e', hl⟩ := hs.out.some (by omega)
    rw [e] at e'
    cases e'
    exact hl
  refine (callsIn_wide (n := 1)).1 (callsIn_of_wp_marks Tryd.func18 rfl trivial (wpIn_wide.2 ?_) rfl)
  simp only [Tryd.ntmps18, List.size_toArray, List.length_cons, List.length_nil, Nat.reduceAdd, Nat.reduceSub, Array.replicate_succ, Array.replicate_zero, List.push_toArray, List.append_toArray, List.nil_append, List.cons_append]
  go_wp2_with fail
  refine H.out.mono ?_
  rintro e w1 ⟨rfl, hb1⟩
  have bx := Lib.hid (Boxed.new w1 35 (.slice none 0 0))
  have b2 := hb1.alloc hb1.size (.cells #[.slice none 0 0] 35)
  have hB : w.heap.size ≤ w1.heap.size := hb1.size
  have P := Lib.hid (partsFromBehind_any n a c (i : Int) (w1.alloc (.cells #[.slice none 0 0] 35)))
  clear H hb1
  go_wp2_with fail
  generalize w1.alloc (.cells #[.slice none 0 0] 35) = w2 at *
  generalize w1.heap.size = B at *
  refine P.out.mono ?_
  rintro e w3 ⟨rfl, c1, c2, hz3, hb3⟩
  have C0 : Hid (ColI w.heap.size B w3.heap.size w (fun j => (downL K i (i + 1)).getD j 0) 0 w3) :=
    ⟨⟨_, block_kept hb3 bx.out, World.ownsRow_nil _ _ _ _⟩, b2.trans (hb3.mono b2.size), rfl, hB, by have := b2.size; omega⟩
  have sn3 := Lib.hid ((hs.out.after b2).after hb3)
  have hs3 : w2.heap.size + 1 < w3.heap.size := by omega
  have hbw : w.heap.size ≤ w3.heap.size := by have := b2.size; omega
  clear P bx b2 hz3 hb3
  generalize w2.heap.size = s at *
  go_wp2
  refine wp_rangeFunc_b (L := lzI) (b := w.heap.size) (w0 := w3) rfl (enters_of Tryd.func37 (by kernel_rfl) rfl) (parts_seq K n hn hK i hi a c s w.heap.size w3 hs3 hbw c1 c2 sn3 hab) (Below.refl _ _) (fun _ => rfl)
    (fun k W => ColI w.heap.size B w3.heap.size w (fun j => (downL K i (i + 1)).getD j 0) k W) (fun k A A' h hAA => h.inner hAA) (fun k A j o o' h h1 h2 h3 => h.put o' h1 h2 h3) C0.out
    (fun k => { tmps := #[.slice a n c, .int .i64 (i : Int), undef, undef, .slice none 0 0, .pointer (some ⟨B, 0, none⟩), .int .i64 (((downL K i (i + 1)).getD k 0 : Nat) : Int), .slice a n c, .int .i64 (i : Int), .bool true, .bool false, .slice a n c, .int .i64 (i : Int), .func (.func 37) #[] #[.pointer (some ⟨s + 1, 0, none⟩), .pointer (some ⟨s, 0, none⟩)], .int .i64 (((downL K i (i + 1)).getD k 0 : Nat) : Int), undef, undef, undef, undef, undef, undef, undef], defers := [] }) ?assign ?body ?done
  case assign =>
    intro l k W Kk hKk
    refine wpIn_round_list' l (by kernel_rfl) (fun ⟨_, _, h⟩ => h) ?_
    simp only [List.zip_toArray, List.zip_cons_cons, List.zip_nil_right, List.foldl_toArray, List.foldl_cons, List.foldl_nil, List.setIfInBounds_toArray, List.set_cons_succ, List.set_cons_zero]
    generalize (downL K i (i + 1)).getD k 0 = x at *
    go_wp2
    exact hKk
  case body =>
    intro l k W hI hkm
    have hI' := Lib.hid hI
    clear hI
    have hsz := hI'.out.size
    have hk2 : k < 1000 := by have := downL_length K i (i + 1); omega
    obtain ⟨v0, hv0, hr0⟩ := hI'.out.row
    have hc0 := hv0.cell
    have hv0' := Lib.hid hv0
    have hr0' := Lib.hid hr0
    clear hv0 hr0
    refine wpIn_block (wpIn_round_list' l (by kernel_rfl) roundPostB_block ?_)
    generalize hx : (downL K i (i + 1)).getD k 0 = x at *
    replace hx := Lib.hid hx
    go_wp2_with (at_builtin; refine wpList_append_num rfl _ _ rfl w.heap.size _ k (fun j => (downL K i (i + 1)).getD j 0) (x : Int) (by rw [hx.out]) rfl W hr0'.out rfl rfl rfl (by omega) hsz ?_; intro v1 w4 hown hgrow hb4; refine Hid.out ?_)
    unfold Hid
    have AP := hI'.out.append hv0'.out hr0'.out hown.out hgrow.out
    obtain ⟨g4, c4, rfl⟩ := ownsRow_succ hown.out
    have hc4 := AP.2.2.cell
    have hf4 := AP.2.2.frozen
    have AP1 := Lib.hid AP
    clear hown hgrow hb4 AP
    go_wp2
    exact ⟨rfl, AP1.out.1, AP1.out.2.1⟩
  case done =>
    intro D W hD hI hKd
    obtain ⟨v, hv, hr⟩ := hI.row
    obtain ⟨g, c0, rfl, hg, hgl⟩ := own_some hr (downL_pos K i)
    have hN : (downL K i (i + 1)).length ≤ 1000 := by have := downL_length K i (i + 1); omega
    have hgB : B ≠ g := fun e => (hv.not_row (by decide) hr) (by rw [e]; rfl)
    have hcs : Hid (∀ j, j < (downL K i (i + 1)).length → W.cell? ⟨g, j, none⟩ = some (.int .i64 (((downL K i (i + 1)).getD j 0 : Nat) : Int))) := fun j hj => by
      have := hr.cells (g := g) rfl j _ (cellL_get _ _ j hj)
      rwa [addr_add, Nat.zero_add] at this
    have hfs : Hid (∀ j, j < (downL K i (i + 1)).length → W.frozen? ⟨g, j, none⟩ = false) := fun j hj => by
      rcases hr.2 with ⟨h, _⟩ | ⟨g', cap, cur, h, _, h2, _⟩
      · cases h
      · cases h
        exact frozen_of_row W g j cur _ h2
    have hDg : D ≠ g := fun e => by
      subst e
      rcases hr.2 with ⟨h, _⟩ | ⟨g', cap, cur, h, _, h2, _⟩
      · cases h
      · cases h
        rw [h2] at hKd
        cases hKd
    have hDB : D ≠ B := fun e => by
      subst e
      have h2 : W.heap[D]? = _ := hv
      rw [h2] at hKd
      cases hKd
    have R := Lib.hid (reverse_any g c0 _ (by omega) (fun j => (downL K i (i + 1)).getD j 0) W hcs hfs)
    have hc := hv.cell
    have hv' := Lib.hid hv
    have hKd' := Lib.hid hKd
    have hlow := hI.low
    have hle : w.heap.size ≤ D := Nat.le_trans hI.hm hD
    clear hI hKd hv hr hcs hfs
    go_wp2_with fail
    refine R.out.mono ?_
    rintro e w5 ⟨rfl, rc, ro, rb⟩
    have b5 := hlow.trans (rb.out w.heap.size hg)
    have hv5 : Boxed w5 B 35 (.slice (some ⟨g, 0, none⟩) (downL K i (i + 1)).length c0) := (ro.out B hgB).trans hv'.out
    have hK5 : Hid (w5.heap[D]? = some (.deferred (some []))) := (ro.out D hDg).trans hKd'.out
    have hc5 := hv5.cell
    have hgl5 : Hid (g < w5.heap.size) := Nat.lt_of_lt_of_le hgl (rb.out w.heap.size hg).size
    clear R hv5 ro rb hlow hv' hKd' hc
    go_wp2
    refine ⟨by simp, .inl ⟨_, _, rfl, run_takeDeferred hK5.out, ?_⟩⟩
    have el : (partL K i).length = (downL K i (i + 1)).length := by rw [← partL_eq, List.length_reverse]
    refine ⟨_, results_tmp rfl _ _ _, ?_⟩
    refine ⟨some ⟨g, 0, none⟩, c0, by rw [el]; rfl, ?_, b5.trans ⟨rfl, rfl, rfl, by rw [World.putObj_size]; exact Nat.le_refl _, fun k hk => World.putObj_heap_other (by omega)⟩⟩
    rw [el]
    intro j hj
    refine ⟨_, rfl, by rw [World.putObj_size]; exact hgl5.out, ?_⟩
    rw [addr_add, Nat.zero_add]
    have h1 := rc.out j hj
    have h2 : (w5.putObj D (.deferred none)).cell? ⟨g, j, none⟩ = w5.cell? ⟨g, j, none⟩ := World.cell?_of_block (World.putObj_heap_other (Ne.symm hDg))
    rw [h2, h1]
    unfold numV
    rw [← partL_eq]
    show _ = some (Value.int .i64 (((downL K i (i + 1)).reverse.getD j 0 : Nat) : Int))
    rw [getD_rev _ _ hj]

theorem parts_any (K : Nds) (n : Nat) (i : Int) (a : Option Addr) (c : Nat) (hc : n ≤ c) (w : World) (hs : Hid (SeesN w a n K)) :
    Calls Tryd.prog 18 #[.slice a n c, .int .i64 i] w (PartsEnd (partsV K n i) w) := by
  unfold partsV
  cases hpl : placeB K n i
  · exact parts_no K n i hpl a c hc w hs
  · obtain ⟨j, hj, rfl, _, _⟩ := place_yes hpl
    rw [if_pos rfl, Int.toNat_natCast]
    exact parts_yes K n j hpl a c hc w hs

end Go.Proofs.YtlfgiggeeoegjaaDoor
