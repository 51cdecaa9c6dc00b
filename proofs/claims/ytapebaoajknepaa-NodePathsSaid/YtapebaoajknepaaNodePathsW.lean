/-
  The walk of NodePaths.
-/
import Derived.Test.YtapebaoajknepaaNodeShown
import Derived.Test.YtapebaoajknepaaNodeIts
import Derived.Test.YtapebaoajknepaaNodeRefDec
import Derived.Test.YtapebaoajknepaaNodeRefEnc
import Derived.Test.YtapebaoajknepaaNodeOpen
import Derived.Test.YtapebaoajknepaaAdvStep
import Derived.Test.YtapebaoajknepaaNodePath
import Derived.Test.YtapebaoajknepaaNodeWith
import Derived.Test.YtapebaoajknepaaNodeDigitsW
import Derived.Deep.RegionHeld
namespace Go.Proofs.Ytapebaoajknepaa
open Go.RowKit
set_option linter.unusedVariables false

/-- A node and a child that lie in blocks. -/
def PatC (w : World) (p r : Nat) (N : Nod) (c : Chd) (w' : World) : Prop := Below w.heap.size w w' ∧ RowAt w' p 29 (rowOf 85 (nF N)) ∧ RowAt w' r 26 (rowOf 21 (chF c))
theorem PatC.after {w w1 w2 : World} {p r : Nat} {N : Nod} {c : Chd} (hb : Below w1.heap.size w1 w2) (h : PatC w p r N c w1) : PatC w p r N c w2 := ⟨h.1.trans (hb.mono h.1.size), h.2.1.below hb h.2.1.lt, h.2.2.below hb h.2.2.lt⟩
/-- Two paths, two nodes. -/
def FouC (w : World) (q9 q11 q13 q15 : Nat) (f : Nat → Value) (X : Nod) (w' : World) : Prop := Below w.heap.size w w' ∧ RowAt w' q9 47 (rowOf 4 f) ∧ RowAt w' q11 47 (rowOf 4 f) ∧ RowAt w' q13 29 (rowOf 85 (nF X)) ∧ RowAt w' q15 37 (rowOf 85 (nF X))
theorem FouC.after {w w1 w2 : World} {q9 q11 q13 q15 : Nat} {f : Nat → Value} {X : Nod} (hb : Below w1.heap.size w1 w2) (h : FouC w q9 q11 q13 q15 f X w1) : FouC w q9 q11 q13 q15 f X w2 :=
  ⟨h.1.trans (hb.mono h.1.size), h.2.1.below hb h.2.1.lt, h.2.2.1.below hb h.2.2.1.lt, h.2.2.2.1.below hb h.2.2.2.1.lt, h.2.2.2.2.below hb h.2.2.2.2.lt⟩
/-- The block q, above w's, has a row; another row is laid there. -/
def AtQ (w : World) (q : Nat) (cs : Array Value) (w' : World) : Prop := w.heap.size ≤ q ∧ RowAt w' q 37 cs
theorem AtQ.after {w w1 w2 : World} {q : Nat} {cs : Array Value} (hb : Below w1.heap.size w1 w2) (h : AtQ w q cs w1) : AtQ w q cs w2 := ⟨h.1, h.2.below hb h.2.lt⟩
theorem PatC.set {w w' : World} {p r q : Nat} {N : Nod} {c : Chd} (h : PatC w p r N c w') (hq : w.heap.size ≤ q) (hp : p < w.heap.size) (hr : r < w.heap.size) (ds : Array Value) : PatC w p r N c (w'.setRow q ds) :=
  ⟨below_setRow' h.1 hq ds, h.2.1.setRowOther _ _ (by omega), h.2.2.setRowOther _ _ (by omega)⟩
theorem wp_made' {P : Program} {o : Oper} {a : Act} {w w' : World} {K : Act → World → Prop} {Q : Exit → Act → World → Prop} {v : Value} (hr : (execOp a.eval o).run P w = .ok (.value v) w') (h : K (a.put o.dst v) w') : o.wp P a w K Q := by
  unfold Oper.wp
  simp only [hr, Oper.upon]
  exact h
theorem wp_called' {P : Program} {o : Oper} {a : Act} {w : World} {K : Act → World → Prop} {Q : Exit → Act → World → Prop} {f : FuncId} {args : Array Value} (hr : (execOp a.eval o).run P w = .ok (.enter f args) w) (h : Calls P f args w fun e w' => ∃ v, e = .returned v ∧ K (a.put o.dst v) w') : o.wp P a w K Q := by
  unfold Oper.wp
  simp only [hr, Oper.upon]
  refine h.mono ?_
  rintro e w' ⟨v, rfl, h⟩
  exact h
theorem run_load_rowT {P : Program} {w : World} {g : Nat} {t ty : TypeId} {cs : Array Value} {d : TypeDesc} (hg : RowAt w g t cs) {o : Oper} {a : Act} {x : Operand} (ho : o.op = .load ty x) (hx : a.eval x = .pointer (some ⟨g, 0, none⟩)) (hu : P.underlying ty = some d) (hd : (match d with | .struct _ | .array _ _ => true | _ => false) = true) (hi : (P.info? ty).map (·.size) = some cs.size) :
    (execOp a.eval o).run P w = .ok (.value (.agg cs)) w := by
  unfold execOp
  simp only [ho, hx, Instr.loadAt, Instr.sureAddr, Sem.run_bind, Sem.run_pure, Result.andThen_ok, run_loadVar_row w g t ty cs (0, 0) d hg hu hd hi]
theorem pathF_int (z : Int) : ∃ f : Nat → Int, pathF z = fun k => .int .i64 (f k) := by
  unfold pathF
  split
  · exact ⟨fun k => ((dig z.toNat k : Nat) : Int), rfl⟩
  · exact ⟨fun _ => 0, rfl⟩

set_option maxHeartbeats 4000000 in
set_option maxRecDepth 8000 in
theorem paths_walk (z : Int) (N : Nod) (i : Int) (c : Chd) (w : World) :
    Calls Try.prog 5 #[.int .i64 z, .agg (rowOf 85 (nF N)), .int .i64 i, .agg (rowOf 21 (chF c))] w fun e w' => e = .returned (.bool true) ∧ Below w.heap.size w w' := by
  have r5 : Hid (RowAt ((w.alloc (.cells (rowOf 85 (nF N)) 29)).alloc (.cells (rowOf 21 (chF c)) 26)) w.heap.size 29 (rowOf 85 (nF N))) := (RowAt.new _ _ _).alloc _
  have r7 : Hid (RowAt ((w.alloc (.cells (rowOf 85 (nF N)) 29)).alloc (.cells (rowOf 21 (chF c)) 26)) (w.heap.size + 1) 26 (rowOf 21 (chF c))) := by
    have := RowAt.new (w.alloc (.cells (rowOf 85 (nF N)) 29)) 26 (rowOf 21 (chF c))
    rw [World.size_alloc] at this
    exact this
  have b0 := Lib.hid (((Below.refl _ w).alloc (Nat.le_refl _) (.cells (rowOf 85 (nF N)) 29)).alloc (by simp) (.cells (rowOf 21 (chF c)) 26))
  have PP := Lib.hid (fun W => path_any z W)
  have RP := Lib.hid (fun W => refPath_any z W)
  have WW := Lib.hid (fun W => with_any N i c W)
  have RW := Lib.hid (fun W => refWith_any N i c W)
  obtain ⟨f, hf⟩ := pathF_int z
  rw [hf] at PP RP
  clear hf
  generalize pathE z = Y at *
  generalize withV N i c = X at *
  generalize withE N i c = E at *
  have all4 : Hid ((rowOf 4 fun k => Value.int .i64 (f k)).all (·.oneCell') = true) := rowOf_oneC fun _ => rfl
  go_enter Try.func5, Try.ntmps5
  go_wp2_with fail
  obtain ⟨p5, hp5⟩ : ∃ p, w.heap.size = p := ⟨_, rfl⟩
  obtain ⟨p7, hp7⟩ : ∃ p, w.heap.size + 1 = p := ⟨_, rfl⟩
  refine (PP.out _).mono ?_
  rintro e w1 ⟨rfl, b1⟩
  replace r5 := Lib.hid ((r5.out.below b1 r5.out.lt).alloc (.cells (rowOf 4 fun k => .int .i64 (f k)) 47))
  replace r7 := Lib.hid ((r7.out.below b1 r7.out.lt).alloc (.cells (rowOf 4 fun k => .int .i64 (f k)) 47))
  have r9 := Lib.hid (RowAt.new w1 47 (rowOf 4 fun k => .int .i64 (f k)))
  have b2 := b0.out.trans (b1.mono b0.out.size)
  replace b0 := Lib.hid (b2.alloc b2.size (.cells (rowOf 4 fun k => .int .i64 (f k)) 47))
  clear PP b1 b2 hp5 hp7 p5 p7
  go_wp2_with (first | (refine wpList_new rfl (run_alloc4 rfl _) ?_) | (refine wpList_store_row rfl 47 _ _ rfl w1.heap.size (rowOf 4 fun k => .int .i64 (f k)) rfl rfl 47 _ (RowAt.new _ _ _) (info4 _) (by simp only [rowOf_size]) all4.out ?_; rw [World.setRow_alloc_new]))
  generalize w1.heap.size = q9 at *
  generalize w1.alloc (.cells (rowOf 4 fun k => .int .i64 (f k)) 47) = w2 at *
  refine (RP.out w2).mono ?_
  rintro e w3 ⟨rfl, b1⟩
  replace r5 := Lib.hid ((r5.out.below b1 r5.out.lt).alloc (.cells (rowOf 4 fun k => .int .i64 (f k)) 47))
  replace r7 := Lib.hid ((r7.out.below b1 r7.out.lt).alloc (.cells (rowOf 4 fun k => .int .i64 (f k)) 47))
  replace r9 := Lib.hid ((r9.out.below b1 r9.out.lt).alloc (.cells (rowOf 4 fun k => .int .i64 (f k)) 47))
  have r11 := Lib.hid (RowAt.new w3 47 (rowOf 4 fun k => .int .i64 (f k)))
  have b2 := b0.out.trans (b1.mono b0.out.size)
  replace b0 := Lib.hid (b2.alloc b2.size (.cells (rowOf 4 fun k => .int .i64 (f k)) 47))
  clear RP b1 b2
  go_wp2_with (first | (refine wpList_new rfl (run_alloc4 rfl _) ?_) | (refine wpList_store_row rfl 47 _ _ rfl w3.heap.size (rowOf 4 fun k => .int .i64 (f k)) rfl rfl 47 _ (RowAt.new _ _ _) (info4 _) (by simp only [rowOf_size]) all4.out ?_; rw [World.setRow_alloc_new]) | (refine wpList_load_row rfl 29 _ rfl w.heap.size rfl 29 _ (0, 0) _ r5.out Try.underlying29 rfl (infoNod' _) ?_) | (refine wpList_load_row rfl 26 _ rfl (w.heap.size + 1) rfl 26 _ (0, 0) _ r7.out Try.underlying26 rfl (infoChd' _) ?_))
  generalize w3.heap.size = q11 at *
  generalize w3.alloc (.cells (rowOf 4 fun k => .int .i64 (f k)) 47) = w5 at *
  refine (WW.out w5).mono ?_
  rintro e w6 ⟨rfl, b1⟩
  replace r5 := Lib.hid ((r5.out.below b1 r5.out.lt).alloc (.cells (rowOf 85 (nF X)) 29))
  replace r7 := Lib.hid ((r7.out.below b1 r7.out.lt).alloc (.cells (rowOf 85 (nF X)) 29))
  replace r9 := Lib.hid ((r9.out.below b1 r9.out.lt).alloc (.cells (rowOf 85 (nF X)) 29))
  replace r11 := Lib.hid ((r11.out.below b1 r11.out.lt).alloc (.cells (rowOf 85 (nF X)) 29))
  have r13 := Lib.hid (RowAt.new w6 29 (rowOf 85 (nF X)))
  have b2 := b0.out.trans (b1.mono b0.out.size)
  replace b0 := Lib.hid (b2.alloc b2.size (.cells (rowOf 85 (nF X)) 29))
  clear WW b1 b2
  go_wp2_with (first | (refine wpList_new rfl (run_allocNod rfl _) ?_) | (refine wpList_store_row rfl 29 _ _ rfl w6.heap.size (rowOf 85 (nF X)) rfl rfl 29 _ (RowAt.new _ _ _) (infoNod' _) (by simp only [rowOf_size]) (nF_all' _) ?_; rw [World.setRow_alloc_new]))
  generalize w6.heap.size = q13 at *
  generalize w6.alloc (.cells (rowOf 85 (nF X)) 29) = w4 at *
  obtain ⟨p5, hp5⟩ : ∃ p, Hid (w.heap.size = p) := ⟨_, rfl⟩
  obtain ⟨p7, hp7⟩ : ∃ p, Hid (w.heap.size + 1 = p) := ⟨_, rfl⟩
  rw [hp7.out] at r7 ⊢
  rw [hp5.out] at r5 ⊢
  have HC : Hid (PatC w4 p5 p7 N c w4.drew) := ⟨(Below.refl _ _).drew, r5.out, r7.out⟩
  have l5 := r5.out.lt
  have l7 := r7.out.lt
  refine wp_region_held_drew (S := PatC w4 p5 p7 N c) (by kernel_rfl) HC.out fun hS => ?_
  change wpAnyH _ _ _ _ _ 11 #[false, false, false, false, false, false, false, false, false, false, false] _ _
  replace hS := Lib.hid hS
  generalize World.drew w4 = wS at hS ⊢
  refine wpAnyH_take (i := 0) (v := .agg (rowOf 85 (nF N))) rfl (by kernel_rfl) (by kernel_rfl) (by kernel_rfl) (fun _ _ _ h => h) (Or.inl ⟨by rfl, fun w' hw' => run_load_rowT hw'.2.1 rfl rfl Try.underlying29 rfl (infoNod' _)⟩) hS.out ?_
  change wpAnyH _ _ _ _ _ 10 #[true, false, false, false, false, false, false, false, false, false, false] _ _
  simp only [List.getElem_toArray, List.getElem_cons_zero, Act.put, List.setIfInBounds_toArray, List.set_cons_succ, List.set_cons_zero]
  refine wpAnyH_take (i := 2) (v := .int .i64 i) rfl (by kernel_rfl) (by kernel_rfl) (by kernel_rfl) (fun _ _ _ h => h) (Or.inl ⟨by rfl, fun w' hw' => by go_simp⟩) hS.out ?_
  change wpAnyH _ _ _ _ _ 9 #[true, false, true, false, false, false, false, false, false, false, false] _ _
  simp only [List.getElem_toArray, List.getElem_cons_succ, List.getElem_cons_zero, Act.put, List.setIfInBounds_toArray, List.set_cons_succ, List.set_cons_zero]
  refine wpAnyH_take (i := 3) (v := .agg (rowOf 21 (chF c))) rfl (by kernel_rfl) (by kernel_rfl) (by kernel_rfl) (fun _ _ _ h => h) (Or.inl ⟨by rfl, fun w' hw' => run_load_rowT hw'.2.2 rfl rfl Try.underlying26 rfl (infoChd' _)⟩) hS.out ?_
  change wpAnyH _ _ _ _ _ 8 #[true, false, true, true, false, false, false, false, false, false, false] _ _
  simp only [List.getElem_toArray, List.getElem_cons_succ, List.getElem_cons_zero, Act.put, List.setIfInBounds_toArray, List.set_cons_succ, List.set_cons_zero]
  refine wpAnyH_ready (rs := [1, 8]) (by kernel_rfl) (by simp) (AllReadyH.cons rfl (fun K hK => ?_) (AllReadyH.cons rfl (fun K hK => ?_) (AllReadyH.nil)))
  · rw [if_pos (by rfl)]
    refine wp_called' (by go_simp) ((its_any N _).mono ?_)
    rintro e w8 ⟨rfl, b8⟩
    refine ⟨_, rfl, hK.out _ _ (PatC.after b8 hS.out) fun hS => ?_⟩
    clear b8
    change wpAnyH _ _ _ _ _ 7 #[true, true, true, true, false, false, false, false, false, false, false] _ _
    simp only [List.getElem_toArray, List.getElem_cons_succ, List.getElem_cons_zero, Act.put, List.setIfInBounds_toArray, List.set_cons_succ, List.set_cons_zero]
    clear hK K
    replace hS := Lib.hid hS
    refine wpAnyH_ready (rs := [4, 8]) (by kernel_rfl) (by simp) (AllReadyH.cons rfl (fun K hK => ?_) (AllReadyH.cons rfl (fun K hK => ?_) (AllReadyH.nil)))
    · rw [if_pos (by rfl)]
      refine wp_called' (by go_simp) ((RW.out _).mono ?_)
      rintro e w9 ⟨rfl, b9⟩
      refine ⟨_, rfl, hK.out _ _ (PatC.after b9 hS.out) fun hS => ?_⟩
      clear b9
      change wpAnyH _ _ _ _ _ 6 #[true, true, true, true, true, false, false, false, false, false, false] _ _
      simp only [List.getElem_toArray, List.getElem_cons_succ, List.getElem_cons_zero, Act.put, List.setIfInBounds_toArray, List.set_cons_succ, List.set_cons_zero]
      clear hK K
      replace hS := Lib.hid hS
      refine wpAnyH_take (i := 5) (v := .tuple #[.agg (rowOf 85 (nF X)), .int .i64 E]) rfl (by kernel_rfl) (by kernel_rfl) (by kernel_rfl) (fun _ _ _ h => h) (Or.inl ⟨by rfl, fun w' hw' => by go_simp⟩) hS.out ?_
      change wpAnyH _ _ _ _ _ 5 #[true, true, true, true, true, true, false, false, false, false, false] _ _
      simp only [List.getElem_toArray, List.getElem_cons_succ, List.getElem_cons_zero, Act.put, List.setIfInBounds_toArray, List.set_cons_succ, List.set_cons_zero]
      refine wpAnyH_take (i := 6) (v := .agg (rowOf 85 (nF X))) rfl (by kernel_rfl) (by kernel_rfl) (by kernel_rfl) (fun _ _ _ h => h) (Or.inl ⟨by rfl, fun w' hw' => by go_simp⟩) hS.out ?_
      change wpAnyH _ _ _ _ _ 4 #[true, true, true, true, true, true, true, false, false, false, false] _ _
      simp only [List.getElem_toArray, List.getElem_cons_succ, List.getElem_cons_zero, Act.put, List.setIfInBounds_toArray, List.set_cons_succ, List.set_cons_zero]
      refine wpAnyH_take (i := 7) (v := .int .i64 E) rfl (by kernel_rfl) (by kernel_rfl) (by kernel_rfl) (fun _ _ _ h => h) (Or.inl ⟨by rfl, fun w' hw' => by go_simp⟩) hS.out ?_
      change wpAnyH _ _ _ _ _ 3 #[true, true, true, true, true, true, true, true, false, false, false] _ _
      simp only [List.getElem_toArray, List.getElem_cons_succ, List.getElem_cons_zero, Act.put, List.setIfInBounds_toArray, List.set_cons_succ, List.set_cons_zero]
      refine wpAnyH_ready (rs := [8]) (by kernel_rfl) (by simp) (AllReadyH.cons rfl (fun K hK => ?_) (AllReadyH.nil))
      have hS0 := hS
      rw [if_pos (by rfl)]
      refine wp_made' (run_allocNodRef rfl _) (hK.out _ _ (PatC.after ((Below.refl _ _).alloc (Nat.le_refl _) _) hS.out) fun hS => ?_)
      have hQ := Lib.hid (⟨hS0.out.1.size, RowAt.new w9 _ _⟩ : AtQ w4 (w9).heap.size (rowOf 85 (nF noNod)) (w9.alloc (.cells (rowOf 85 (nF noNod)) 37)))
      change wpAnyH _ _ _ _ _ 2 #[true, true, true, true, true, true, true, true, true, false, false] _ _
      simp only [List.getElem_toArray, List.getElem_cons_succ, List.getElem_cons_zero, Act.put, List.setIfInBounds_toArray, List.set_cons_succ, List.set_cons_zero]
      clear hK K
      replace hS := Lib.hid hS
      generalize w9.alloc (.cells (rowOf 85 (nF noNod)) 37) = wA at hS hQ ⊢
      generalize w9.heap.size = q at hQ ⊢
      have hS2 : PatC w4 p5 p7 N c (wA.setRow q (rowOf 85 (nF X))) := PatC.set hS.out hQ.out.1 l5 l7 _
      have hQ2 : Hid (AtQ w4 q (rowOf 85 (nF X)) (wA.setRow q (rowOf 85 (nF X)))) := ⟨hQ.out.1, hQ.out.2.setRow _⟩
      have rq := hQ.out.2
      refine wpAnyH_ready (rs := [9]) (by kernel_rfl) (by simp) (AllReadyH.cons rfl (fun K hK => ?_) (AllReadyH.nil))
      rw [if_pos (by rfl)]
      refine wp_store_row 37 _ _ rfl q (rowOf 85 (nF X)) (by go_simp) (by go_simp) 37 (rowOf 85 (nF noNod)) rq (infoNodRef' _) (by simp only [rowOf_size]) (nF_all' _) ?_
      refine hK.out _ _ hS2 fun hS => ?_
      clear hQ
      rename Hid (AtQ w4 q (rowOf 85 (nF X)) (wA.setRow q (rowOf 85 (nF X)))) => hQ
      change wpAnyH _ _ _ _ _ 1 #[true, true, true, true, true, true, true, true, true, true, false] _ _
      simp only [List.getElem_toArray, List.getElem_cons_succ, List.getElem_cons_zero, Act.put]
      clear hK K
      replace hS := Lib.hid hS
      clear hS2 rq
      generalize wA.setRow q (rowOf 85 (nF X)) = wF at hS hQ ⊢
      refine wpAnyH_take (i := 10) (v := .int .i64 E) rfl (by kernel_rfl) (by kernel_rfl) (by kernel_rfl) (fun _ _ _ h => h) (Or.inl ⟨by rfl, fun w' hw' => by go_simp⟩) hS.out ?_
      change wpAnyH _ _ _ _ _ 0 #[true, true, true, true, true, true, true, true, true, true, true] _ _
      simp only [List.getElem_toArray, List.getElem_cons_succ, List.getElem_cons_zero, Act.put, List.setIfInBounds_toArray, List.set_cons_succ, List.set_cons_zero]
      refine wpAnyH_done (by kernel_rfl) ?_ _
      go_wp2_with fail
      have r9' := Lib.hid (r9.out.below hS.out.1 r9.out.lt)
      have r11' := Lib.hid (r11.out.below hS.out.1 r11.out.lt)
      have r13' := Lib.hid (r13.out.below hS.out.1 r13.out.lt)
      have bF := Lib.hid (b0.out.trans (hS.out.1.mono b0.out.size))
      clear hS r9 r11 r13 b0 RW
      obtain ⟨_, r15⟩ := hQ.out
      have HD : Hid (FouC wF q9 q11 q13 q (fun k => .int .i64 (f k)) X wF.drew) := ⟨(Below.refl _ _).drew, r9'.out, r11'.out, r13'.out, r15⟩
      have SM : sameN X X = true := sameN_rfl _
      have S4 : ((List.range 4).all fun i => f i == f i) = true := by simp
      have KI : Hid (∀ w', FouC wF q9 q11 q13 q (fun k => .int .i64 (f k)) X w' → Calls Try.prog 12 #[.agg (rowOf 85 (nF X))] w' fun e w'' => e = .returned (.agg (rowOf 85 (nF X))) ∧ FouC wF q9 q11 q13 q (fun k => .int .i64 (f k)) X w'') := fun w' h => (its_any X w').mono fun e w'' ⟨h1, h2⟩ => ⟨h1, FouC.after h2 h⟩
      have KS : Hid (∀ w', FouC wF q9 q11 q13 q (fun k => .int .i64 (f k)) X w' → Calls Try.prog 17 #[] w' fun e w'' => e = .returned (.bool true) ∧ FouC wF q9 q11 q13 q (fun k => .int .i64 (f k)) X w'') := fun w' h => (shown14_any w').mono fun e w'' ⟨h1, h2⟩ => ⟨h1, FouC.after h2 h⟩
      refine wp_region_class (FouC wF q9 q11 q13 q (fun k => .int .i64 (f k)) X) (by kernel_rfl) (by kernel_rfl) HD.out ?_
      refine wpQuiet_load_row (by rfl) 47 _ rfl q9 rfl 47 _ _ (fun w' hC => hC.2.1) Try.underlying47 rfl (info4 _) ?_
      simp only [Act.put, List.setIfInBounds_toArray, List.set_cons_succ, List.set_cons_zero]
      refine wpQuiet_load_row (by rfl) 47 _ rfl q11 rfl 47 _ _ (fun w' hC => hC.2.2.1) Try.underlying47 rfl (info4 _) ?_
      simp only [Act.put, List.setIfInBounds_toArray, List.set_cons_succ, List.set_cons_zero]
      refine wpQuiet_val (by rfl) (.bool true) (fun w' hC => run_eql_four S4 rfl rfl rfl _) ?_
      simp only [Act.put, List.setIfInBounds_toArray, List.set_cons_succ, List.set_cons_zero]
      refine wpQuiet_val (by rfl) (.bool true) (fun w' hC => by go_simp) ?_
      simp only [Act.put, List.setIfInBounds_toArray, List.set_cons_succ, List.set_cons_zero]
      refine wpQuiet_val (by rfl) (.int .i64 Y) (fun w' hC => by go_simp) ?_
      simp only [Act.put, List.setIfInBounds_toArray, List.set_cons_succ, List.set_cons_zero]
      refine wpQuiet_val (by rfl) (.int .i64 Y) (fun w' hC => by go_simp) ?_
      simp only [Act.put, List.setIfInBounds_toArray, List.set_cons_succ, List.set_cons_zero]
      refine wpQuiet_val (by rfl) (.bool true) (fun w' hC => by go_simp) ?_
      simp only [Act.put, List.setIfInBounds_toArray, List.set_cons_succ, List.set_cons_zero]
      refine wpQuiet_val (by rfl) (.bool true) (fun w' hC => by go_simp) ?_
      simp only [Act.put, List.setIfInBounds_toArray, List.set_cons_succ, List.set_cons_zero]
      refine wpQuiet_val (by rfl) (.bool true) (fun w' hC => by go_simp) ?_
      simp only [Act.put, List.setIfInBounds_toArray, List.set_cons_succ, List.set_cons_zero]
      refine wpQuiet_load_row (by rfl) 29 _ rfl q13 rfl 29 _ _ (fun w' hC => hC.2.2.2.1) Try.underlying29 rfl (infoNod' _) ?_
      simp only [Act.put, List.setIfInBounds_toArray, List.set_cons_succ, List.set_cons_zero]
      (go_big_quiet_want; go_big_quiet_op; apply Exists.intro; refine ⟨KI.out, ?_⟩; go_big_quiet_on)
      refine wpQuiet_load_row (by rfl) 37 _ rfl q rfl 37 _ _ (fun w' hC => hC.2.2.2.2) Try.underlying37 rfl (infoNodRef' _) ?_
      simp only [Act.put, List.setIfInBounds_toArray, List.set_cons_succ, List.set_cons_zero]
      refine wpQuiet_val (by rfl) (.bool true) (fun w' hC => run_eql_nodRef SM rfl rfl rfl _) ?_
      simp only [Act.put, List.setIfInBounds_toArray, List.set_cons_succ, List.set_cons_zero]
      refine wpQuiet_val (by rfl) (.bool true) (fun w' hC => by go_simp) ?_
      simp only [Act.put, List.setIfInBounds_toArray, List.set_cons_succ, List.set_cons_zero]
      refine wpQuiet_val (by rfl) (.bool true) (fun w' hC => by go_simp) ?_
      simp only [Act.put, List.setIfInBounds_toArray, List.set_cons_succ, List.set_cons_zero]
      refine wpQuiet_val (by rfl) (.int .i64 E) (fun w' hC => by go_simp) ?_
      simp only [Act.put, List.setIfInBounds_toArray, List.set_cons_succ, List.set_cons_zero]
      refine wpQuiet_val (by rfl) (.int .i64 E) (fun w' hC => by go_simp) ?_
      simp only [Act.put, List.setIfInBounds_toArray, List.set_cons_succ, List.set_cons_zero]
      refine wpQuiet_val (by rfl) (.bool true) (fun w' hC => by go_simp) ?_
      simp only [Act.put, List.setIfInBounds_toArray, List.set_cons_succ, List.set_cons_zero]
      refine wpQuiet_val (by rfl) (.bool true) (fun w' hC => by go_simp) ?_
      simp only [Act.put, List.setIfInBounds_toArray, List.set_cons_succ, List.set_cons_zero]
      refine wpQuiet_val (by rfl) (.bool true) (fun w' hC => by go_simp) ?_
      simp only [Act.put, List.setIfInBounds_toArray, List.set_cons_succ, List.set_cons_zero]
      (go_big_quiet_want; go_big_quiet_op; apply Exists.intro; refine ⟨KS.out, ?_⟩; go_big_quiet_on)
      refine wpQuiet_val (by rfl) (.bool true) (fun w' hC => by go_simp) ?_
      simp only [Act.put, List.setIfInBounds_toArray, List.set_cons_succ, List.set_cons_zero]
      refine wpQuiet_val (by rfl) (.bool true) (fun w' hC => by go_simp) ?_
      simp only [Act.put, List.setIfInBounds_toArray, List.set_cons_succ, List.set_cons_zero]
      refine wpQuiet_nil ?_
      intro wG hC
      have bG := bF.out.trans (hC.1.mono bF.out.size)
      clear hC
      go_wp2
      go_ret
      exact ⟨rfl, bG⟩
    · have hS0 := hS
      rw [if_pos (by rfl)]
      refine wp_made' (run_allocNodRef rfl _) (hK.out _ _ (PatC.after ((Below.refl _ _).alloc (Nat.le_refl _) _) hS.out) fun hS => ?_)
      have hQ := Lib.hid (⟨hS0.out.1.size, RowAt.new w8 _ _⟩ : AtQ w4 (w8).heap.size (rowOf 85 (nF noNod)) (w8.alloc (.cells (rowOf 85 (nF noNod)) 37)))
      change wpAnyH _ _ _ _ _ 6 #[true, true, true, true, false, false, false, false, true, false, false] _ _
      simp only [List.getElem_toArray, List.getElem_cons_succ, List.getElem_cons_zero, Act.put, List.setIfInBounds_toArray, List.set_cons_succ, List.set_cons_zero]
      clear hK K
      replace hS := Lib.hid hS
      generalize w8.alloc (.cells (rowOf 85 (nF noNod)) 37) = wA at hS hQ ⊢
      generalize w8.heap.size = q at hQ ⊢
      refine wpAnyH_ready (rs := [4]) (by kernel_rfl) (by simp) (AllReadyH.cons rfl (fun K hK => ?_) (AllReadyH.nil))
      rw [if_pos (by rfl)]
      refine wp_called' (by go_simp) ((RW.out _).mono ?_)
      rintro e w9 ⟨rfl, b9⟩
      replace hQ := Lib.hid (AtQ.after b9 hQ.out)
      refine ⟨_, rfl, hK.out _ _ (PatC.after b9 hS.out) fun hS => ?_⟩
      clear b9
      change wpAnyH _ _ _ _ _ 5 #[true, true, true, true, true, false, false, false, true, false, false] _ _
      simp only [List.getElem_toArray, List.getElem_cons_succ, List.getElem_cons_zero, Act.put, List.setIfInBounds_toArray, List.set_cons_succ, List.set_cons_zero]
      clear hK K
      replace hS := Lib.hid hS
      refine wpAnyH_take (i := 5) (v := .tuple #[.agg (rowOf 85 (nF X)), .int .i64 E]) rfl (by kernel_rfl) (by kernel_rfl) (by kernel_rfl) (fun _ _ _ h => h) (Or.inl ⟨by rfl, fun w' hw' => by go_simp⟩) hS.out ?_
      change wpAnyH _ _ _ _ _ 4 #[true, true, true, true, true, true, false, false, true, false, false] _ _
      simp only [List.getElem_toArray, List.getElem_cons_succ, List.getElem_cons_zero, Act.put, List.setIfInBounds_toArray, List.set_cons_succ, List.set_cons_zero]
      refine wpAnyH_take (i := 6) (v := .agg (rowOf 85 (nF X))) rfl (by kernel_rfl) (by kernel_rfl) (by kernel_rfl) (fun _ _ _ h => h) (Or.inl ⟨by rfl, fun w' hw' => by go_simp⟩) hS.out ?_
      change wpAnyH _ _ _ _ _ 3 #[true, true, true, true, true, true, true, false, true, false, false] _ _
      simp only [List.getElem_toArray, List.getElem_cons_succ, List.getElem_cons_zero, Act.put, List.setIfInBounds_toArray, List.set_cons_succ, List.set_cons_zero]
      refine wpAnyH_take (i := 7) (v := .int .i64 E) rfl (by kernel_rfl) (by kernel_rfl) (by kernel_rfl) (fun _ _ _ h => h) (Or.inl ⟨by rfl, fun w' hw' => by go_simp⟩) hS.out ?_
      change wpAnyH _ _ _ _ _ 2 #[true, true, true, true, true, true, true, true, true, false, false] _ _
      simp only [List.getElem_toArray, List.getElem_cons_succ, List.getElem_cons_zero, Act.put, List.setIfInBounds_toArray, List.set_cons_succ, List.set_cons_zero]
      have hS2 : PatC w4 p5 p7 N c (w9.setRow q (rowOf 85 (nF X))) := PatC.set hS.out hQ.out.1 l5 l7 _
      have hQ2 : Hid (AtQ w4 q (rowOf 85 (nF X)) (w9.setRow q (rowOf 85 (nF X)))) := ⟨hQ.out.1, hQ.out.2.setRow _⟩
      have rq := hQ.out.2
      refine wpAnyH_ready (rs := [9]) (by kernel_rfl) (by simp) (AllReadyH.cons rfl (fun K hK => ?_) (AllReadyH.nil))
      rw [if_pos (by rfl)]
      refine wp_store_row 37 _ _ rfl q (rowOf 85 (nF X)) (by go_simp) (by go_simp) 37 (rowOf 85 (nF noNod)) rq (infoNodRef' _) (by simp only [rowOf_size]) (nF_all' _) ?_
      refine hK.out _ _ hS2 fun hS => ?_
      clear hQ
      rename Hid (AtQ w4 q (rowOf 85 (nF X)) (w9.setRow q (rowOf 85 (nF X)))) => hQ
      change wpAnyH _ _ _ _ _ 1 #[true, true, true, true, true, true, true, true, true, true, false] _ _
      simp only [List.getElem_toArray, List.getElem_cons_succ, List.getElem_cons_zero, Act.put]
      clear hK K
      replace hS := Lib.hid hS
      clear hS2 rq
      generalize w9.setRow q (rowOf 85 (nF X)) = wF at hS hQ ⊢
      refine wpAnyH_take (i := 10) (v := .int .i64 E) rfl (by kernel_rfl) (by kernel_rfl) (by kernel_rfl) (fun _ _ _ h => h) (Or.inl ⟨by rfl, fun w' hw' => by go_simp⟩) hS.out ?_
      change wpAnyH _ _ _ _ _ 0 #[true, true, true, true, true, true, true, true, true, true, true] _ _
      simp only [List.getElem_toArray, List.getElem_cons_succ, List.getElem_cons_zero, Act.put, List.setIfInBounds_toArray, List.set_cons_succ, List.set_cons_zero]
      refine wpAnyH_done (by kernel_rfl) ?_ _
      go_wp2_with fail
      have r9' := Lib.hid (r9.out.below hS.out.1 r9.out.lt)
      have r11' := Lib.hid (r11.out.below hS.out.1 r11.out.lt)
      have r13' := Lib.hid (r13.out.below hS.out.1 r13.out.lt)
      have bF := Lib.hid (b0.out.trans (hS.out.1.mono b0.out.size))
      clear hS r9 r11 r13 b0 RW
      obtain ⟨_, r15⟩ := hQ.out
      have HD : Hid (FouC wF q9 q11 q13 q (fun k => .int .i64 (f k)) X wF.drew) := ⟨(Below.refl _ _).drew, r9'.out, r11'.out, r13'.out, r15⟩
      have SM : sameN X X = true := sameN_rfl _
      have S4 : ((List.range 4).all fun i => f i == f i) = true := by simp
      have KI : Hid (∀ w', FouC wF q9 q11 q13 q (fun k => .int .i64 (f k)) X w' → Calls Try.prog 12 #[.agg (rowOf 85 (nF X))] w' fun e w'' => e = .returned (.agg (rowOf 85 (nF X))) ∧ FouC wF q9 q11 q13 q (fun k => .int .i64 (f k)) X w'') := fun w' h => (its_any X w').mono fun e w'' ⟨h1, h2⟩ => ⟨h1, FouC.after h2 h⟩
      have KS : Hid (∀ w', FouC wF q9 q11 q13 q (fun k => .int .i64 (f k)) X w' → Calls Try.prog 17 #[] w' fun e w'' => e = .returned (.bool true) ∧ FouC wF q9 q11 q13 q (fun k => .int .i64 (f k)) X w'') := fun w' h => (shown14_any w').mono fun e w'' ⟨h1, h2⟩ => ⟨h1, FouC.after h2 h⟩
      refine wp_region_class (FouC wF q9 q11 q13 q (fun k => .int .i64 (f k)) X) (by kernel_rfl) (by kernel_rfl) HD.out ?_
      refine wpQuiet_load_row (by rfl) 47 _ rfl q9 rfl 47 _ _ (fun w' hC => hC.2.1) Try.underlying47 rfl (info4 _) ?_
      simp only [Act.put, List.setIfInBounds_toArray, List.set_cons_succ, List.set_cons_zero]
      refine wpQuiet_load_row (by rfl) 47 _ rfl q11 rfl 47 _ _ (fun w' hC => hC.2.2.1) Try.underlying47 rfl (info4 _) ?_
      simp only [Act.put, List.setIfInBounds_toArray, List.set_cons_succ, List.set_cons_zero]
      refine wpQuiet_val (by rfl) (.bool true) (fun w' hC => run_eql_four S4 rfl rfl rfl _) ?_
      simp only [Act.put, List.setIfInBounds_toArray, List.set_cons_succ, List.set_cons_zero]
      refine wpQuiet_val (by rfl) (.bool true) (fun w' hC => by go_simp) ?_
      simp only [Act.put, List.setIfInBounds_toArray, List.set_cons_succ, List.set_cons_zero]
      refine wpQuiet_val (by rfl) (.int .i64 Y) (fun w' hC => by go_simp) ?_
      simp only [Act.put, List.setIfInBounds_toArray, List.set_cons_succ, List.set_cons_zero]
      refine wpQuiet_val (by rfl) (.int .i64 Y) (fun w' hC => by go_simp) ?_
      simp only [Act.put, List.setIfInBounds_toArray, List.set_cons_succ, List.set_cons_zero]
      refine wpQuiet_val (by rfl) (.bool true) (fun w' hC => by go_simp) ?_
      simp only [Act.put, List.setIfInBounds_toArray, List.set_cons_succ, List.set_cons_zero]
      refine wpQuiet_val (by rfl) (.bool true) (fun w' hC => by go_simp) ?_
      simp only [Act.put, List.setIfInBounds_toArray, List.set_cons_succ, List.set_cons_zero]
      refine wpQuiet_val (by rfl) (.bool true) (fun w' hC => by go_simp) ?_
      simp only [Act.put, List.setIfInBounds_toArray, List.set_cons_succ, List.set_cons_zero]
      refine wpQuiet_load_row (by rfl) 29 _ rfl q13 rfl 29 _ _ (fun w' hC => hC.2.2.2.1) Try.underlying29 rfl (infoNod' _) ?_
      simp only [Act.put, List.setIfInBounds_toArray, List.set_cons_succ, List.set_cons_zero]
      (go_big_quiet_want; go_big_quiet_op; apply Exists.intro; refine ⟨KI.out, ?_⟩; go_big_quiet_on)
      refine wpQuiet_load_row (by rfl) 37 _ rfl q rfl 37 _ _ (fun w' hC => hC.2.2.2.2) Try.underlying37 rfl (infoNodRef' _) ?_
      simp only [Act.put, List.setIfInBounds_toArray, List.set_cons_succ, List.set_cons_zero]
      refine wpQuiet_val (by rfl) (.bool true) (fun w' hC => run_eql_nodRef SM rfl rfl rfl _) ?_
      simp only [Act.put, List.setIfInBounds_toArray, List.set_cons_succ, List.set_cons_zero]
      refine wpQuiet_val (by rfl) (.bool true) (fun w' hC => by go_simp) ?_
      simp only [Act.put, List.setIfInBounds_toArray, List.set_cons_succ, List.set_cons_zero]
      refine wpQuiet_val (by rfl) (.bool true) (fun w' hC => by go_simp) ?_
      simp only [Act.put, List.setIfInBounds_toArray, List.set_cons_succ, List.set_cons_zero]
      refine wpQuiet_val (by rfl) (.int .i64 E) (fun w' hC => by go_simp) ?_
      simp only [Act.put, List.setIfInBounds_toArray, List.set_cons_succ, List.set_cons_zero]
      refine wpQuiet_val (by rfl) (.int .i64 E) (fun w' hC => by go_simp) ?_
      simp only [Act.put, List.setIfInBounds_toArray, List.set_cons_succ, List.set_cons_zero]
      refine wpQuiet_val (by rfl) (.bool true) (fun w' hC => by go_simp) ?_
      simp only [Act.put, List.setIfInBounds_toArray, List.set_cons_succ, List.set_cons_zero]
      refine wpQuiet_val (by rfl) (.bool true) (fun w' hC => by go_simp) ?_
      simp only [Act.put, List.setIfInBounds_toArray, List.set_cons_succ, List.set_cons_zero]
      refine wpQuiet_val (by rfl) (.bool true) (fun w' hC => by go_simp) ?_
      simp only [Act.put, List.setIfInBounds_toArray, List.set_cons_succ, List.set_cons_zero]
      (go_big_quiet_want; go_big_quiet_op; apply Exists.intro; refine ⟨KS.out, ?_⟩; go_big_quiet_on)
      refine wpQuiet_val (by rfl) (.bool true) (fun w' hC => by go_simp) ?_
      simp only [Act.put, List.setIfInBounds_toArray, List.set_cons_succ, List.set_cons_zero]
      refine wpQuiet_val (by rfl) (.bool true) (fun w' hC => by go_simp) ?_
      simp only [Act.put, List.setIfInBounds_toArray, List.set_cons_succ, List.set_cons_zero]
      refine wpQuiet_nil ?_
      intro wG hC
      have bG := bF.out.trans (hC.1.mono bF.out.size)
      clear hC
      go_wp2
      go_ret
      exact ⟨rfl, bG⟩
  · have hS0 := hS
    rw [if_pos (by rfl)]
    refine wp_made' (run_allocNodRef rfl _) (hK.out _ _ (PatC.after ((Below.refl _ _).alloc (Nat.le_refl _) _) hS.out) fun hS => ?_)
    have hQ := Lib.hid (⟨hS0.out.1.size, RowAt.new wS _ _⟩ : AtQ w4 (wS).heap.size (rowOf 85 (nF noNod)) (wS.alloc (.cells (rowOf 85 (nF noNod)) 37)))
    change wpAnyH _ _ _ _ _ 7 #[true, false, true, true, false, false, false, false, true, false, false] _ _
    simp only [List.getElem_toArray, List.getElem_cons_succ, List.getElem_cons_zero, Act.put, List.setIfInBounds_toArray, List.set_cons_succ, List.set_cons_zero]
    clear hK K
    replace hS := Lib.hid hS
    generalize wS.alloc (.cells (rowOf 85 (nF noNod)) 37) = wA at hS hQ ⊢
    generalize wS.heap.size = q at hQ ⊢
    refine wpAnyH_ready (rs := [1]) (by kernel_rfl) (by simp) (AllReadyH.cons rfl (fun K hK => ?_) (AllReadyH.nil))
    rw [if_pos (by rfl)]
    refine wp_called' (by go_simp) ((its_any N _).mono ?_)
    rintro e w8 ⟨rfl, b8⟩
    replace hQ := Lib.hid (AtQ.after b8 hQ.out)
    refine ⟨_, rfl, hK.out _ _ (PatC.after b8 hS.out) fun hS => ?_⟩
    clear b8
    change wpAnyH _ _ _ _ _ 6 #[true, true, true, true, false, false, false, false, true, false, false] _ _
    simp only [List.getElem_toArray, List.getElem_cons_succ, List.getElem_cons_zero, Act.put, List.setIfInBounds_toArray, List.set_cons_succ, List.set_cons_zero]
    clear hK K
    replace hS := Lib.hid hS
    refine wpAnyH_ready (rs := [4]) (by kernel_rfl) (by simp) (AllReadyH.cons rfl (fun K hK => ?_) (AllReadyH.nil))
    rw [if_pos (by rfl)]
    refine wp_called' (by go_simp) ((RW.out _).mono ?_)
    rintro e w9 ⟨rfl, b9⟩
    replace hQ := Lib.hid (AtQ.after b9 hQ.out)
    refine ⟨_, rfl, hK.out _ _ (PatC.after b9 hS.out) fun hS => ?_⟩
    clear b9
    change wpAnyH _ _ _ _ _ 5 #[true, true, true, true, true, false, false, false, true, false, false] _ _
    simp only [List.getElem_toArray, List.getElem_cons_succ, List.getElem_cons_zero, Act.put, List.setIfInBounds_toArray, List.set_cons_succ, List.set_cons_zero]
    clear hK K
    replace hS := Lib.hid hS
    refine wpAnyH_take (i := 5) (v := .tuple #[.agg (rowOf 85 (nF X)), .int .i64 E]) rfl (by kernel_rfl) (by kernel_rfl) (by kernel_rfl) (fun _ _ _ h => h) (Or.inl ⟨by rfl, fun w' hw' => by go_simp⟩) hS.out ?_
    change wpAnyH _ _ _ _ _ 4 #[true, true, true, true, true, true, false, false, true, false, false] _ _
    simp only [List.getElem_toArray, List.getElem_cons_succ, List.getElem_cons_zero, Act.put, List.setIfInBounds_toArray, List.set_cons_succ, List.set_cons_zero]
    refine wpAnyH_take (i := 6) (v := .agg (rowOf 85 (nF X))) rfl (by kernel_rfl) (by kernel_rfl) (by kernel_rfl) (fun _ _ _ h => h) (Or.inl ⟨by rfl, fun w' hw' => by go_simp⟩) hS.out ?_
    change wpAnyH _ _ _ _ _ 3 #[true, true, true, true, true, true, true, false, true, false, false] _ _
    simp only [List.getElem_toArray, List.getElem_cons_succ, List.getElem_cons_zero, Act.put, List.setIfInBounds_toArray, List.set_cons_succ, List.set_cons_zero]
    refine wpAnyH_take (i := 7) (v := .int .i64 E) rfl (by kernel_rfl) (by kernel_rfl) (by kernel_rfl) (fun _ _ _ h => h) (Or.inl ⟨by rfl, fun w' hw' => by go_simp⟩) hS.out ?_
    change wpAnyH _ _ _ _ _ 2 #[true, true, true, true, true, true, true, true, true, false, false] _ _
    simp only [List.getElem_toArray, List.getElem_cons_succ, List.getElem_cons_zero, Act.put, List.setIfInBounds_toArray, List.set_cons_succ, List.set_cons_zero]
    have hS2 : PatC w4 p5 p7 N c (w9.setRow q (rowOf 85 (nF X))) := PatC.set hS.out hQ.out.1 l5 l7 _
    have hQ2 : Hid (AtQ w4 q (rowOf 85 (nF X)) (w9.setRow q (rowOf 85 (nF X)))) := ⟨hQ.out.1, hQ.out.2.setRow _⟩
    have rq := hQ.out.2
    refine wpAnyH_ready (rs := [9]) (by kernel_rfl) (by simp) (AllReadyH.cons rfl (fun K hK => ?_) (AllReadyH.nil))
    rw [if_pos (by rfl)]
    refine wp_store_row 37 _ _ rfl q (rowOf 85 (nF X)) (by go_simp) (by go_simp) 37 (rowOf 85 (nF noNod)) rq (infoNodRef' _) (by simp only [rowOf_size]) (nF_all' _) ?_
    refine hK.out _ _ hS2 fun hS => ?_
    clear hQ
    rename Hid (AtQ w4 q (rowOf 85 (nF X)) (w9.setRow q (rowOf 85 (nF X)))) => hQ
    change wpAnyH _ _ _ _ _ 1 #[true, true, true, true, true, true, true, true, true, true, false] _ _
    simp only [List.getElem_toArray, List.getElem_cons_succ, List.getElem_cons_zero, Act.put]
    clear hK K
    replace hS := Lib.hid hS
    clear hS2 rq
    generalize w9.setRow q (rowOf 85 (nF X)) = wF at hS hQ ⊢
    refine wpAnyH_take (i := 10) (v := .int .i64 E) rfl (by kernel_rfl) (by kernel_rfl) (by kernel_rfl) (fun _ _ _ h => h) (Or.inl ⟨by rfl, fun w' hw' => by go_simp⟩) hS.out ?_
    change wpAnyH _ _ _ _ _ 0 #[true, true, true, true, true, true, true, true, true, true, true] _ _
    simp only [List.getElem_toArray, List.getElem_cons_succ, List.getElem_cons_zero, Act.put, List.setIfInBounds_toArray, List.set_cons_succ, List.set_cons_zero]
    refine wpAnyH_done (by kernel_rfl) ?_ _
    go_wp2_with fail
    have r9' := Lib.hid (r9.out.below hS.out.1 r9.out.lt)
    have r11' := Lib.hid (r11.out.below hS.out.1 r11.out.lt)
    have r13' := Lib.hid (r13.out.below hS.out.1 r13.out.lt)
    have bF := Lib.hid (b0.out.trans (hS.out.1.mono b0.out.size))
    clear hS r9 r11 r13 b0 RW
    obtain ⟨_, r15⟩ := hQ.out
    have HD : Hid (FouC wF q9 q11 q13 q (fun k => .int .i64 (f k)) X wF.drew) := ⟨(Below.refl _ _).drew, r9'.out, r11'.out, r13'.out, r15⟩
    have SM : sameN X X = true := sameN_rfl _
    have S4 : ((List.range 4).all fun i => f i == f i) = true := by simp
    have KI : Hid (∀ w', FouC wF q9 q11 q13 q (fun k => .int .i64 (f k)) X w' → Calls Try.prog 12 #[.agg (rowOf 85 (nF X))] w' fun e w'' => e = .returned (.agg (rowOf 85 (nF X))) ∧ FouC wF q9 q11 q13 q (fun k => .int .i64 (f k)) X w'') := fun w' h => (its_any X w').mono fun e w'' ⟨h1, h2⟩ => ⟨h1, FouC.after h2 h⟩
    have KS : Hid (∀ w', FouC wF q9 q11 q13 q (fun k => .int .i64 (f k)) X w' → Calls Try.prog 17 #[] w' fun e w'' => e = .returned (.bool true) ∧ FouC wF q9 q11 q13 q (fun k => .int .i64 (f k)) X w'') := fun w' h => (shown14_any w').mono fun e w'' ⟨h1, h2⟩ => ⟨h1, FouC.after h2 h⟩
    refine wp_region_class (FouC wF q9 q11 q13 q (fun k => .int .i64 (f k)) X) (by kernel_rfl) (by kernel_rfl) HD.out ?_
    refine wpQuiet_load_row (by rfl) 47 _ rfl q9 rfl 47 _ _ (fun w' hC => hC.2.1) Try.underlying47 rfl (info4 _) ?_
    simp only [Act.put, List.setIfInBounds_toArray, List.set_cons_succ, List.set_cons_zero]
    refine wpQuiet_load_row (by rfl) 47 _ rfl q11 rfl 47 _ _ (fun w' hC => hC.2.2.1) Try.underlying47 rfl (info4 _) ?_
    simp only [Act.put, List.setIfInBounds_toArray, List.set_cons_succ, List.set_cons_zero]
    refine wpQuiet_val (by rfl) (.bool true) (fun w' hC => run_eql_four S4 rfl rfl rfl _) ?_
    simp only [Act.put, List.setIfInBounds_toArray, List.set_cons_succ, List.set_cons_zero]
    refine wpQuiet_val (by rfl) (.bool true) (fun w' hC => by go_simp) ?_
    simp only [Act.put, List.setIfInBounds_toArray, List.set_cons_succ, List.set_cons_zero]
    refine wpQuiet_val (by rfl) (.int .i64 Y) (fun w' hC => by go_simp) ?_
    simp only [Act.put, List.setIfInBounds_toArray, List.set_cons_succ, List.set_cons_zero]
    refine wpQuiet_val (by rfl) (.int .i64 Y) (fun w' hC => by go_simp) ?_
    simp only [Act.put, List.setIfInBounds_toArray, List.set_cons_succ, List.set_cons_zero]
    refine wpQuiet_val (by rfl) (.bool true) (fun w' hC => by go_simp) ?_
    simp only [Act.put, List.setIfInBounds_toArray, List.set_cons_succ, List.set_cons_zero]
    refine wpQuiet_val (by rfl) (.bool true) (fun w' hC => by go_simp) ?_
    simp only [Act.put, List.setIfInBounds_toArray, List.set_cons_succ, List.set_cons_zero]
    refine wpQuiet_val (by rfl) (.bool true) (fun w' hC => by go_simp) ?_
    simp only [Act.put, List.setIfInBounds_toArray, List.set_cons_succ, List.set_cons_zero]
    refine wpQuiet_load_row (by rfl) 29 _ rfl q13 rfl 29 _ _ (fun w' hC => hC.2.2.2.1) Try.underlying29 rfl (infoNod' _) ?_
    simp only [Act.put, List.setIfInBounds_toArray, List.set_cons_succ, List.set_cons_zero]
    (go_big_quiet_want; go_big_quiet_op; apply Exists.intro; refine ⟨KI.out, ?_⟩; go_big_quiet_on)
    refine wpQuiet_load_row (by rfl) 37 _ rfl q rfl 37 _ _ (fun w' hC => hC.2.2.2.2) Try.underlying37 rfl (infoNodRef' _) ?_
    simp only [Act.put, List.setIfInBounds_toArray, List.set_cons_succ, List.set_cons_zero]
    refine wpQuiet_val (by rfl) (.bool true) (fun w' hC => run_eql_nodRef SM rfl rfl rfl _) ?_
    simp only [Act.put, List.setIfInBounds_toArray, List.set_cons_succ, List.set_cons_zero]
    refine wpQuiet_val (by rfl) (.bool true) (fun w' hC => by go_simp) ?_
    simp only [Act.put, List.setIfInBounds_toArray, List.set_cons_succ, List.set_cons_zero]
    refine wpQuiet_val (by rfl) (.bool true) (fun w' hC => by go_simp) ?_
    simp only [Act.put, List.setIfInBounds_toArray, List.set_cons_succ, List.set_cons_zero]
    refine wpQuiet_val (by rfl) (.int .i64 E) (fun w' hC => by go_simp) ?_
    simp only [Act.put, List.setIfInBounds_toArray, List.set_cons_succ, List.set_cons_zero]
    refine wpQuiet_val (by rfl) (.int .i64 E) (fun w' hC => by go_simp) ?_
    simp only [Act.put, List.setIfInBounds_toArray, List.set_cons_succ, List.set_cons_zero]
    refine wpQuiet_val (by rfl) (.bool true) (fun w' hC => by go_simp) ?_
    simp only [Act.put, List.setIfInBounds_toArray, List.set_cons_succ, List.set_cons_zero]
    refine wpQuiet_val (by rfl) (.bool true) (fun w' hC => by go_simp) ?_
    simp only [Act.put, List.setIfInBounds_toArray, List.set_cons_succ, List.set_cons_zero]
    refine wpQuiet_val (by rfl) (.bool true) (fun w' hC => by go_simp) ?_
    simp only [Act.put, List.setIfInBounds_toArray, List.set_cons_succ, List.set_cons_zero]
    (go_big_quiet_want; go_big_quiet_op; apply Exists.intro; refine ⟨KS.out, ?_⟩; go_big_quiet_on)
    refine wpQuiet_val (by rfl) (.bool true) (fun w' hC => by go_simp) ?_
    simp only [Act.put, List.setIfInBounds_toArray, List.set_cons_succ, List.set_cons_zero]
    refine wpQuiet_val (by rfl) (.bool true) (fun w' hC => by go_simp) ?_
    simp only [Act.put, List.setIfInBounds_toArray, List.set_cons_succ, List.set_cons_zero]
    refine wpQuiet_nil ?_
    intro wG hC
    have bG := bF.out.trans (hC.1.mono bF.out.size)
    clear hC
    go_wp2
    go_ret
    exact ⟨rfl, bG⟩

theorem paths_law (z : Int) (hz : (Lit.int .i64 z).wf = true) (N : Nod) (hN : ∀ i, i < 4 → BndC (N.c i)) (i : Int) (hi : (Lit.int .i64 i).wf = true) (c : Chd) (hc : BndC c) (w : World) :
    Calls Try.prog 5 #[.int .i64 z, .agg (rowOf 85 (nF N)), .int .i64 i, .agg (rowOf 21 (chF c))] w fun e w' => e = .returned (.bool true) ∧ Below w.heap.size w w' := paths_walk z N i c w

end Go.Proofs.Ytapebaoajknepaa
