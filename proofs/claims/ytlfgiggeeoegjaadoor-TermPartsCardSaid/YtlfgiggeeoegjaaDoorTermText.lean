/-
  Contracts: appendText (it calls itself), Text.
-/
import Derived.Test.YtlfgiggeeoegjaaDoorTermSizes
import Derived.Test.YtlfgiggeeoegjaaDoorRelyHead
namespace Go.Proofs.YtlfgiggeeoegjaaDoor
open Go.RowKit
set_option linter.unusedVariables false

/-- What stays while a byte is appended to the row v, in whatever order. -/
structure TxC (B : Nat) (W : World) (p : Nat) (cs : Array Value) (v : Value) (m : Nat) (l : List UInt8) (w : World) : Prop where
  base : B ≤ W.heap.size
  below : Below B W w
  row : RowAt w p 41 cs
  own : w.ownsRow B 5 1 v m (l.map bv)
  kept : KeptO W w

def bytev (v : Value) (b : UInt8) : Pred := fun u w => ∃ q, u = .slice (some ⟨q, 0, none⟩) 1 1 ∧ RowAt w q 5 #[bv b] ∧ some q ≠ v.ownBlock
def ownv (B m : Nat) (l : List UInt8) (b : UInt8) : Pred := fun u w => w.ownsRow B 5 1 u (m + 1) ((l ++ [b]).map bv)
/-- What is told of the values is kept. -/
def TxK (B : Nat) (v : Value) (m : Nat) (l : List UInt8) (b : UInt8) (R : List Pred) : Prop :=
  (∀ w o, Keeps R w (w.alloc o)) ∧ ∀ w w', w.grownBy w' v.ownBlock → (∀ u, ownv B m l b u w → ownv B m l b u w') → Keeps R w w'

theorem TxK_of (B : Nat) (v : Value) (m : Nat) (l : List UInt8) (b : UInt8) (V0 V3 V4 : Value) {V5 : Value} : TxK B v m l b [eqv V0, bytev v b, ownv B m l b, eqv V3, eqv V4, eqv V5] := by
  constructor
  · intro w o
    refine .cons (fun _ h => h) (.cons (fun u h => ?_) (.cons (fun u h => ?_) (.cons (fun _ h => h) (.cons (fun _ h => h) (.cons (fun _ h => h) (.nil _ _))))))
    · obtain ⟨q, hu, hr, hne⟩ := h
      exact ⟨q, hu, hr.alloc o, hne⟩
    · exact World.ownsRow.alloc h o
  · intro w w' g ho
    refine .cons (fun _ h => h) (.cons (fun u h => ?_) (.cons (fun u h => ho u h) (.cons (fun _ h => h) (.cons (fun _ h => h) (.cons (fun _ h => h) (.nil _ _))))))
    obtain ⟨q, hu, hr, hne⟩ := h
    exact ⟨q, hu, (g.block q hr.lt hne).trans hr, hne⟩

section
variable {ops : Array Oper} {R : List Pred} {o : Oper} {a : Act} {w : World} {B : Nat} {W : World} {p : Nat} {cs : Array Value} {v : Value} {m : Nat} {l : List UInt8} {b : UInt8}
theorem grows_bytev (hR : TxK B v m l b R) (hC : TxC B W p cs v m l w) (hw : Region.wanted o (yielded ops a.tmps) = true) (hv : (execOp a.eval o).run Tryd.prog w = .ok (.value (.slice (some ⟨w.heap.size, 0, none⟩) 1 1)) (w.alloc (.cells #[.int .u8 (b.toNat : Int)] 5))) :
    growsAt Tryd.prog ops o a w fun u w' => TxC B W p cs v m l w' ∧ bytev v b u w' ∧ Keeps R w w' := by
  refine grows_new hw hv ⟨w.heap.size, rfl, RowAt.new _ _ _, ?_⟩ ⟨hC.base, hC.below.alloc (Nat.le_trans hC.base hC.below.size) _, hC.row.alloc _, hC.own.alloc _, hC.kept.trans (.below ((Below.refl _ _).alloc (Nat.le_refl _) _))⟩ (hR.1 w _)
  intro e
  have := (hC.own.lt w.heap.size e.symm).2
  omega
theorem grows_append (hR : TxK B v m l b R) (hC : TxC B W p cs v m l w) (hw : Region.wanted o (yielded ops a.tmps) = true) {s x : Operand} (ho : o.op = .call { callee := .builtin .append, args := #[s, x], argTypes := #[46, 46] })
    (hs : a.eval s = v) {q : Nat} (hx : a.eval x = .slice (some ⟨q, 0, none⟩) 1 1) (hq : RowAt w q 5 #[bv b]) (hm : m ≤ 1000000) :
    growsAt Tryd.prog ops o a w fun u w' => TxC B W p cs v m l w' ∧ ownv B m l b u w' ∧ Keeps R w w' := by
  obtain ⟨v', w', hr, h2, h3, h4, h5⟩ := append_keep w B m q v l b o.type hC.own hq hm (Nat.le_trans hC.base hC.below.size)
  have hk := KeptO.grown hC.own h4
  refine grows_new (w' := w') (v := v') hw ?_ h2 ⟨hC.base, hC.below.grown h4 (Nat.le_trans hC.base hC.below.size) (fun g hg => (hC.own.lt g hg).1), hk p _ cs (by decide) hC.row, h3, hC.kept.trans hk⟩ (hR.2 w w' h4 h5)
  unfold execOp
  simp only [ho, resolve, invoke, builtin, Sem.run_bind, Sem.run_pure, Result.andThen_ok, List.map_toArray, List.map_cons, List.map_nil, hs, hx, hr]
end

theorem SeesV.under {B : Nat} {w w' : World} {a : Option Addr} {n : Nat} {F : Nat → Value} (h : SeesV w a n F) (hb : Below B w w') (hB : ∀ ad, a = Option.some ad → ad.block < B) : SeesV w' a n F := fun m hm => by
  obtain ⟨ad, e, hl, hc⟩ := h m hm
  exact ⟨ad, e, Nat.lt_of_lt_of_le hl hb.size, (hb.cell (by rw [block_add]; exact hB ad e)).trans hc⟩

/-- What appendText comes to. -/
def TxEnd (B : Nat) (w : World) (m : Nat) (l : List UInt8) (e : Ending) (w' : World) : Prop :=
  ∃ v', e = .returned v' ∧ Hid (w'.ownsRow B 5 1 v' m (l.map bv)) ∧ Below B w w' ∧ Hid (KeptO w w')

set_option maxHeartbeats 4000000 in
set_option maxRecDepth 8000 in
theorem appendText_any (K : Nds) (n : Nat) (hn : n ≤ 200) (hK : Hid (Wf K n)) (a : Option Addr) (c : Nat) (B : Nat) (hB : Hid (∀ ad, a = some ad → ad.block < B)) :
    ∀ i, i < n → ∀ (m : Nat) (v : Value) (l : List UInt8) (w : World), Hid (SeesN w a n K) → Hid (PTab B w) → Hid (w.ownsRow B 5 1 v m (l.map bv)) → B ≤ w.heap.size → m + lnT (tm K i) ≤ 1000000 →
    Calls Tryd.prog 22 #[v, .slice a n c, .int .i64 (i : Int)] w (TxEnd B w (m + lnT (tm K i)) (l ++ txT (tm K i))) := by
  intro i
  induction i using Nat.strongRecOn with
  | _ i ih =>
    intro hi m v l w hs hp hown hBw hlim
    replace ih := Lib.hid ih
    rcases hK.out.kinds hi with ⟨h0, ⟨x, hx, e1⟩, e2⟩ | ⟨h0, x, y, hx, hy, e1, e2⟩
    · rcases h0 with h0 | h0
      · have et := tm_atom hK.out hi h0 e1
        have dl := digits_six hx
        have el : m + lnT (tm K i) = m + 1 + (Lib.decDigits x).length := by rw [et]; simp [lnT, txT]; omega
        have ex : l ++ txT (tm K i) = l ++ [97] ++ Lib.decDigits x := by rw [et]; simp [txT]
        rw [el, ex]
        rw [el] at hlim
        clear et el ex
        have b1 := (Below.refl B w).alloc hBw (.cells #[.int .i64 0, .int .i64 (x : Int), .int .i64 0] 41)
        have k1 := Lib.hid (KeptO.below ((Below.refl w.heap.size w).alloc (Nat.le_refl _) (.cells #[.int .i64 0, .int .i64 (x : Int), .int .i64 0] 41)))
        have r1 := Lib.hid (RowAt.new w 41 #[.int .i64 0, .int .i64 (x : Int), .int .i64 0])
        have own1 := Lib.hid (hown.out.alloc (.cells #[.int .i64 0, .int .i64 (x : Int), .int .i64 0] 41))
        go_enter Tryd.func22, Tryd.ntmps22
        go_wp2_with (first | (refine wpList_known rfl (at_nodes hs.out hi rfl rfl rfl rfl _) ?_) | (refine wpList_known rfl (get_node hs.out hi rfl rfl) ?_) | (at_builtin; refine wpList_append_byte rfl _ _ rfl B v m l 97 _ rfl rfl _ own1.out rfl rfl (by simp) (by omega) (Nat.le_trans hBw b1.size) ?_; intro v3 w3 own3 g3 b3; refine Hid.out ?_))
        unfold Hid
        have k3 := Lib.hid (k1.out.trans (KeptO.grown own1.out g3.out))
        have r3 := Lib.hid (KeptO.grown own1.out g3.out _ _ _ (by decide) r1.out)
        have c3 := cell_of_row w3 _ 1 _ _ (0, 0) r3.out
        have b4 := b1.trans b3.out
        have A := Lib.hid (appendInt_any B (m + 1) x hx v3 (l ++ [97]) w3 own3 (Nat.le_trans hBw b4.size) (by omega) (hp.out.on b4))
        clear b1 k1 r1 own1 g3 b3 r3
        go_wp2_with fail
        refine A.out.mono ?_
        rintro e w5 ⟨v5, rfl, own5, b5, k5⟩
        have b6 := b4.trans b5
        have k6 := Lib.hid (k3.out.trans k5.out)
        clear A b4 b5 k3 k5 own3
        go_wp2
        go_ret
        exact ⟨v5, rfl, own5, b6, k6⟩
      · have et := tm_key hK.out hi h0 e1
        have dl := digits_six hx
        have el : m + lnT (tm K i) = m + 1 + (Lib.decDigits x).length := by rw [et]; simp [lnT, txT]; omega
        have ex : l ++ txT (tm K i) = l ++ [107] ++ Lib.decDigits x := by rw [et]; simp [txT]
        rw [el, ex]
        rw [el] at hlim
        clear et el ex
        have b1 := (Below.refl B w).alloc hBw (.cells #[.int .i64 1, .int .i64 (x : Int), .int .i64 0] 41)
        have k1 := Lib.hid (KeptO.below ((Below.refl w.heap.size w).alloc (Nat.le_refl _) (.cells #[.int .i64 1, .int .i64 (x : Int), .int .i64 0] 41)))
        have r1 := Lib.hid (RowAt.new w 41 #[.int .i64 1, .int .i64 (x : Int), .int .i64 0])
        have own1 := Lib.hid (hown.out.alloc (.cells #[.int .i64 1, .int .i64 (x : Int), .int .i64 0] 41))
        go_enter Tryd.func22, Tryd.ntmps22
        go_wp2_with (first | (refine wpList_known rfl (at_nodes hs.out hi rfl rfl rfl rfl _) ?_) | (refine wpList_known rfl (get_node hs.out hi rfl rfl) ?_) | (at_builtin; refine wpList_append_byte rfl _ _ rfl B v m l 107 _ rfl rfl _ own1.out rfl rfl (by simp) (by omega) (Nat.le_trans hBw b1.size) ?_; intro v3 w3 own3 g3 b3; refine Hid.out ?_))
        unfold Hid
        have k3 := Lib.hid (k1.out.trans (KeptO.grown own1.out g3.out))
        have r3 := Lib.hid (KeptO.grown own1.out g3.out _ _ _ (by decide) r1.out)
        have c3 := cell_of_row w3 _ 1 _ _ (0, 0) r3.out
        have b4 := b1.trans b3.out
        have A := Lib.hid (appendInt_any B (m + 1) x hx v3 (l ++ [107]) w3 own3 (Nat.le_trans hBw b4.size) (by omega) (hp.out.on b4))
        clear b1 k1 r1 own1 g3 b3 r3
        go_wp2_with fail
        refine A.out.mono ?_
        rintro e w5 ⟨v5, rfl, own5, b5, k5⟩
        have b6 := b4.trans b5
        have k6 := Lib.hid (k3.out.trans k5.out)
        clear A b4 b5 k3 k5 own3
        go_wp2
        go_ret
        exact ⟨v5, rfl, own5, b6, k6⟩
    · rcases h0 with h0 | h0
      · have et := tm_pair hK.out hi h0 hx hy e1 e2
        have el : m + lnT (tm K i) = m + 1 + lnT (tm K x) + 1 + lnT (tm K y) + 1 := by rw [et, lnT_pair]; omega
        have ex : l ++ txT (tm K i) = l ++ [40] ++ txT (tm K x) ++ [44] ++ txT (tm K y) ++ [41] := by rw [et]; simp [txT]
        rw [el, ex]
        rw [el] at hlim
        clear et el ex
        obtain ⟨cs, hcs⟩ : ∃ cs : Array Value, cs = #[.int .i64 2, .int .i64 (x : Int), .int .i64 (y : Int)] := ⟨_, rfl⟩
        have b1 := (Below.refl B w).alloc hBw (.cells #[.int .i64 2, .int .i64 (x : Int), .int .i64 (y : Int)] 41)
        have k1 := Lib.hid (KeptO.below ((Below.refl w.heap.size w).alloc (Nat.le_refl _) (.cells #[.int .i64 2, .int .i64 (x : Int), .int .i64 (y : Int)] 41)))
        have r1 := Lib.hid (RowAt.new w 41 #[.int .i64 2, .int .i64 (x : Int), .int .i64 (y : Int)])
        have own1 := Lib.hid (hown.out.alloc (.cells #[.int .i64 2, .int .i64 (x : Int), .int .i64 (y : Int)] 41))
        have z1 := Nat.le_trans hBw b1.size
        have s1 := Lib.hid (hs.out.under b1 hB.out)
        have p1 := Lib.hid (hp.out.on b1)
        go_enter Tryd.func22, Tryd.ntmps22
        go_wp2_with (first | (refine wpList_known rfl (at_nodes hs.out hi rfl rfl rfl rfl _) ?_) | (refine wpList_known rfl (get_node hs.out hi rfl rfl) ?_))
        generalize w.heap.size = p at r1 ⊢
        generalize w.alloc (.cells #[.int .i64 2, .int .i64 (x : Int), .int .i64 (y : Int)] 41) = w1 at *
        clear hcs cs
        have HC : Hid (TxC B w1 p #[.int .i64 2, .int .i64 (x : Int), .int .i64 (y : Int)] v (m) (l) w1.drew) := ⟨z1, (Below.refl _ _).drew, r1.out, own1.out, fun _ _ _ _ h => h⟩
        refine wp_region_head 6 (TxC B w1 p #[.int .i64 2, .int .i64 (x : Int), .int .i64 (y : Int)] v (m) (l)) [eqv v, bytev v 40, ownv B (m) (l) 40, eqv (.slice a n c), eqv (.pointer (some ⟨p, 1, none⟩)), eqv (.int .i64 (x : Int))] (TxK B v (m) (l) 40) (by kernel_rfl) (by kernel_rfl) HC.out (TxK_of _ _ _ _ _ _ _ _) ?_
        intro R hR
        simp only [List.take_succ_cons, List.take_zero, List.drop_succ_cons, List.drop_zero]
        refine wpRely_cons (fun w' hC hf => grows_eqv (by rfl) hC (by go_simp)) (fun v0 => ?_)
        simp only [Act.put, List.setIfInBounds_toArray, List.set_cons_succ, List.set_cons_zero, List.nil_append]
        refine wpRely_cons (fun w' hC hf => grows_bytev hR hC (by rfl) (by go_simp)) (fun v1 => ?_)
        simp only [Act.put, List.setIfInBounds_toArray, List.set_cons_succ, List.set_cons_zero, List.nil_append, List.cons_append]
        refine wpRely_cons (fun w' hC hf => ?_) (fun v2 => ?_)
        · obtain ⟨rfl, ⟨q, rfl, hq, hne⟩, _⟩ := hf
          exact grows_append hR hC (by rfl) rfl rfl rfl hq (by omega)
        simp only [Act.put, List.setIfInBounds_toArray, List.set_cons_succ, List.set_cons_zero, List.nil_append, List.cons_append]
        refine wpRely_cons (fun w' hC hf => grows_eqv (by rfl) hC (by go_simp)) (fun v3 => ?_)
        simp only [Act.put, List.setIfInBounds_toArray, List.set_cons_succ, List.set_cons_zero, List.nil_append, List.cons_append]
        refine wpRely_cons (fun w' hC hf => grows_eqv (by rfl) hC (by go_simp)) (fun v4 => ?_)
        simp only [Act.put, List.setIfInBounds_toArray, List.set_cons_succ, List.set_cons_zero, List.nil_append, List.cons_append]
        refine wpRely_cons (fun w' hC hf => ?_) (fun v5 => ?_)
        · obtain ⟨rfl, _⟩ := hf
          have hc5 := cell_of_row w' p 1 _ _ (0, 0) hC.row
          exact grows_eqv (by rfl) hC (by go_simp)
        simp only [Act.put, List.setIfInBounds_toArray, List.set_cons_succ, List.set_cons_zero, List.nil_append, List.cons_append]
        refine wpRely_nil fun w9 hC hf => ?_
        obtain ⟨_, _, ho, rfl, _, rfl, _⟩ := hf
        have I := Lib.hid (ih.out x hx (by omega) (m + 1) v2 (l ++ [40]) w9 (s1.out.under hC.below hB.out) (p1.out.on hC.below) ho (Nat.le_trans z1 hC.below.size) (by omega))
        have b9 := b1.trans hC.below
        have k9 := Lib.hid (k1.out.trans hC.kept)
        have r9 := Lib.hid hC.row
        clear hC ho HC own1 z1 r1 b1 k1
        go_wp2_with fail
        refine I.out.mono ?_
        rintro e w2 ⟨v2, rfl, own2, b10, k10⟩
        have b2 := b9.trans b10
        have k2 := Lib.hid (k9.out.trans k10.out)
        have r2 := Lib.hid (k10.out p _ _ (by decide) r9.out)
        have z2 := Nat.le_trans hBw b2.size
        have s2 := Lib.hid (hs.out.under b2 hB.out)
        have p2 := Lib.hid (hp.out.on b2)
        clear I b9 k9 r9 b10 k10 s1 p1
        go_wp2_with fail
        have HC : Hid (TxC B w2 p #[.int .i64 2, .int .i64 (x : Int), .int .i64 (y : Int)] v2 (m + 1 + lnT (tm K x)) (l ++ [40] ++ txT (tm K x)) w2.drew) := ⟨z2, (Below.refl _ _).drew, r2.out, own2.out, fun _ _ _ _ h => h⟩
        refine wp_region_head 6 (TxC B w2 p #[.int .i64 2, .int .i64 (x : Int), .int .i64 (y : Int)] v2 (m + 1 + lnT (tm K x)) (l ++ [40] ++ txT (tm K x))) [eqv v2, bytev v2 44, ownv B (m + 1 + lnT (tm K x)) (l ++ [40] ++ txT (tm K x)) 44, eqv (.slice a n c), eqv (.pointer (some ⟨p, 2, none⟩)), eqv (.int .i64 (y : Int))] (TxK B v2 (m + 1 + lnT (tm K x)) (l ++ [40] ++ txT (tm K x)) 44) (by kernel_rfl) (by kernel_rfl) HC.out (TxK_of _ _ _ _ _ _ _ _) ?_
        intro R hR
        simp only [List.take_succ_cons, List.take_zero, List.drop_succ_cons, List.drop_zero]
        refine wpRely_cons (fun w' hC hf => grows_eqv (by rfl) hC (by go_simp)) (fun v0 => ?_)
        simp only [Act.put, List.setIfInBounds_toArray, List.set_cons_succ, List.set_cons_zero, List.nil_append]
        refine wpRely_cons (fun w' hC hf => grows_bytev hR hC (by rfl) (by go_simp)) (fun v1 => ?_)
        simp only [Act.put, List.setIfInBounds_toArray, List.set_cons_succ, List.set_cons_zero, List.nil_append, List.cons_append]
        refine wpRely_cons (fun w' hC hf => ?_) (fun u2 => ?_)
        · obtain ⟨rfl, ⟨q, rfl, hq, hne⟩, _⟩ := hf
          exact grows_append hR hC (by rfl) rfl rfl rfl hq (by omega)
        simp only [Act.put, List.setIfInBounds_toArray, List.set_cons_succ, List.set_cons_zero, List.nil_append, List.cons_append]
        refine wpRely_cons (fun w' hC hf => grows_eqv (by rfl) hC (by go_simp)) (fun v3 => ?_)
        simp only [Act.put, List.setIfInBounds_toArray, List.set_cons_succ, List.set_cons_zero, List.nil_append, List.cons_append]
        refine wpRely_cons (fun w' hC hf => grows_eqv (by rfl) hC (by go_simp)) (fun v4 => ?_)
        simp only [Act.put, List.setIfInBounds_toArray, List.set_cons_succ, List.set_cons_zero, List.nil_append, List.cons_append]
        refine wpRely_cons (fun w' hC hf => ?_) (fun v5 => ?_)
        · obtain ⟨rfl, _⟩ := hf
          have hc5 := cell_of_row w' p 2 _ _ (0, 0) hC.row
          exact grows_eqv (by rfl) hC (by go_simp)
        simp only [Act.put, List.setIfInBounds_toArray, List.set_cons_succ, List.set_cons_zero, List.nil_append, List.cons_append]
        refine wpRely_nil fun w9 hC hf => ?_
        obtain ⟨_, _, ho, rfl, _, rfl, _⟩ := hf
        have I := Lib.hid (ih.out y hy (by omega) (m + 1 + lnT (tm K x) + 1) u2 (l ++ [40] ++ txT (tm K x) ++ [44]) w9 (s2.out.under hC.below hB.out) (p2.out.on hC.below) ho (Nat.le_trans z2 hC.below.size) (by omega))
        have b9 := b2.trans hC.below
        have k9 := Lib.hid (k2.out.trans hC.kept)
        have r9 := Lib.hid hC.row
        clear hC ho HC own2 z2 r2 b2 k2
        go_wp2_with fail
        refine I.out.mono ?_
        rintro e w3 ⟨v3, rfl, own3, b10, k10⟩
        have b3 := b9.trans b10
        have k3 := Lib.hid (k9.out.trans k10.out)
        have r3 := Lib.hid (k10.out p _ _ (by decide) r9.out)
        have z3 := Nat.le_trans hBw b3.size
        have s3 := Lib.hid (hs.out.under b3 hB.out)
        have p3 := Lib.hid (hp.out.on b3)
        clear I b9 k9 r9 b10 k10 s2 p2
        go_wp2_with (at_builtin; refine wpList_append_byte rfl _ _ rfl B v3 _ _ 41 _ rfl rfl _ own3.out rfl rfl (by simp) (by omega) z3 ?_; intro v4 w4 own4 g4 b4; refine Hid.out ?_)
        unfold Hid
        have k5 := Lib.hid (k3.out.trans (KeptO.grown own3.out g4.out))
        have b5 := b3.trans b4.out
        go_wp2
        go_ret
        exact ⟨v4, rfl, own4, b5, k5⟩
      · have et := tm_lock hK.out hi h0 hx hy e1 e2
        have el : m + lnT (tm K i) = m + 1 + lnT (tm K y) + 1 + lnT (tm K x) := by rw [et, lnT_lock]; omega
        have ex : l ++ txT (tm K i) = l ++ [123] ++ txT (tm K y) ++ [125] ++ txT (tm K x) := by rw [et]; simp [txT]
        rw [el, ex]
        rw [el] at hlim
        clear et el ex
        obtain ⟨cs, hcs⟩ : ∃ cs : Array Value, cs = #[.int .i64 3, .int .i64 (x : Int), .int .i64 (y : Int)] := ⟨_, rfl⟩
        have b1 := (Below.refl B w).alloc hBw (.cells #[.int .i64 3, .int .i64 (x : Int), .int .i64 (y : Int)] 41)
        have k1 := Lib.hid (KeptO.below ((Below.refl w.heap.size w).alloc (Nat.le_refl _) (.cells #[.int .i64 3, .int .i64 (x : Int), .int .i64 (y : Int)] 41)))
        have r1 := Lib.hid (RowAt.new w 41 #[.int .i64 3, .int .i64 (x : Int), .int .i64 (y : Int)])
        have own1 := Lib.hid (hown.out.alloc (.cells #[.int .i64 3, .int .i64 (x : Int), .int .i64 (y : Int)] 41))
        have z1 := Nat.le_trans hBw b1.size
        have s1 := Lib.hid (hs.out.under b1 hB.out)
        have p1 := Lib.hid (hp.out.on b1)
        go_enter Tryd.func22, Tryd.ntmps22
        go_wp2_with (first | (refine wpList_known rfl (at_nodes hs.out hi rfl rfl rfl rfl _) ?_) | (refine wpList_known rfl (get_node hs.out hi rfl rfl) ?_))
        generalize w.heap.size = p at r1 ⊢
        generalize w.alloc (.cells #[.int .i64 3, .int .i64 (x : Int), .int .i64 (y : Int)] 41) = w1 at *
        clear hcs cs
        have HC : Hid (TxC B w1 p #[.int .i64 3, .int .i64 (x : Int), .int .i64 (y : Int)] v (m) (l) w1.drew) := ⟨z1, (Below.refl _ _).drew, r1.out, own1.out, fun _ _ _ _ h => h⟩
        refine wp_region_head 6 (TxC B w1 p #[.int .i64 3, .int .i64 (x : Int), .int .i64 (y : Int)] v (m) (l)) [eqv v, bytev v 123, ownv B (m) (l) 123, eqv (.slice a n c), eqv (.pointer (some ⟨p, 2, none⟩)), eqv (.int .i64 (y : Int))] (TxK B v (m) (l) 123) (by kernel_rfl) (by kernel_rfl) HC.out (TxK_of _ _ _ _ _ _ _ _) ?_
        intro R hR
        simp only [List.take_succ_cons, List.take_zero, List.drop_succ_cons, List.drop_zero]
        refine wpRely_cons (fun w' hC hf => grows_eqv (by rfl) hC (by go_simp)) (fun v0 => ?_)
        simp only [Act.put, List.setIfInBounds_toArray, List.set_cons_succ, List.set_cons_zero, List.nil_append]
        refine wpRely_cons (fun w' hC hf => grows_bytev hR hC (by rfl) (by go_simp)) (fun v1 => ?_)
        simp only [Act.put, List.setIfInBounds_toArray, List.set_cons_succ, List.set_cons_zero, List.nil_append, List.cons_append]
        refine wpRely_cons (fun w' hC hf => ?_) (fun v2 => ?_)
        · obtain ⟨rfl, ⟨q, rfl, hq, hne⟩, _⟩ := hf
          exact grows_append hR hC (by rfl) rfl rfl rfl hq (by omega)
        simp only [Act.put, List.setIfInBounds_toArray, List.set_cons_succ, List.set_cons_zero, List.nil_append, List.cons_append]
        refine wpRely_cons (fun w' hC hf => grows_eqv (by rfl) hC (by go_simp)) (fun v3 => ?_)
        simp only [Act.put, List.setIfInBounds_toArray, List.set_cons_succ, List.set_cons_zero, List.nil_append, List.cons_append]
        refine wpRely_cons (fun w' hC hf => grows_eqv (by rfl) hC (by go_simp)) (fun v4 => ?_)
        simp only [Act.put, List.setIfInBounds_toArray, List.set_cons_succ, List.set_cons_zero, List.nil_append, List.cons_append]
        refine wpRely_cons (fun w' hC hf => ?_) (fun v5 => ?_)
        · obtain ⟨rfl, _⟩ := hf
          have hc5 := cell_of_row w' p 2 _ _ (0, 0) hC.row
          exact grows_eqv (by rfl) hC (by go_simp)
        simp only [Act.put, List.setIfInBounds_toArray, List.set_cons_succ, List.set_cons_zero, List.nil_append, List.cons_append]
        refine wpRely_nil fun w9 hC hf => ?_
        obtain ⟨_, _, ho, rfl, _, rfl, _⟩ := hf
        have I := Lib.hid (ih.out y hy (by omega) (m + 1) v2 (l ++ [123]) w9 (s1.out.under hC.below hB.out) (p1.out.on hC.below) ho (Nat.le_trans z1 hC.below.size) (by omega))
        have b9 := b1.trans hC.below
        have k9 := Lib.hid (k1.out.trans hC.kept)
        have r9 := Lib.hid hC.row
        clear hC ho HC own1 z1 r1 b1 k1
        go_wp2_with fail
        refine I.out.mono ?_
        rintro e w2 ⟨v2, rfl, own2, b10, k10⟩
        have b2 := b9.trans b10
        have k2 := Lib.hid (k9.out.trans k10.out)
        have r2 := Lib.hid (k10.out p _ _ (by decide) r9.out)
        have z2 := Nat.le_trans hBw b2.size
        have s2 := Lib.hid (hs.out.under b2 hB.out)
        have p2 := Lib.hid (hp.out.on b2)
        clear I b9 k9 r9 b10 k10 s1 p1
        go_wp2_with fail
        have HC : Hid (TxC B w2 p #[.int .i64 3, .int .i64 (x : Int), .int .i64 (y : Int)] v2 (m + 1 + lnT (tm K y)) (l ++ [123] ++ txT (tm K y)) w2.drew) := ⟨z2, (Below.refl _ _).drew, r2.out, own2.out, fun _ _ _ _ h => h⟩
        refine wp_region_head 6 (TxC B w2 p #[.int .i64 3, .int .i64 (x : Int), .int .i64 (y : Int)] v2 (m + 1 + lnT (tm K y)) (l ++ [123] ++ txT (tm K y))) [eqv v2, bytev v2 125, ownv B (m + 1 + lnT (tm K y)) (l ++ [123] ++ txT (tm K y)) 125, eqv (.slice a n c), eqv (.pointer (some ⟨p, 1, none⟩)), eqv (.int .i64 (x : Int))] (TxK B v2 (m + 1 + lnT (tm K y)) (l ++ [123] ++ txT (tm K y)) 125) (by kernel_rfl) (by kernel_rfl) HC.out (TxK_of _ _ _ _ _ _ _ _) ?_
        intro R hR
        simp only [List.take_succ_cons, List.take_zero, List.drop_succ_cons, List.drop_zero]
        refine wpRely_cons (fun w' hC hf => grows_eqv (by rfl) hC (by go_simp)) (fun v0 => ?_)
        simp only [Act.put, List.setIfInBounds_toArray, List.set_cons_succ, List.set_cons_zero, List.nil_append]
        refine wpRely_cons (fun w' hC hf => grows_bytev hR hC (by rfl) (by go_simp)) (fun v1 => ?_)
        simp only [Act.put, List.setIfInBounds_toArray, List.set_cons_succ, List.set_cons_zero, List.nil_append, List.cons_append]
        refine wpRely_cons (fun w' hC hf => ?_) (fun u2 => ?_)
        · obtain ⟨rfl, ⟨q, rfl, hq, hne⟩, _⟩ := hf
          exact grows_append hR hC (by rfl) rfl rfl rfl hq (by omega)
        simp only [Act.put, List.setIfInBounds_toArray, List.set_cons_succ, List.set_cons_zero, List.nil_append, List.cons_append]
        refine wpRely_cons (fun w' hC hf => grows_eqv (by rfl) hC (by go_simp)) (fun v3 => ?_)
        simp only [Act.put, List.setIfInBounds_toArray, List.set_cons_succ, List.set_cons_zero, List.nil_append, List.cons_append]
        refine wpRely_cons (fun w' hC hf => grows_eqv (by rfl) hC (by go_simp)) (fun v4 => ?_)
        simp only [Act.put, List.setIfInBounds_toArray, List.set_cons_succ, List.set_cons_zero, List.nil_append, List.cons_append]
        refine wpRely_cons (fun w' hC hf => ?_) (fun v5 => ?_)
        · obtain ⟨rfl, _⟩ := hf
          have hc5 := cell_of_row w' p 1 _ _ (0, 0) hC.row
          exact grows_eqv (by rfl) hC (by go_simp)
        simp only [Act.put, List.setIfInBounds_toArray, List.set_cons_succ, List.set_cons_zero, List.nil_append, List.cons_append]
        refine wpRely_nil fun w9 hC hf => ?_
        obtain ⟨_, _, ho, rfl, _, rfl, _⟩ := hf
        have I := Lib.hid (ih.out x hx (by omega) (m + 1 + lnT (tm K y) + 1) u2 (l ++ [123] ++ txT (tm K y) ++ [125]) w9 (s2.out.under hC.below hB.out) (p2.out.on hC.below) ho (Nat.le_trans z2 hC.below.size) (by omega))
        have b9 := b2.trans hC.below
        have k9 := Lib.hid (k2.out.trans hC.kept)
        have r9 := Lib.hid hC.row
        clear hC ho HC own2 z2 r2 b2 k2
        go_wp2_with fail
        refine I.out.mono ?_
        rintro e w3 ⟨v3, rfl, own3, b10, k10⟩
        have b3 := b9.trans b10
        have k3 := Lib.hid (k9.out.trans k10.out)
        have r3 := Lib.hid (k10.out p _ _ (by decide) r9.out)
        have z3 := Nat.le_trans hBw b3.size
        have s3 := Lib.hid (hs.out.under b3 hB.out)
        have p3 := Lib.hid (hp.out.on b3)
        clear I b9 k9 r9 b10 k10 s2 p2
        go_wp2
        go_ret
        exact ⟨v3, rfl, own3, b3, k3⟩

end Go.Proofs.YtlfgiggeeoegjaaDoor
