/-
  Contract: eachOnce: the terms each once, by a map of nodes.
-/
import Derived.Test.YtjhalbifljnfjaaAdvSmall
import Derived.Test.YtjhalbifljnfjaaAdvKeys
import Derived.BigRegion
namespace Go.Proofs.Ytjhalbifljnfjaa
open Go.RowKit Go.Maps
set_option linter.unusedVariables false

theorem own_apart9 {w w' : World} {base p : Nat} {e : TypeId} {size n : Nat} {v : Value} {xs : List Value} (h : w.ownsRow base e size v n xs) (ap : Apart p w w') (hne : v.ownBlock ≠ some p) : w'.ownsRow base e size v n xs := by
  refine ⟨h.1, ?_⟩
  rcases h.2 with h2 | ⟨g, cap, cur, rfl, hg, hr, rest⟩
  · exact .inl h2
  · refine .inr ⟨g, cap, cur, rfl, hg, ?_, rest⟩
    exact Apart.row (t := e) ap hr (fun e => hne (by rw [← e]; rfl))
theorem own_some9 {w : World} {base : Nat} {e : TypeId} {size n : Nat} {v : Value} {xs : List Value} (h : w.ownsRow base e size v n xs) (hn : 0 < n) : ∃ g cap, v = .slice (some ⟨g, 0, none⟩) n cap ∧ base ≤ g ∧ g < w.heap.size := by
  rcases h.2 with ⟨_, h0⟩ | ⟨g, cap, cur, rfl, hg, hr, _⟩
  · omega
  · exact ⟨g, cap, rfl, hg, (Array.getElem?_eq_some_iff.1 hr).1⟩
theorem own_fresh9 {w : World} {base : Nat} {e : TypeId} {size n : Nat} {v : Value} {xs : List Value} (h : w.ownsRow base e size v n xs) : v.ownBlock ≠ some w.heap.size := by
  intro e
  have := (h.lt _ e).2
  omega
theorem own_none9 {w : World} {base : Nat} {e : TypeId} {size n : Nat} {v : Value} {xs : List Value} (h : w.ownsRow base e size v n xs) : ∃ a c, v = .slice a n c := by
  rcases h.2 with ⟨rfl, rfl⟩ | ⟨g, cap, cur, rfl, _⟩
  · exact ⟨none, 0, rfl⟩
  · exact ⟨_, _, rfl⟩

theorem get_nodeE9 {w : World} {ad : Option Addr} {n i : Nat} {K : Nds} (h : SeesN w ad n K) (hi : i < n) {z0 z1 z2 : Int} (e0 : K i 0 = z0) (e1 : K i 1 = z1) (e2 : K i 2 = z2) {o : Oper} {a : Act} {x : Operand} (ho : o.op = .load 42 x) (hx : a.eval x = .pointer (some (elV ad (i * 3)))) :
    (execOp a.eval o).run Try.prog w = .ok (.value (.agg #[.int .i64 z0, .int .i64 z1, .int .i64 z2])) w := by
  subst e0 e1 e2
  exact get_node h hi ho hx

/-- The map found, as far as k places. -/
def FoundAt (K : Nds) (n k : Nat) (w : World) (b : Nat) : Prop := ∃ D, OwnF w b k D ∧ Found K n k D

set_option maxHeartbeats 8000000 in
set_option maxRecDepth 8000 in
theorem eachOnce_any (K : Nds) (n : Nat) (hn : n ≤ 200) (hK : Hid (Wf K n)) (a : Option Addr) (c : Nat) (w : World) (hs : Hid (SeesN w a n K)) :
    Calls Try.prog 32 #[.slice a n c] w fun e w' => ∃ v v', e = .returned (.tuple #[v, v']) ∧ Hid (w'.ownsRow w.heap.size 42 3 v (cnt K n) (cellL (cnt K n * 3) (flatN (onceN K)))) ∧ Hid (w'.ownsRow w.heap.size 3 1 v' n (cellL n (numV (atN K)))) ∧ Below w.heap.size w w' := by
  have hmm := @run_makeMap Try.prog
  go_enter Try.func32, Try.ntmps32
  go_wp2
  clear hmm
  go_loopw [2, 3, 12] (fun v v' c wr => ∃ k : Nat, k ≤ n ∧ c = .int .i64 k ∧ Hid (wr.ownsRow w.heap.size 42 3 v (cnt K k) (cellL (cnt K k * 3) (flatN (onceN K)))) ∧ Hid (wr.ownsRow w.heap.size 3 1 v' k (cellL k (numV (atN K)))) ∧ Hid (FoundAt K n k wr w.heap.size) ∧ Below w.heap.size w wr) (fun _ _ c _ => n - (intOf c).toNat)
  case atStart => exact ⟨0, Nat.zero_le _, rfl, World.ownsRow_nil _ _ _ _, World.ownsRow_nil _ _ _ _, ⟨_, World.ownsMap_made w _ _ _, found_none K n⟩, (Below.refl _ _).alloc (Nat.le_refl _) _⟩
  case round =>
    obtain ⟨k, hk, rfl, hT, hA, hF, hb⟩ := hrel
    by_cases hlt : k < n
    · have lk : (k : Int) < (n : Int) := by omega
      obtain ⟨D, hM, hD⟩ := hF.out
      replace hM := Lib.hid hM
      replace hD := Lib.hid hD
      clear hF
      have s1 := Lib.hid (hs.out.after hb)
      have nT := Lib.hid (own_fresh9 hT.out)
      have nA := Lib.hid (own_fresh9 hA.out)
      have nM : Hid (w.heap.size ≠ wr.heap.size) := fun e => by have := hM.out.lt; omega
      have hpl : Hid (w.heap.size ≤ wr.heap.size) := hb.size
      obtain ⟨m0, m1, m2⟩ := alias_small hK.out (by omega) hlt
      replace m0 := Lib.hid m0
      replace m1 := Lib.hid m1
      replace m2 := Lib.hid m2
      have q0 := Lib.hid (alias_op K k)
      rcases hK.out.kinds hlt with ⟨h0, ⟨x, hx, e1⟩, e2⟩ | ⟨h0, x, y, hx, hy, e1, e2⟩
      · have em := made_leaf h0
        have q1 := Lib.hid ((alias_leaf K k 1 em).trans e1)
        have q2 := Lib.hid ((alias_leaf K k 2 em).trans e2)
        have b1 := hb.alloc hb.size (.cells #[.int .i64 (K k 0), .int .i64 (x : Int), .int .i64 0] 42)
        have al : Below wr.heap.size wr (wr.alloc (.cells #[.int .i64 (K k 0), .int .i64 (x : Int), .int .i64 0] 42)) := (Below.refl _ _).alloc (Nat.le_refl _) _
        have r1 := Lib.hid (RowAt.new wr 42 #[.int .i64 (K k 0), .int .i64 (x : Int), .int .i64 0])
        have t1 := Lib.hid (own_onto hT.out al)
        have a1 := Lib.hid (own_onto hA.out al)
        have f1 := Lib.hid (own_map_after hM.out al)
        clear al hT hA hM
        have M := advMade_any (K k 0) (x : Int) 0 (wr.alloc (.cells #[.int .i64 (K k 0), .int .i64 (x : Int), .int .i64 0] 42))
        rw [em] at M
        replace M := Lib.hid M
        clear em
        go_wp2_with (first | (refine wpList_known rfl (at_nodes s1.out hlt rfl rfl rfl rfl _) ?_) | (refine wpList_known rfl (get_nodeE9 s1.out hlt rfl e1 e2 rfl rfl) ?_))
        refine M.out.mono ?_
        rintro e w2 ⟨rfl, hb2⟩
        have b3 := b1.trans (hb2.mono b1.size)
        have r3 := Lib.hid (r1.out.below hb2 r1.out.lt)
        have t3 := Lib.hid (own_onto t1.out hb2)
        have a3 := Lib.hid (own_onto a1.out hb2)
        have f3 := Lib.hid (own_map_after f1.out hb2)
        clear M hb2 b1 r1 t1 a1 f1 s1
        generalize wr.heap.size = p at *
        skip
        skip
        rw [q0.out] at m0
        rw [q1.out] at m1
        rw [q2.out] at m2
        have eL : Hid (litA K k = litN (K k 0) (x : Int) 0) := by
          unfold Hid litA
          rw [q0.out, q1.out, q2.out]
        obtain ⟨d1, d2⟩ := hD.out k hlt
        rw [eL.out] at d1 d2
        obtain ⟨aT, cT, rfl⟩ := own_none9 t3.out
        by_cases hnew : fst K k = k
        · have hh : Hid (Maps.has D (litN (K k 0) (x : Int) 0) = false) := by
            cases e : Maps.has D (litN (K k 0) (x : Int) 0)
            · rfl
            · have := d1.1 e; omega
          have hat := Lib.hid (atKey_of_not_has hh.out (.lit (.int .i64 0)))
          replace d1 := Lib.hid d1
          replace d2 := Lib.hid d2
          have hkey := keyOf_node m0.out m1.out m2.out
          have one : plainElem Try.prog 3 (.int .i64 ((cnt K k : Nat) : Int)) = some (.lit (.int .i64 ((cnt K k : Nat) : Int)), []) := plainElem_int (H := Unit) Try.underlying3 (wf_million (by omega) (by have := cnt_le K k; omega))
          have ea := Lib.hid (atN_new hnew)
          have ec := Lib.hid (cnt_new hnew)
          have o0 : Hid (onceN K (cnt K k) 0 = K k 0) := (once_new hnew 0).trans q0.out
          have o1 : Hid (onceN K (cnt K k) 1 = (x : Int)) := (once_new hnew 1).trans q1.out
          have o2 : Hid (onceN K (cnt K k) 2 = 0) := (once_new hnew 2).trans q2.out
          have hcl : cnt K k ≤ 1000000 := by have := cnt_le K k; omega
          have hfn := Lib.hid (found_new hK.out (by omega) hD.out f3.out.isMap hlt hnew)
          rw [eL.out] at hfn
          replace hnew := Lib.hid hnew
          go_wp2_with (first | (refine wpList_load_row rfl 42 _ rfl p rfl 42 #[.int .i64 (K k 0), .int .i64 (x : Int), .int .i64 0] (0, 0) _ r3.out Try.underlying42 rfl sz_node ?_) | (refine wpList_known rfl (run_found f3.out m0.out m1.out m2.out hh.out hat.out rfl rfl rfl) ?_) | (at_mapUpdate; refine wpList_mapUpdate_own _ rfl _ _ _ 67 rfl 42 3 keyedNode Try.underlying67 _ w.heap.size k D rfl f3.out (by unfold maxLen; omega) _ _ _ rfl rfl hkey _ [] one ?_; intro w4 f4 g4; refine Hid.out ?_))
          unfold Hid
          have t4 := Lib.hid (t3.out.kept g4 (.inr (own_map_ne f3.out t3.out)))
          have a4 := Lib.hid (a3.out.kept g4 (.inr (own_map_ne f3.out a3.out)))
          have r4 : Hid (RowAt w4 p 42 #[.int .i64 (K k 0), .int .i64 (x : Int), .int .i64 0]) := (g4.block p r3.out.lt (fun e => nM.out (by cases e; rfl))).trans r3.out
          have b4 : Below w.heap.size w w4 := b3.grown g4 b3.size (fun j hj => by cases hj; exact Nat.le_refl _)
          replace f4 := Lib.hid f4
          clear g4 f3 t3 a3 r3 b3 hkey one hat hh
          go_wp2_with (first | (refine wpList_load_row rfl 42 _ rfl p rfl 42 #[.int .i64 (K k 0), .int .i64 (x : Int), .int .i64 0] (0, 0) _ r4.out Try.underlying42 rfl sz_node ?_) | (at_builtin; refine wpList_append_node rfl _ _ rfl w.heap.size _ (cnt K k) (onceN K) _ _ _ o0.out.symm o1.out.symm o2.out.symm rfl w4 t4.out rfl rfl rfl hcl b4.size ?_; intro v5 w5 t5 g5 b5; refine Hid.out ?_))
          unfold Hid
          have a5 := Lib.hid (a4.out.kept g5.out (own_two a4.out t4.out (by decide)))
          have f5 := Lib.hid (f4.out.kept g5.out (own_map_ne f4.out t4.out).symm)
          have b6 := b4.trans b5.out
          clear t4 a4 f4 g5 b5 b4 r4
          go_wp2_with (at_builtin; refine wpList_append_num rfl _ _ rfl w.heap.size _ k (atN K) _ (by rw [ea.out]) rfl w5 a5.out rfl rfl rfl (by omega) b6.size ?_; intro v9 w9 a9 g9 b9)
          have t9 := Lib.hid (t5.out.kept g9.out (own_two t5.out a5.out (by decide)))
          have f9 := Lib.hid (f5.out.kept g9.out (own_map_ne f5.out a5.out).symm)
          have b10 := b6.trans b9.out
          rw [← ec.out] at t9
          go_roundw
          case rel => exact ⟨k + 1, by omega, by go_num, t9, a9, ⟨_, f9.out, hfn.out⟩, b10⟩
          case measure => simp [intOf]; omega
        · have hlk : fst K k < k := by have := fst_le K k; omega
          have hh := Lib.hid (d1.2 hlk)
          have hat := Lib.hid (d2 hlk (.lit (.int .i64 0)))
          replace d1 := Lib.hid d1
          replace d2 := Lib.hid d2
          have hfo := Lib.hid (found_old hD.out hnew)
          have ec := Lib.hid (cnt_old hnew)
          replace hnew := Lib.hid hnew
          clear hlk
          go_wp2_with (first | (refine wpList_load_row rfl 42 _ rfl p rfl 42 #[.int .i64 (K k 0), .int .i64 (x : Int), .int .i64 0] (0, 0) _ r3.out Try.underlying42 rfl sz_node ?_) | (refine wpList_known rfl (run_found f3.out m0.out m1.out m2.out hh.out hat.out rfl rfl rfl) ?_) | (at_builtin; refine wpList_append_num rfl _ _ rfl w.heap.size _ k (atN K) _ rfl rfl w2 a3.out rfl rfl rfl (by omega) b3.size ?_; intro v9 w9 a9 g9 b9))
          have t9 := Lib.hid (t3.out.kept g9.out (own_two t3.out a3.out (by decide)))
          have f9 := Lib.hid (f3.out.kept g9.out (own_map_ne f3.out a3.out).symm)
          have b10 := b3.trans b9.out
          go_roundw
          case rel => exact ⟨k + 1, by omega, by go_num, by rw [ec.out]; exact t9, a9, ⟨_, f9.out.mono (Nat.le_succ _), hfo.out⟩, b10⟩
          case measure => simp [intOf]; omega
      · have em := made_yes h0
        have q1 := alias_made K k 1 em (by decide)
        have q2 := alias_made K k 2 em (by decide)
        rw [e1, Int.toNat_natCast] at q1
        rw [e2, Int.toNat_natCast] at q2
        replace q1 := Lib.hid q1
        replace q2 := Lib.hid q2
        have b1 := hb.alloc hb.size (.cells #[.int .i64 (K k 0), .int .i64 (x : Int), .int .i64 (y : Int)] 42)
        have al : Below wr.heap.size wr (wr.alloc (.cells #[.int .i64 (K k 0), .int .i64 (x : Int), .int .i64 (y : Int)] 42)) := (Below.refl _ _).alloc (Nat.le_refl _) _
        have r1 := Lib.hid (RowAt.new wr 42 #[.int .i64 (K k 0), .int .i64 (x : Int), .int .i64 (y : Int)])
        have t1 := Lib.hid (own_onto hT.out al)
        have a1 := Lib.hid (own_onto hA.out al)
        have f1 := Lib.hid (own_map_after hM.out al)
        clear al hT hA hM
        have M := advMade_any (K k 0) (x : Int) (y : Int) (wr.alloc (.cells #[.int .i64 (K k 0), .int .i64 (x : Int), .int .i64 (y : Int)] 42))
        rw [em] at M
        replace M := Lib.hid M
        clear em
        go_wp2_with (first | (refine wpList_known rfl (at_nodes s1.out hlt rfl rfl rfl rfl _) ?_) | (refine wpList_known rfl (get_nodeE9 s1.out hlt rfl e1 e2 rfl rfl) ?_))
        refine M.out.mono ?_
        rintro e w2 ⟨rfl, hb2⟩
        have b3 := b1.trans (hb2.mono b1.size)
        have r3 := Lib.hid (r1.out.below hb2 r1.out.lt)
        have t3 := Lib.hid (own_onto t1.out hb2)
        have a3 := Lib.hid (own_onto a1.out hb2)
        have f3 := Lib.hid (own_map_after f1.out hb2)
        clear M hb2 b1 r1 t1 a1 f1 s1
        generalize wr.heap.size = p at *
        obtain ⟨g, c0, rfl, hg, hgl⟩ := own_some9 a3.out (by omega)
        have gx := a3.out.cells (g := g) rfl x _ (cellL_get k _ x hx)
        have gy := a3.out.cells (g := g) rfl y _ (cellL_get k _ y hy)
        rw [addr_add, Nat.zero_add] at gx gy
        unfold numV at gx gy
        have hgp : g ≠ p := by
          intro e
          subst e
          exact nA.out rfl
        have c1 := cell_of_row w2 p 1 _ _ (0, 0) r3.out
        have c2 := cell_of_row w2 p 2 _ _ (0, 0) r3.out
        have f1 := r3.out.free 1
        have f2 := r3.out.free 2
        have lx : (x : Int) < (k : Int) := by omega
        have ly : (y : Int) < (k : Int) := by omega
        have ap : Apart p w2 (((w2.setCell ⟨p, 1, none⟩ (.int .i64 ((atN K x : Nat) : Int))).setCell ⟨p, 2, none⟩ (.int .i64 ((atN K y : Nat) : Int))).drew) := (((Apart.refl p w2).setCell r3.out _).setCell (r3.out.set 1 _) _).drew
        have r4 : Hid (RowAt (((w2.setCell ⟨p, 1, none⟩ (.int .i64 ((atN K x : Nat) : Int))).setCell ⟨p, 2, none⟩ (.int .i64 ((atN K y : Nat) : Int))).drew) p 42 #[.int .i64 (K k 0), .int .i64 ((atN K x : Nat) : Int), .int .i64 ((atN K y : Nat) : Int)]) := (r3.out.set 1 _).set 2 _
        have t4 := Lib.hid (own_apart9 t3.out ap nT.out)
        have a4 := Lib.hid (own_apart9 a3.out ap nA.out)
        have f4 := Lib.hid (own_map_apart f3.out ap nM.out)
        have b4 := b3.trans (ap.under hpl.out b3.size)
        replace ap := Lib.hid ap
        clear t3 a3 f3 b3 r3
        go_wp2_with fail
        go_big_region
        clear ap gx gy hgp c1 c2 f1 f2 lx ly
        have t3 := t4
        have a3 := a4
        have f3 := f4
        have b3 := b4
        have r3 := r4
        clear t4 a4 f4 b4 r4
        generalize World.drew _ = w3 at *
        rw [q0.out] at m0
        rw [q1.out] at m1
        rw [q2.out] at m2
        have eL : Hid (litA K k = litN (K k 0) ((atN K x : Nat) : Int) ((atN K y : Nat) : Int)) := by
          unfold Hid litA
          rw [q0.out, q1.out, q2.out]
        obtain ⟨d1, d2⟩ := hD.out k hlt
        rw [eL.out] at d1 d2
        obtain ⟨aT, cT, rfl⟩ := own_none9 t3.out
        by_cases hnew : fst K k = k
        · have hh : Hid (Maps.has D (litN (K k 0) ((atN K x : Nat) : Int) ((atN K y : Nat) : Int)) = false) := by
            cases e : Maps.has D (litN (K k 0) ((atN K x : Nat) : Int) ((atN K y : Nat) : Int))
            · rfl
            · have := d1.1 e; omega
          have hat := Lib.hid (atKey_of_not_has hh.out (.lit (.int .i64 0)))
          replace d1 := Lib.hid d1
          replace d2 := Lib.hid d2
          have hkey := keyOf_node m0.out m1.out m2.out
          have one : plainElem Try.prog 3 (.int .i64 ((cnt K k : Nat) : Int)) = some (.lit (.int .i64 ((cnt K k : Nat) : Int)), []) := plainElem_int (H := Unit) Try.underlying3 (wf_million (by omega) (by have := cnt_le K k; omega))
          have ea := Lib.hid (atN_new hnew)
          have ec := Lib.hid (cnt_new hnew)
          have o0 : Hid (onceN K (cnt K k) 0 = K k 0) := (once_new hnew 0).trans q0.out
          have o1 : Hid (onceN K (cnt K k) 1 = ((atN K x : Nat) : Int)) := (once_new hnew 1).trans q1.out
          have o2 : Hid (onceN K (cnt K k) 2 = ((atN K y : Nat) : Int)) := (once_new hnew 2).trans q2.out
          have hcl : cnt K k ≤ 1000000 := by have := cnt_le K k; omega
          have hfn := Lib.hid (found_new hK.out (by omega) hD.out f3.out.isMap hlt hnew)
          rw [eL.out] at hfn
          replace hnew := Lib.hid hnew
          go_wp2_with (first | (refine wpList_load_row rfl 42 _ rfl p rfl 42 #[.int .i64 (K k 0), .int .i64 ((atN K x : Nat) : Int), .int .i64 ((atN K y : Nat) : Int)] (0, 0) _ r3.out Try.underlying42 rfl sz_node ?_) | (refine wpList_known rfl (run_found f3.out m0.out m1.out m2.out hh.out hat.out rfl rfl rfl) ?_) | (at_mapUpdate; refine wpList_mapUpdate_own _ rfl _ _ _ 67 rfl 42 3 keyedNode Try.underlying67 _ w.heap.size k D rfl f3.out (by unfold maxLen; omega) _ _ _ rfl rfl hkey _ [] one ?_; intro w4 f4 g4; refine Hid.out ?_))
          unfold Hid
          have t4 := Lib.hid (t3.out.kept g4 (.inr (own_map_ne f3.out t3.out)))
          have a4 := Lib.hid (a3.out.kept g4 (.inr (own_map_ne f3.out a3.out)))
          have r4 : Hid (RowAt w4 p 42 #[.int .i64 (K k 0), .int .i64 ((atN K x : Nat) : Int), .int .i64 ((atN K y : Nat) : Int)]) := (g4.block p r3.out.lt (fun e => nM.out (by cases e; rfl))).trans r3.out
          have b4 : Below w.heap.size w w4 := b3.grown g4 b3.size (fun j hj => by cases hj; exact Nat.le_refl _)
          replace f4 := Lib.hid f4
          clear g4 f3 t3 a3 r3 b3 hkey one hat hh
          go_wp2_with (first | (refine wpList_load_row rfl 42 _ rfl p rfl 42 #[.int .i64 (K k 0), .int .i64 ((atN K x : Nat) : Int), .int .i64 ((atN K y : Nat) : Int)] (0, 0) _ r4.out Try.underlying42 rfl sz_node ?_) | (at_builtin; refine wpList_append_node rfl _ _ rfl w.heap.size _ (cnt K k) (onceN K) _ _ _ o0.out.symm o1.out.symm o2.out.symm rfl w4 t4.out rfl rfl rfl hcl b4.size ?_; intro v5 w5 t5 g5 b5; refine Hid.out ?_))
          unfold Hid
          have a5 := Lib.hid (a4.out.kept g5.out (own_two a4.out t4.out (by decide)))
          have f5 := Lib.hid (f4.out.kept g5.out (own_map_ne f4.out t4.out).symm)
          have b6 := b4.trans b5.out
          clear t4 a4 f4 g5 b5 b4 r4
          go_wp2_with (at_builtin; refine wpList_append_num rfl _ _ rfl w.heap.size _ k (atN K) _ (by rw [ea.out]) rfl w5 a5.out rfl rfl rfl (by omega) b6.size ?_; intro v9 w9 a9 g9 b9)
          have t9 := Lib.hid (t5.out.kept g9.out (own_two t5.out a5.out (by decide)))
          have f9 := Lib.hid (f5.out.kept g9.out (own_map_ne f5.out a5.out).symm)
          have b10 := b6.trans b9.out
          rw [← ec.out] at t9
          go_roundw
          case rel => exact ⟨k + 1, by omega, by go_num, t9, a9, ⟨_, f9.out, hfn.out⟩, b10⟩
          case measure => simp [intOf]; omega
        · have hlk : fst K k < k := by have := fst_le K k; omega
          have hh := Lib.hid (d1.2 hlk)
          have hat := Lib.hid (d2 hlk (.lit (.int .i64 0)))
          replace d1 := Lib.hid d1
          replace d2 := Lib.hid d2
          have hfo := Lib.hid (found_old hD.out hnew)
          have ec := Lib.hid (cnt_old hnew)
          replace hnew := Lib.hid hnew
          clear hlk
          go_wp2_with (first | (refine wpList_load_row rfl 42 _ rfl p rfl 42 #[.int .i64 (K k 0), .int .i64 ((atN K x : Nat) : Int), .int .i64 ((atN K y : Nat) : Int)] (0, 0) _ r3.out Try.underlying42 rfl sz_node ?_) | (refine wpList_known rfl (run_found f3.out m0.out m1.out m2.out hh.out hat.out rfl rfl rfl) ?_) | (at_builtin; refine wpList_append_num rfl _ _ rfl w.heap.size _ k (atN K) _ rfl rfl w3 a3.out rfl rfl rfl (by omega) b3.size ?_; intro v9 w9 a9 g9 b9))
          have t9 := Lib.hid (t3.out.kept g9.out (own_two t3.out a3.out (by decide)))
          have f9 := Lib.hid (f3.out.kept g9.out (own_map_ne f3.out a3.out).symm)
          have b10 := b3.trans b9.out
          go_roundw
          case rel => exact ⟨k + 1, by omega, by go_num, by rw [ec.out]; exact t9, a9, ⟨_, f9.out.mono (Nat.le_succ _), hfo.out⟩, b10⟩
          case measure => simp [intOf]; omega
    · have lk : ¬ (k : Int) < (n : Int) := by omega
      have ek : k = n := by omega
      subst ek
      go_wp2
      go_ret2
      exact ⟨_, _, rfl, hT, hA, hb⟩

end Go.Proofs.Ytjhalbifljnfjaa
