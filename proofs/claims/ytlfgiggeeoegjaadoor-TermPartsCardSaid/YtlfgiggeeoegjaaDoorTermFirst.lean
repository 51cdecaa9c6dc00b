/-
  Contracts: firstPlaces, Same.
-/
import Derived.Test.YtlfgiggeeoegjaaDoorTermApp
import Derived.Test.YtlfgiggeeoegjaaDoorTermIndex
import Derived.BigRegion
namespace Go.Proofs.YtlfgiggeeoegjaaDoor
open Go.RowKit
set_option linter.unusedVariables false

/-- The nodes with first places alone in them. -/
noncomputable def plainN (K : Nds) : Nds := fun i j => if madeB (K i 0) = true ∧ j ≠ 0 then ((fst K (K i j).toNat : Nat) : Int) else K i j

theorem plain_op (K : Nds) (i : Nat) : plainN K i 0 = K i 0 := by unfold plainN; rw [if_neg (by simp)]
theorem plain_leaf (K : Nds) (i j : Nat) (h : madeB (K i 0) = false) : plainN K i j = K i j := by unfold plainN; rw [if_neg (by rw [h]; simp)]
theorem plain_made (K : Nds) (i j : Nat) (h : madeB (K i 0) = true) (hj : j ≠ 0) : plainN K i j = ((fst K (K i j).toNat : Nat) : Int) := by unfold plainN; rw [if_pos ⟨h, hj⟩]
theorem made_leaf {o : Int} (h : o = 0 ∨ o = 1) : madeB o = false := by rcases h with rfl | rfl <;> rfl
theorem made_yes {o : Int} (h : o = 2 ∨ o = 3) : madeB o = true := by rcases h with rfl | rfl <;> rfl

/-- The nodes are the same just if the terms are. -/
theorem plain_same {K : Nds} {n : Nat} (h : Wf K n) {i j : Nat} (hi : i < n) (hj : j < n) : isN (plainN K) j (plainN K i 0) (plainN K i 1) (plainN K i 2) = true ↔ tm K i = tm K j := by
  rw [tm_same h hi hj]
  unfold isN
  simp only [Bool.and_eq_true, beq_iff_eq, plain_op]
  rcases h.kinds hi with ⟨a0, ⟨x, _, a1⟩, a2⟩ | ⟨a0, x, y, hx, hy, a1, a2⟩
  · rw [plain_leaf K i 1 (made_leaf a0), plain_leaf K i 2 (made_leaf a0)]
    rcases h.kinds hj with ⟨b0, ⟨u, _, b1⟩, b2⟩ | ⟨b0, u, v, hu, hv, b1, b2⟩
    · rw [plain_leaf K j 1 (made_leaf b0), plain_leaf K j 2 (made_leaf b0), a2, b2]
      constructor
      · rintro ⟨⟨h1, h2⟩, _⟩
        exact ⟨h1, .inl ⟨by omega, h2⟩⟩
      · rintro ⟨h1, h2 | h2⟩
        · exact ⟨⟨h1, h2.2⟩, rfl⟩
        · omega
    · constructor
      · rintro ⟨⟨h1, _⟩, _⟩
        omega
      · rintro ⟨h1, _⟩
        omega
  · rw [plain_made K i 1 (made_yes a0) (by decide), plain_made K i 2 (made_yes a0) (by decide)]
    rcases h.kinds hj with ⟨b0, ⟨u, _, b1⟩, b2⟩ | ⟨b0, u, v, hu, hv, b1, b2⟩
    · constructor
      · rintro ⟨⟨h1, _⟩, _⟩
        omega
      · rintro ⟨h1, _⟩
        omega
    · rw [plain_made K j 1 (made_yes b0) (by decide), plain_made K j 2 (made_yes b0) (by decide)]
      constructor
      · rintro ⟨⟨h1, h2⟩, h3⟩
        exact ⟨h1, .inr ⟨by omega, (fst_same K _ _).1 (by omega), (fst_same K _ _).1 (by omega)⟩⟩
      · rintro ⟨h1, h2 | ⟨_, h2, h3⟩⟩
        · omega
        · exact ⟨⟨h1, by rw [(fst_same K _ _).2 h2]⟩, by rw [(fst_same K _ _).2 h3]⟩

theorem plain_first {K : Nds} {n : Nat} (h : Wf K n) {i : Nat} (hi : i < n) : isN (plainN K) (fst K i) (plainN K i 0) (plainN K i 1) (plainN K i 2) = true := by
  have := fst_le K i
  exact (plain_same h hi (by omega)).2 (fst_tm K i).symm
theorem plain_before {K : Nds} {n : Nat} (h : Wf K n) {i : Nat} (hi : i < n) : ∀ k, k < fst K i → isN (plainN K) k (plainN K i 0) (plainN K i 1) (plainN K i 2) = false := by
  intro k hk
  have := fst_le K i
  cases hb : isN (plainN K) k (plainN K i 0) (plainN K i 1) (plainN K i 2)
  · rfl
  · exact absurd ((plain_same h hi (by omega)).1 hb).symm (fst_least K i k hk)

theorem own_apart {w w' : World} {base p : Nat} {e : TypeId} {size n : Nat} {v : Value} {xs : List Value} (h : w.ownsRow base e size v n xs) (ap : Apart p w w') (hne : v.ownBlock ≠ some p) : w'.ownsRow base e size v n xs := by
  refine ⟨h.1, ?_⟩
  rcases h.2 with h2 | ⟨g, cap, cur, rfl, hg, hr, rest⟩
  · exact .inl h2
  · refine .inr ⟨g, cap, cur, rfl, hg, ?_, rest⟩
    exact Apart.row (t := e) ap hr (fun e => hne (by rw [← e]; rfl))
theorem own_some {w : World} {base : Nat} {e : TypeId} {size n : Nat} {v : Value} {xs : List Value} (h : w.ownsRow base e size v n xs) (hn : 0 < n) : ∃ g cap, v = .slice (some ⟨g, 0, none⟩) n cap ∧ base ≤ g ∧ g < w.heap.size := by
  rcases h.2 with ⟨_, h0⟩ | ⟨g, cap, cur, rfl, hg, hr, _⟩
  · omega
  · exact ⟨g, cap, rfl, hg, (Array.getElem?_eq_some_iff.1 hr).1⟩
theorem own_fresh {w : World} {base : Nat} {e : TypeId} {size n : Nat} {v : Value} {xs : List Value} (h : w.ownsRow base e size v n xs) : v.ownBlock ≠ some w.heap.size := by
  intro e
  have := (h.lt _ e).2
  omega

set_option maxHeartbeats 4000000 in
set_option maxRecDepth 8000 in
theorem firstPlaces_any (K : Nds) (n : Nat) (hn : n ≤ 200) (hK : Hid (Wf K n)) (a : Option Addr) (c : Nat) (w : World) (hs : Hid (SeesN w a n K)) :
    Calls Tryd.prog 29 #[.slice a n c] w fun e w' => ∃ v, e = .returned v ∧ Hid (w'.ownsRow w.heap.size 3 1 v n (cellL n (numV (fst K)))) ∧ Below w.heap.size w w' := by
  go_enter Tryd.func29, Tryd.ntmps29
  go_wp2
  go_loopw [3, 4, 9] (fun v v' c wr => ∃ k : Nat, k ≤ n ∧ c = .int .i64 k ∧ Hid (wr.ownsRow w.heap.size 3 1 v k (cellL k (numV (fst K)))) ∧ Hid (wr.ownsRow w.heap.size 41 3 v' k (cellL (k * 3) (flatN (plainN K)))) ∧ Below w.heap.size w wr) (fun _ _ c _ => n - (intOf c).toNat)
  case atStart => exact ⟨0, Nat.zero_le _, rfl, World.ownsRow_nil _ _ _ _, World.ownsRow_nil _ _ _ _, Below.refl _ _⟩
  case round =>
    obtain ⟨k, hk, rfl, hown, hown', hb⟩ := hrel
    by_cases hlt : k < n
    · have lk : (k : Int) < (n : Int) := by omega
      have s1 := Lib.hid (hs.out.after hb)
      have n1 := Lib.hid (own_fresh hown'.out)
      have hpl : Hid (w.heap.size ≤ wr.heap.size) := hb.size
      rcases hK.out.kinds hlt with ⟨h0, ⟨x, hx, e1⟩, e2⟩ | ⟨h0, x, y, hx, hy, e1, e2⟩
      · have q0 := Lib.hid (plain_op K k)
        have q1 := Lib.hid ((plain_leaf K k 1 (made_leaf h0)).trans e1)
        have q2 := Lib.hid ((plain_leaf K k 2 (made_leaf h0)).trans e2)
        have em := made_leaf h0
        have b1 := hb.alloc hb.size (.cells #[.int .i64 (K k 0), .int .i64 (x : Int), .int .i64 0] 41)
        have al : Below wr.heap.size wr (wr.alloc (.cells #[.int .i64 (K k 0), .int .i64 (x : Int), .int .i64 0] 41)) := (Below.refl _ _).alloc (Nat.le_refl _) _
        have r1 := Lib.hid (RowAt.new wr 41 #[.int .i64 (K k 0), .int .i64 (x : Int), .int .i64 0])
        have o1 := Lib.hid (own_onto hown.out al)
        have o2 := Lib.hid (own_onto hown'.out al)
        clear al hown hown'
        have M := isMade_any (K k 0) (x : Int) 0 (wr.alloc (.cells #[.int .i64 (K k 0), .int .i64 (x : Int), .int .i64 0] 41))
        rw [em] at M
        replace M := Lib.hid M
        clear em
        go_wp2_with (first | (refine wpList_known rfl (at_nodes s1.out hlt rfl rfl rfl rfl _) ?_) | (refine wpList_known rfl (get_node s1.out hlt rfl rfl) ?_))
        refine M.out.mono ?_
        rintro e w2 ⟨rfl, hb2⟩
        have b3 := b1.trans (hb2.mono b1.size)
        have r3 := Lib.hid (r1.out.below hb2 r1.out.lt)
        have own3 := Lib.hid (own_onto o1.out hb2)
        have own4 := Lib.hid (own_onto o2.out hb2)
        clear M hb2 b1 r1 o1 o2 s1
        generalize wr.heap.size = p at *
        have n4 := n1
        go_wp2_with (first | (refine wpList_load_row rfl 41 _ rfl p rfl 41 #[.int .i64 (K k 0), .int .i64 ((x : Int)), .int .i64 (0)] (0, 0) _ r3.out Tryd.underlying41 rfl sz_node ?_) | (at_builtin; refine wpList_append_node rfl _ _ rfl w.heap.size _ k (plainN K) _ _ _ q0.out.symm q1.out.symm q2.out.symm rfl w2 own4.out rfl rfl rfl (by omega) b3.size ?_; intro v5 w5 own5 g5 b5; refine Hid.out ?_))
        unfold Hid
        have r5 := Lib.hid ((g5.out.block p r3.out.lt (fun e => n4.out e.symm)).trans r3.out)
        have own6 := Lib.hid (own3.out.kept g5.out (own_two own3.out own4.out (by decide)))
        have b6 := b3.trans b5.out
        obtain ⟨a5, c5, rfl, sn5, _, _, _⟩ := own_nodes own5.out
        have I := Lib.hid (index_any (plainN K) (k + 1) (by omega) a5 c5 (plainN K k 0) (plainN K k 1) (plainN K k 2) (fst K k) (Nat.lt_succ_of_le (fst_le K k)) (plain_first hK.out hlt) (plain_before hK.out hlt) w5 sn5)
        rw [q0.out, q1.out, q2.out] at I
        clear g5 b5 own3 own4 b3 r3 n4
        go_wp2_with (first | (refine wpList_load_row rfl 41 _ rfl p rfl 41 #[.int .i64 (K k 0), .int .i64 ((x : Int)), .int .i64 (0)] (0, 0) _ r5.out Tryd.underlying41 rfl sz_node ?_))
        refine I.out.mono ?_
        rintro e w7 ⟨rfl, hb7⟩
        have own7 := Lib.hid (own_onto own6.out hb7)
        have own8 := Lib.hid (own_onto own5.out hb7)
        have b7 := b6.trans (hb7.mono b6.size)
        clear I hb7 own6 own5 b6 r5 sn5
        go_wp2_with (at_builtin; refine wpList_append_num rfl _ _ rfl w.heap.size _ k (fst K) _ rfl rfl w7 own7.out rfl rfl rfl (by omega) b7.size ?_; intro v9 w9 own9 g9 b9)
        have own10 := Lib.hid (own8.out.kept g9.out (own_two own8.out own7.out (by decide)))
        have b10 := b7.trans b9.out
        go_roundw
        case rel => exact ⟨k + 1, by omega, by go_num, own9, own10, b10⟩
        case measure => simp [intOf]; omega
      · have q0 := Lib.hid (plain_op K k)
        have em := made_yes h0
        have q1 := plain_made K k 1 em (by decide)
        have q2 := plain_made K k 2 em (by decide)
        rw [e1, Int.toNat_natCast] at q1
        rw [e2, Int.toNat_natCast] at q2
        replace q1 := Lib.hid q1
        replace q2 := Lib.hid q2
        have b1 := hb.alloc hb.size (.cells #[.int .i64 (K k 0), .int .i64 (x : Int), .int .i64 (y : Int)] 41)
        have al : Below wr.heap.size wr (wr.alloc (.cells #[.int .i64 (K k 0), .int .i64 (x : Int), .int .i64 (y : Int)] 41)) := (Below.refl _ _).alloc (Nat.le_refl _) _
        have r1 := Lib.hid (RowAt.new wr 41 #[.int .i64 (K k 0), .int .i64 (x : Int), .int .i64 (y : Int)])
        have o1 := Lib.hid (own_onto hown.out al)
        have o2 := Lib.hid (own_onto hown'.out al)
        clear al hown hown'
        have M := isMade_any (K k 0) (x : Int) (y : Int) (wr.alloc (.cells #[.int .i64 (K k 0), .int .i64 (x : Int), .int .i64 (y : Int)] 41))
        rw [em] at M
        replace M := Lib.hid M
        clear em
        go_wp2_with (first | (refine wpList_known rfl (at_nodes s1.out hlt rfl rfl rfl rfl _) ?_) | (refine wpList_known rfl (get_node s1.out hlt rfl rfl) ?_))
        refine M.out.mono ?_
        rintro e w2 ⟨rfl, hb2⟩
        have b3 := b1.trans (hb2.mono b1.size)
        have r3 := Lib.hid (r1.out.below hb2 r1.out.lt)
        have own3 := Lib.hid (own_onto o1.out hb2)
        have own4 := Lib.hid (own_onto o2.out hb2)
        clear M hb2 b1 r1 o1 o2 s1
        generalize wr.heap.size = p at *
        obtain ⟨g, c0, rfl, hg, hgl⟩ := own_some own3.out (by omega)
        have gx := own3.out.cells (g := g) rfl x _ (cellL_get k _ x hx)
        have gy := own3.out.cells (g := g) rfl y _ (cellL_get k _ y hy)
        rw [addr_add, Nat.zero_add] at gx gy
        unfold numV at gx gy
        have hgp : g ≠ p := by
          intro e
          subst e
          have h1 := own3.out.2
          rcases h1 with ⟨h1, _⟩ | ⟨g', cap, cur, h1, _, h2, _⟩
          · cases h1
          · cases h1
            have h3 := r3.out
            unfold RowAt at h3
            rw [h3] at h2
            cases h2
        have c1 := cell_of_row w2 p 1 _ _ (0, 0) r3.out
        have c2 := cell_of_row w2 p 2 _ _ (0, 0) r3.out
        have f1 := r3.out.free 1
        have f2 := r3.out.free 2
        have lx : (x : Int) < (k : Int) := by omega
        have ly : (y : Int) < (k : Int) := by omega
        have ap : Apart p w2 (((w2.setCell ⟨p, 1, none⟩ (.int .i64 ((fst K x : Nat) : Int))).setCell ⟨p, 2, none⟩ (.int .i64 ((fst K y : Nat) : Int))).drew) := (((Apart.refl p w2).setCell r3.out _).setCell (r3.out.set 1 _) _).drew
        have r4 : Hid (RowAt (((w2.setCell ⟨p, 1, none⟩ (.int .i64 ((fst K x : Nat) : Int))).setCell ⟨p, 2, none⟩ (.int .i64 ((fst K y : Nat) : Int))).drew) p 41 #[.int .i64 (K k 0), .int .i64 ((fst K x : Nat) : Int), .int .i64 ((fst K y : Nat) : Int)]) := (r3.out.set 1 _).set 2 _
        have own3' := Lib.hid (own_apart own3.out ap (fun e => hgp (by simpa [Value.ownBlock] using e)))
        have own4' := Lib.hid (own_apart own4.out ap n1.out)
        have b3' := b3.trans (ap.under hpl.out b3.size)
        replace ap := Lib.hid ap
        clear own3 own4 b3 r3
        go_wp2_with fail
        go_big_region
        clear ap gx gy hgp c1 c2 f1 f2 lx ly
        have own3 := own3'
        have own4 := own4'
        have b3 := b3'
        have r3 := r4
        clear own3' own4' b3' r4
        have n4 := n1
        generalize World.drew _ = w3 at *
        go_wp2_with (first | (refine wpList_load_row rfl 41 _ rfl p rfl 41 #[.int .i64 (K k 0), .int .i64 (((fst K x : Nat) : Int)), .int .i64 (((fst K y : Nat) : Int))] (0, 0) _ r3.out Tryd.underlying41 rfl sz_node ?_) | (at_builtin; refine wpList_append_node rfl _ _ rfl w.heap.size _ k (plainN K) _ _ _ q0.out.symm q1.out.symm q2.out.symm rfl w3 own4.out rfl rfl rfl (by omega) b3.size ?_; intro v5 w5 own5 g5 b5; refine Hid.out ?_))
        unfold Hid
        have r5 := Lib.hid ((g5.out.block p r3.out.lt (fun e => n4.out e.symm)).trans r3.out)
        have own6 := Lib.hid (own3.out.kept g5.out (own_two own3.out own4.out (by decide)))
        have b6 := b3.trans b5.out
        obtain ⟨a5, c5, rfl, sn5, _, _, _⟩ := own_nodes own5.out
        have I := Lib.hid (index_any (plainN K) (k + 1) (by omega) a5 c5 (plainN K k 0) (plainN K k 1) (plainN K k 2) (fst K k) (Nat.lt_succ_of_le (fst_le K k)) (plain_first hK.out hlt) (plain_before hK.out hlt) w5 sn5)
        rw [q0.out, q1.out, q2.out] at I
        clear g5 b5 own3 own4 b3 r3 n4
        go_wp2_with (first | (refine wpList_load_row rfl 41 _ rfl p rfl 41 #[.int .i64 (K k 0), .int .i64 (((fst K x : Nat) : Int)), .int .i64 (((fst K y : Nat) : Int))] (0, 0) _ r5.out Tryd.underlying41 rfl sz_node ?_))
        refine I.out.mono ?_
        rintro e w7 ⟨rfl, hb7⟩
        have own7 := Lib.hid (own_onto own6.out hb7)
        have own8 := Lib.hid (own_onto own5.out hb7)
        have b7 := b6.trans (hb7.mono b6.size)
        clear I hb7 own6 own5 b6 r5 sn5
        go_wp2_with (at_builtin; refine wpList_append_num rfl _ _ rfl w.heap.size _ k (fst K) _ rfl rfl w7 own7.out rfl rfl rfl (by omega) b7.size ?_; intro v9 w9 own9 g9 b9)
        have own10 := Lib.hid (own8.out.kept g9.out (own_two own8.out own7.out (by decide)))
        have b10 := b7.trans b9.out
        go_roundw
        case rel => exact ⟨k + 1, by omega, by go_num, own9, own10, b10⟩
        case measure => simp [intOf]; omega
    · have lk : ¬ (k : Int) < (n : Int) := by omega
      have ek : k = n := by omega
      subst ek
      go_wp2
      go_ret
      exact ⟨_, rfl, hown, hb⟩

end Go.Proofs.YtlfgiggeeoegjaaDoor
