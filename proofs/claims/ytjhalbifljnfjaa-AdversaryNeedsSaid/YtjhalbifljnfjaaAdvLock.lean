/-
  The walk of AdversaryLock.
-/
import Derived.Test.YtjhalbifljnfjaaAdvLockMath
import Derived.Test.YtjhalbifljnfjaaAdvStep
import Derived.Test.YtjhalbifljnfjaaAdvChain
namespace Go.Proofs.Ytjhalbifljnfjaa
open Go.RowKit
set_option linter.unusedVariables false

section
variable {P : Program} {S T : TypeId} {ops : Array Oper} {rest : List Oper} {o : Oper} {a : Act} {w : World} {Q : Exit → Act → World → Prop}
/-- Several things appended to a row that the call owns. -/
theorem wpList_append_csm (hu : P.underlying S = some (.slice T)) {z : Value} {size bytes : Nat} (hi : (P.info? T).map (fun i => (i.zero, i.size, i.bytes)) = some (some z, size, bytes)) (hzs : z.cells.size = size) (hsz : 0 < size) (hby : bytes ≤ 24)
    (hgd : o.guard = none) (s x : Operand) (ho : o.op = .call { callee := .builtin .append, args := #[s, x], argTypes := #[S, S] }) (base : Nat) (v : Value) (n m : Nat) (xs cs : List Value) (hs : a.eval s = v) (w0 : World) (hown : w0.ownsRow base T size v n xs)
    (hw : w = w0.alloc (.cells cs.toArray T)) {g c : Nat} (hx : a.eval x = .slice (some ⟨g, 0, none⟩) m c) (hgs : g = w0.heap.size) (hl : cs.length = m * size) (h1 : ∀ u ∈ cs, u.oneCell' = true) (hn : n + m ≤ 1000000) (hbase : base ≤ w0.heap.size)
    (h : ∀ v' w', Hid (w'.ownsRow base T size v' (n + m) (xs ++ cs)) → Hid (w0.grownBy w' v.ownBlock) → Hid (Below base w0 w') → wpList P ops Q rest (a.put o.dst v') w') : wpList P ops Q (o :: rest) a w := by
  obtain ⟨i0, hi0, hz0, hz1, hz2⟩ := info_parts hi
  subst hw
  subst hgs
  refine wpList_append_own _ hgd s x S ho base T i0 z size bytes hu hi0 hz0 hz1 hz2 hzs hsz v n xs hs (hown.alloc _) ⟨w0.heap.size, 0, none⟩ m c cs hx hl (new_cells w0 cs T) h1 (by unfold maxLen; omega) ?_ (by simp; omega) ?_
  · have : (n + m) * bytes ≤ 1000001 * 24 := Nat.mul_le_mul (by omega) hby
    omega
  · intro v' w' h2 h3 _
    have g := (World.grownBy_alloc w0 (.cells cs.toArray T) v.ownBlock).trans h3
    exact h v' w' h2 g ((Below.refl base w0).grown g hbase (fun g hg => (hown.lt g hg).1))
end

/-- One number appended: the row that it is appended to stays as it was. -/
theorem append_keep_z (w : World) (B m q : Nat) (v : Value) (f : Nat → Int) (z : Int) (ty : TypeId) (hown : w.ownsRow B 3 1 v m (cellL m (intV f))) (hq : RowAt w q 3 #[.int .i64 z]) (hm : m ≤ 1000000) (hB : B ≤ w.heap.size) :
    ∃ v' w', (Builtin.append_ #[23, 23] ty #[v, .slice (some ⟨q, 0, none⟩) 1 1]).run Try.prog w = .ok v' w' ∧ w'.ownsRow B 3 1 v' (m + 1) (cellL (m + 1) (intV (snocF f m z))) ∧ w'.ownsRow B 3 1 v m (cellL m (intV f)) ∧ w.grownBy w' v.ownBlock := by
  obtain ⟨i0, hi, hz0, hz1, hz2⟩ := info_parts Try.infoInt
  have hnews : ∀ j u, [Value.int .i64 z][j]? = some u → w.cell? ((⟨q, 0, none⟩ : Addr).add j) = some u := by
    intro j u hj
    rw [addr_add, Nat.zero_add, cell_of_row w q j #[.int .i64 z] _ (0, 0) hq]
    simpa using hj
  have h1 : ∀ u ∈ [Value.int .i64 z], u.oneCell' = true := fun u hu => by simp at hu; subst hu; rfl
  obtain ⟨v', w', hr, h2, h3, _⟩ := run_append_own (P := Try.prog) w B 23 ty 3 i0 (.int .i64 0) 1 8 Try.underlying23 hi hz0 hz1 hz2 rfl (by decide) v m (cellL m (intV f)) hown ⟨q, 0, none⟩ 1 1 [.int .i64 z] rfl hnews h1 (by unfold maxLen; omega) (by omega) hB
  rw [cellZ_snoc] at h2
  refine ⟨v', w', hr, h2, ?_, h3⟩
  rcases hown.2 with ⟨rfl, rfl⟩ | ⟨g, cap, cur, rfl, hg, hrow, hc, hcm, hcs, htake⟩
  · exact World.ownsRow_nil _ _ _ _
  · by_cases hroom : m + 1 ≤ cap
    · have hr2 := run_append_room (P := Try.prog) w 23 ty 3 i0 Try.underlying23 hi g m cap cur hrow ⟨q, 0, none⟩ 1 1 [.int .i64 z] (by rw [hz1]; rfl) hnews h1 hroom (by rw [hz1]; simp; omega)
      rw [hr] at hr2
      cases hr2
      rw [hz1] at *
      refine ⟨hown.1, .inr ⟨g, cap, _, rfl, hg, setRow_heap w g cur _ _ _ hrow, hc, hcm, ?_, ?_⟩⟩
      · simp; omega
      · have e1 : (List.take (m * 1) cur.toList).length = m * 1 := by simp; omega
        show ((List.take (m * 1) cur.toList ++ [Value.int .i64 z]) ++ List.drop (m * 1 + 1) cur.toList).take (m * 1) = cellL m (intV f)
        rw [List.append_assoc, List.take_append_of_le_length (by omega), List.take_of_length_le (by omega), htake]
    · have hr2 := run_append_grow (P := Try.prog) w 23 ty 3 i0 (.int .i64 0) Try.underlying23 hi hz0 ⟨g, 0, none⟩ m cap (cellL m (intV f)) (by rw [hz1]; exact hown.1) (hown.cells (g := g) rfl) ⟨q, 0, none⟩ 1 1 [.int .i64 z] (by rw [hz1]; rfl) hnews (by omega) (by omega) (growslice_fits (by omega) (by rw [hz2]; omega))
      rw [hr] at hr2
      cases hr2
      exact World.ownsRow.alloc (w := w.drew) hown _
theorem wpList_keep_F {ops : Array Oper} {rest : List Oper} {o : Oper} {a : Act} {w : World} {Q : Exit → Act → World → Prop} (hgd : o.guard = none) (s x : Operand)
    (ho : o.op = .call { callee := .builtin .append, args := #[s, x], argTypes := #[23, 23] }) (base : Nat) (v : Value) (k : Nat) (f : Nat → Int) (z : Int) (hs : a.eval s = v) (w0 : World) (hown : w0.ownsRow base 3 1 v k (cellL k (intV f)))
    (hw : w = w0.alloc (.cells #[.int .i64 z] 3)) {g : Nat} (hx : a.eval x = .slice (some ⟨g, 0, none⟩) 1 1) (hgs : g = w0.heap.size) (hn : k ≤ 1000000) (hbase : base ≤ w0.heap.size)
    (h : ∀ v' w', Hid (w'.ownsRow base 3 1 v' (k + 1) (cellL (k + 1) (intV (snocF f k z)))) → Hid (w'.ownsRow base 3 1 v k (cellL k (intV f))) → Hid (w0.grownBy w' v.ownBlock) → Hid (Below base w0 w') → wpList Try.prog ops Q rest (a.put o.dst v') w') : wpList Try.prog ops Q (o :: rest) a w := by
  subst hw hgs
  refine wpList_plain hgd fun K hK => ?_
  obtain ⟨v', w', hr, h2, h3, h4⟩ := append_keep_z (w0.alloc (.cells #[.int .i64 z] 3)) base k w0.heap.size v f z o.type (hown.alloc _) (RowAt.new w0 _ _) hn (by simp; omega)
  unfold Oper.wp execOp
  simp only [ho, resolve, invoke, builtin, Sem.run_bind, Sem.run_pure, Result.andThen_ok, List.map_toArray, List.map_cons, List.map_nil, hs, hx, hr]
  have g := (World.grownBy_alloc w0 (.cells #[.int .i64 z] 3) v.ownBlock).trans h4
  exact hK _ _ (h v' w' h2 h3 g ((Below.refl base w0).grown g hbase (fun g hg => (hown.lt g hg).1)))

theorem at_u16s {w0 : World} {ad : Option Addr} {n c i : Nat} {F : Nat → Value} (h : SeesV w0 ad n F) (hi : i < n) {o : Oper} {a : Act} {x y : Operand} (ho : o.op = .indexAddr 40 x y) (hx : a.eval x = .slice ad n c) {z : Int} (hy : a.eval y = .int .i64 z) (hz : z = (i : Int)) (w : World) :
    (execOp a.eval o).run Try.prog w = .ok (.value (.pointer (some (elV ad i)))) w := by
  have := run_index_v Try.underlying40 (by kernel_rfl) (T := 39) (by kernel_rfl) (k := 1) (n := n) (by rw [Nat.mul_one]; exact h) (by decide) hi ho hx hy hz w
  rwa [Nat.mul_one] at this
theorem get_u16 {w : World} {ad : Option Addr} {m : Nat} {z : Int} (hc : w.cell? (elV ad m) = some (.int .u16 z)) {o : Oper} {a : Act} {x : Operand} (ho : o.op = .load 39 x) (hx : a.eval x = .pointer (some (elV ad m))) :
    (execOp a.eval o).run Try.prog w = .ok (.value (.int .u16 z)) w := run_load_one hc Try.underlying39 rfl ho hx
/-- The three nodes that it begins with. -/
theorem own_lock0 (w : World) (B : Nat) (hB : B ≤ w.heap.size) (k a : Nat) : (w.alloc (.cells #[.int .i64 1, .int .i64 (k : Int), .int .i64 0, .int .i64 0, .int .i64 (a : Int), .int .i64 0, .int .i64 3, .int .i64 0, .int .i64 1] 42)).ownsRow B 42 3 (.slice (some ⟨w.heap.size, 0, none⟩) 3 3) (3 + 3 * 0) (cellL ((3 + 3 * 0) * 3) (flatN (lock0 k a))) :=
  ⟨rfl, .inr ⟨w.heap.size, 3, _, rfl, hB, RowAt.new w _ _, Nat.le_refl _, by decide, rfl, rfl⟩⟩
theorem own_lock1 (w : World) (B : Nat) (hB : B ≤ w.heap.size) : (w.alloc (.cells #[.int .i64 2] 3)).ownsRow B 3 1 (.slice (some ⟨w.heap.size, 0, none⟩) 1 1) (1 + 3 * 0) (cellL (1 + 3 * 0) (intV lockF)) :=
  ⟨rfl, .inr ⟨w.heap.size, 1, _, rfl, hB, RowAt.new w _ _, Nat.le_refl _, by decide, rfl, rfl⟩⟩
theorem lockF_cells (t : Nat) : cellL (1 + 3 * t) (intV lockF) ++ [.int .i64 ((3 + 3 * t : Nat) : Int), .int .i64 (((3 + 3 * t : Nat) : Int) + 1), .int .i64 (((3 + 3 * t : Nat) : Int) + 2)] = cellL (1 + 3 * (t + 1)) (intV lockF) := by
  rw [show 1 + 3 * (t + 1) = 1 + 3 * t + 1 + 1 + 1 by omega, ← cellL_succ, ← cellL_succ, ← cellL_succ, List.append_assoc, List.append_assoc]
  congr 1
  unfold intV lockF
  show _ = [_, _, _]
  congr 1
  · congr 1; omega
  · congr 1
    · congr 1; omega
    · congr 1
      congr 1; omega

set_option maxHeartbeats 8000000 in
set_option maxRecDepth 8000 in
theorem lock_walk (k a : Nat) (hk : k < 65536) (ha : a < 65536) (ao : Option Addr) (m c : Nat) (x : Nat → Nat) (w : World) (hx : Hid (Came16 w ao m c x)) :
    Calls Try.prog 5 #[.int .u16 (k : Int), .int .u16 (a : Int), .slice ao m c] w fun e w' => e = .returned (.bool true) ∧ Below w.heap.size w w' := by
  have S := Lib.hid (shown9_any w)
  by_cases h40 : 40 < m
  · have l0 : (40 : Int) < (m : Int) := by omega
    go_enter Try.func5, Try.ntmps5
    go_wp2_with fail
    refine S.out.mono ?_
    rintro e w1 ⟨rfl, hb1⟩
    go_wp2
    go_ret
    exact ⟨rfl, hb1⟩
  have l0 : ¬ (40 : Int) < (m : Int) := by omega
  have hm40 : m ≤ 40 := by omega
  clear h40
  go_enter Try.func5, Try.ntmps5
  go_wp2_with fail
  refine S.out.mono ?_
  rintro e w1 ⟨rfl, hb1⟩
  have o0 := Lib.hid (own_lock0 w1 w.heap.size hb1.size k a)
  have sw := Lib.hid hx.out.1
  have xl := Lib.hid hx.out.2
  have b0 := hb1.alloc hb1.size (.cells #[.int .i64 1, .int .i64 (k : Int), .int .i64 0, .int .i64 0, .int .i64 (a : Int), .int .i64 0, .int .i64 3, .int .i64 0, .int .i64 1] 42)
  have al := (Below.refl w1.heap.size w1).alloc (Nat.le_refl _) (.cells #[.int .i64 1, .int .i64 (k : Int), .int .i64 0, .int .i64 0, .int .i64 (a : Int), .int .i64 0, .int .i64 3, .int .i64 0, .int .i64 1] 42)
  have z1 : (w1.alloc (.cells #[.int .i64 1, .int .i64 (k : Int), .int .i64 0, .int .i64 0, .int .i64 (a : Int), .int .i64 0, .int .i64 3, .int .i64 0, .int .i64 1] 42)).heap.size = w1.heap.size + 1 := by simp
  clear S hx hb1 al l0
  go_wp2
  have o1 := Lib.hid (own_lock1 (w1.alloc (.cells #[.int .i64 1, .int .i64 (k : Int), .int .i64 0, .int .i64 0, .int .i64 (a : Int), .int .i64 0, .int .i64 3, .int .i64 0, .int .i64 1] 42)) w.heap.size b0.size)
  rw [z1] at o1
  generalize w1.alloc (.cells #[.int .i64 1, .int .i64 (k : Int), .int .i64 0, .int .i64 0, .int .i64 (a : Int), .int .i64 0, .int .i64 3, .int .i64 0, .int .i64 1] 42) = w2 at *
  have al2 := (Below.refl w2.heap.size w2).alloc (Nat.le_refl _) (.cells #[.int .i64 2] 3)
  have o0' := Lib.hid (own_onto o0.out al2)
  have b1 := b0.trans (al2.mono b0.size)
  clear o0 al2 b0
  generalize w2.alloc (.cells #[.int .i64 2] 3) = w3 at *
  generalize w1.heap.size + 1 = g1 at *
  generalize w1.heap.size = g0 at *
  clear z1
  go_loopg [9, 10, 11, 12, 13] m (fun g v9 v10 v11 v12 v13 wr => ∃ (i t : Nat) (K : Nds), i + g = m ∧ t ≤ i ∧ v11 = .int .i64 (i : Int) ∧ Hid (LockP k a K t) ∧ Hid (wr.ownsRow w.heap.size 42 3 v9 (3 + 3 * t) (cellL ((3 + 3 * t) * 3) (flatN K))) ∧ Hid (wr.ownsRow w.heap.size 3 1 v10 (1 + 3 * t) (cellL (1 + 3 * t) (intV lockF))) ∧ Below w.heap.size w wr)
  case atStart => exact ⟨0, 0, lock0 k a, by omega, Nat.le_refl _, rfl, lock_none k a, o0', o1, b1⟩
  case round =>
    clear o0' o1 b1
    obtain ⟨i, t, K, hi, hti, rfl, hP, own9, own10, hb⟩ := hrel
    by_cases hlt : i < m
    · have li : (i : Int) < (m : Int) := by omega
      have sx := Lib.hid (sw.out.after hb)
      have gx := Lib.hid (SeesV.cell sx.out hlt)
      unfold numV16 at gx
      have hn := xl.out i
      obtain ⟨n, en⟩ : ∃ n, x i = n := ⟨_, rfl⟩
      rw [en] at gx hn
      clear en
      by_cases hnk : n = k
      · subst hnk
        have e1 : ((n : Int) == (n : Int)) = true := by simp
        go_wp2_with (first | (refine wpList_known rfl (at_u16s sx.out hlt rfl rfl rfl rfl _) ?_) | (refine wpList_known rfl (get_u16 gx.out rfl rfl) ?_))
        go_roundg (m - (i + 1))
        case measure => omega
        case rel => exact ⟨i + 1, t, K, by omega, by omega, by go_num, hP, own9, own10, hb⟩
      · have nk : ¬ (n : Int) = (k : Int) := by omega
        by_cases hna : n = a
        · subst hna
          have e1 : ((n : Int) == (n : Int)) = true := by simp
          go_wp2_with (first | (refine wpList_known rfl (at_u16s sx.out hlt rfl rfl rfl rfl _) ?_) | (refine wpList_known rfl (get_u16 gx.out rfl rfl) ?_))
          go_roundg (m - (i + 1))
          case measure => omega
          case rel => exact ⟨i + 1, t, K, by omega, by omega, by go_num, hP, own9, own10, hb⟩
        · have na : ¬ (n : Int) = (a : Int) := by omega
          obtain ⟨q, hq⟩ : ∃ q, 3 + 3 * t = q := ⟨_, rfl⟩
          have hcs := Lib.hid (lock_cells K t n)
          have hcz := Lib.hid (lockF_cells t)
          have hP2 := Lib.hid (lock_more hP.out hn hnk hna)
          have hq1 : q ≤ 1000 := by omega
          have hq2 : 1 + 3 * t ≤ 1000 := by omega
          rw [hq] at own9 hcs hcz
          obtain ⟨a9, c9, rfl⟩ := own_none9 own9.out
          have f1 : ((n : Int) == (k : Int)) = false := by simpa using nk
          have f2 : ((n : Int) == (a : Int)) = false := by simpa using na
          have f3 : decide ((n : Int) = (k : Int)) = false := by simpa using nk
          have f4 : decide ((n : Int) = (a : Int)) = false := by simpa using na
          replace hq := Lib.hid hq
          clear hnk hna hP
          go_wp2_with (first | (refine wpList_known rfl (at_u16s sx.out hlt rfl rfl rfl rfl _) ?_) | (refine wpList_known rfl (get_u16 gx.out rfl rfl) ?_) | (at_builtin; refine wpList_append_csm Try.underlying22 Try.infoNode rfl (by decide) (by decide) rfl _ _ rfl w.heap.size _ q 3 _ [.int .i64 1, .int .i64 (n : Int), .int .i64 0, .int .i64 0, .int .i64 (n : Int), .int .i64 0, .int .i64 3, .int .i64 (q : Int), .int .i64 2] rfl wr own9.out rfl rfl rfl rfl (fun u hu => by simp at hu; rcases hu with rfl | rfl | rfl | rfl | rfl | rfl | rfl | rfl | rfl <;> rfl) (by omega) hb.size ?_; intro v5 w5 own5 g5 b5; refine Hid.out ?_))
          unfold Hid
          rw [hcs.out] at own5
          have own10' := Lib.hid (own10.out.kept g5.out (own_two own10.out own9.out (by decide)))
          have b6 := hb.trans b5.out
          have w1' : IntKind.i64.wrap ((q : Int) + 1) = (q : Int) + 1 := IntWalk.i64_in _ (by omega)
          have w2' : IntKind.i64.wrap ((q : Int) + 2) = (q : Int) + 2 := IntWalk.i64_in _ (by omega)
          have eq3 : q + 3 = 3 + 3 * (t + 1) := by have := hq.out; omega
          rw [eq3] at own5
          clear own9 own10 hb g5 b5 gx sx eq3
          go_wp2_with (first | (at_builtin; refine wpList_append_csm Try.underlying23 Try.infoInt rfl (by decide) (by decide) rfl _ _ rfl w.heap.size _ (1 + 3 * t) 3 _ [.int .i64 (q : Int), .int .i64 ((q : Int) + 1), .int .i64 ((q : Int) + 2)] rfl w5 own10'.out rfl rfl rfl rfl (fun u hu => by simp at hu; rcases hu with rfl | rfl | rfl <;> rfl) (by omega) b6.size ?_; intro v7 w7 own7 g7 b7; refine Hid.out ?_))
          unfold Hid
          rw [hcz.out, show 1 + 3 * t + 3 = 1 + 3 * (t + 1) by omega] at own7
          have own8 := Lib.hid (own5.out.kept g7.out (own_two own5.out own10'.out (by decide)))
          have b8 := b6.trans b7.out
          clear own10' own5 g7 b7 b6 hcs hcz
          go_wp2
          go_roundg (m - (i + 1))
          case measure => omega
          case rel => exact ⟨i + 1, t + 1, _, by omega, by omega, by go_num, hP2, own8, own7, b8⟩
    · have li : ¬ (i : Int) < (m : Int) := by omega
      have ht : t ≤ 40 := by omega
      have hS : ∀ q, q < 3 + 3 * t → (inZ lockF (1 + 3 * t) q ↔ 2 ≤ q) := fun q hq => (lock_in t q).trans ⟨fun h => h.1, fun h => ⟨h, hq⟩⟩
      have hSn : ∀ q, inZ (snocF lockF (1 + 3 * t) 0) (1 + 3 * t + 1) q ↔ inZ lockF (1 + 3 * t) q ∨ q = 0 := fun q => inZ_snoc lockF (1 + 3 * t) 0 q
      have hmay := lock_may hP.out hk ha ht
      have hno := lock_can hP.out hk ha (S := inZ lockF (1 + 3 * t)) fun q hq h => (hS q hq).1 h
      have hyes := lock_open hP.out (S := inZ (snocF lockF (1 + 3 * t) 0) (1 + 3 * t + 1)) ((hSn 0).2 (.inr rfl)) ((hSn 2).2 (.inl ((hS 2 (by omega)).2 (Nat.le_refl _))))
      have hNd := Lib.hid (lock_needs hP.out hk ha ht hS)
      obtain ⟨q, hq⟩ : ∃ q, 3 + 3 * t = q := ⟨_, rfl⟩
      obtain ⟨r, hr⟩ : ∃ r, 1 + 3 * t = r := ⟨_, rfl⟩
      rw [hq, hr] at hno hyes hNd
      rw [hq] at hmay own9
      rw [hr] at own10
      have hr6 : r ≤ 1000 := by omega
      have hc0 : Hid (canB K q (inZ lockF r) 0 = false) := by unfold Hid canB; rw [show (0 : Int).toNat = 0 from rfl, hno.1]; simp
      have hc1 : Hid (canB K q (inZ lockF r) 1 = false) := by unfold Hid canB; rw [show (1 : Int).toNat = 1 from rfl, hno.2]; simp
      have hc2 : Hid (canB K q (inZ (snocF lockF r 0) (r + 1)) 1 = true) := by
        unfold Hid canB
        rw [show (1 : Int).toNat = 1 from rfl, hyes, hmay]
        unfold inB
        simp
        omega
      obtain ⟨aL, cL, rfl, sL, hcL, _, _⟩ := own_nodes own9.out
      replace sL := Lib.hid sL
      obtain ⟨aK, cK, eK, sK, _⟩ := own_F_see own10.out
      subst eK
      have C1 := advCan_any K q aL aK cL r cK hcL (by omega) lockF 1 wr sL sK
      rw [hc1.out] at C1
      replace C1 := Lib.hid C1
      clear hS hSn hno hyes hmay hP hc1 sK hq hr hi hti hlt sw xl
      go_wp2_with fail
      refine C1.out.mono ?_
      rintro e w5 ⟨rfl, hb5⟩
      have b5 := hb.trans (hb5.mono hb.size)
      have own5 := Lib.hid (own_onto own10.out hb5)
      have sL5 := Lib.hid (sL.out.after hb5)
      have ownL5 := Lib.hid (own_onto own9.out hb5)
      clear C1 own10 sL hb hb5 own9
      obtain ⟨aK', cK', eK, sK5, _⟩ := own_F_see own5.out
      cases eK
      have C0 := advCan_any K q aL aK cL r cK hcL (by omega) lockF 0 w5 sL5 sK5
      rw [hc0.out] at C0
      replace C0 := Lib.hid C0
      clear hc0 sK5
      go_wp2_with fail
      refine C0.out.mono ?_
      rintro e w6 ⟨rfl, hb6⟩
      have b6 := b5.trans (hb6.mono b5.size)
      have own6 := Lib.hid (own_onto own5.out hb6)
      have sL6 := Lib.hid (sL5.out.after hb6)
      have ownL6 := Lib.hid (own_onto ownL5.out hb6)
      clear C0 own5 sL5 b5 hb6 ownL5
      go_wp2_with (first | (at_builtin; refine wpList_unguard rfl ?_; refine wpList_keep_F rfl _ _ rfl w.heap.size _ r lockF 0 rfl w6 own6.out rfl rfl rfl (by omega) b6.size ?_; intro v7 w7 own7 own8 g7 b7; refine Hid.out ?_))
      unfold Hid
      have ownL7 := Lib.hid (ownL6.out.kept g7.out (own_two ownL6.out own6.out (by decide)))
      obtain ⟨aL', cL', eL, sL7, _, _, _⟩ := own_nodes ownL7.out
      cases eL
      replace sL7 := Lib.hid sL7
      obtain ⟨aX, cX, rfl, sX, _⟩ := own_F_see own7.out
      have b8 := b6.trans b7.out
      have C2 := advCan_any K q aL aX cL (r + 1) cX hcL (by omega) (snocF lockF r 0) 1 w7 sL7 sX
      rw [hc2.out] at C2
      replace C2 := Lib.hid C2
      clear ownL6 own6 own7 g7 b7 b6 sX hc2 ownL7
      go_wp2_with fail
      refine C2.out.mono ?_
      rintro e w9 ⟨rfl, hb9⟩
      have b9 := b8.trans (hb9.mono b8.size)
      have own9 := Lib.hid (own_onto own8.out hb9)
      have sL9 := Lib.hid (sL7.out.after hb9)
      clear C2 own8 sL7 b8 hb9
      obtain ⟨aK', cK', eK, sK9, _⟩ := own_F_see own9.out
      cases eK
      have Nd := advNeeds_any K q aL aK cL r cK hcL (by omega) lockF 1 w9 sL9 sK9
      rw [hNd.out] at Nd
      replace Nd := Lib.hid Nd
      clear own9 sL9 sK9 hNd
      go_wp2_with fail
      refine Nd.out.mono ?_
      rintro e w10 ⟨v10, rfl, own10, hb10⟩
      obtain ⟨aN, cN, rfl, sN⟩ := own_zs_see own10.out
      have b10 := b9.trans (hb10.mono b9.size)
      have al := (Below.refl w10.heap.size w10).alloc (Nat.le_refl _) (.cells #[.int .i64 (k : Int)] 3)
      have sN' : Hid (SeesZ (w10.alloc (.cells #[.int .i64 (k : Int)] 3)) aN 1 (fun _ => (k : Int))) := (SeesV.after sN al).congr fun i hi => by
        obtain rfl : i = 0 := by simp at hi; omega
        rfl
      have Z := Lib.hid (sameZ_any 1 (by decide) (fun _ => (k : Int)) aN (some ⟨w10.heap.size, 0, none⟩) cN 1 _ sN' (sees_z1 w10 (k : Int)))
      have b11 := b10.trans (al.mono b10.size)
      clear Nd own10 sN hb10 sN' al b10 b9
      go_wp2_with fail
      refine Z.out.mono ?_
      rintro e w12 ⟨rfl, hb12⟩
      have b12 := b11.trans (hb12.mono b11.size)
      clear Z hb12 b11
      go_wp2
      go_ret
      exact ⟨rfl, b12⟩

theorem walk_AdversaryLock (k : Int) (h0 : (Lit.int .u16 k).wf = true) (a : Int) (h1 : (Lit.int .u16 a).wf = true) (ao : Option Addr) (m c : Nat) (x : Nat → Nat) (w : World) (hx : Came16 w ao m c x) :
    Calls Try.prog 5 #[.int .u16 k, .int .u16 a, .slice ao m c] w fun e w' => e = .returned (.bool true) ∧ Below w.heap.size w w' := by
  obtain ⟨_, _⟩ := wf_u16 h0
  obtain ⟨_, _⟩ := wf_u16 h1
  have := lock_walk k.toNat a.toNat (by omega) (by omega) ao m c x w hx
  rw [Int.toNat_of_nonneg (by omega), Int.toNat_of_nonneg (by omega)] at this
  exact this

end Go.Proofs.Ytjhalbifljnfjaa
