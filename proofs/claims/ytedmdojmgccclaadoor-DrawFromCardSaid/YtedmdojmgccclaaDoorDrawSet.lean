/-
  Contract: Distinct, by a set of keys.
-/
import Derived.Test.YtedmdojmgccclaaDoorDrawSame
import Derived.Maps.Own
import Derived.Maps.OwnSet
import Derived.WideKeyArr
namespace Go.Proofs.YtedmdojmgccclaaDoor
open Go.RowKit Go.Maps Go.WideMaps

theorem arrKey : ArrKey Tryd.prog 27 5 16 := ⟨Tryd.underlying27, by kernel_rfl, by kernel_rfl, by kernel_rfl⟩
theorem lawKey : Keyed Tryd.prog 27 := Keyed.of_law arrKey.law

theorem mapM_some {α β : Type} (f : α → Option β) : ∀ l : List α, (∀ x ∈ l, ∃ y, f x = some y) → ∃ ys, l.mapM f = some ys
  | [], _ => ⟨[], rfl⟩
  | x :: r, h => by
    obtain ⟨y, hy⟩ := h x (List.mem_cons_self ..)
    obtain ⟨ys, hys⟩ := mapM_some f r fun z hz => h z (List.mem_cons_of_mem _ hz)
    exact ⟨y :: ys, by rw [List.mapM_cons, hy, hys]; rfl⟩

theorem wf_byte {n : Nat} (h : n < 256) : (Lit.int .u8 (n : Int)).wf = true := by
  simp [Lit.wf, IntKind.min, IntKind.max, IntKind.signed, IntKind.bits]
  omega

theorem types_pos : ∃ m, Tryd.prog.types.size = m + 1 := ⟨Tryd.prog.types.size - 1, by
  have : 0 < Tryd.prog.types.size := of_decide_eq_true (by kernel_rfl)
  omega⟩

/-- What a key reads as. -/
noncomputable def litK (f : Nat → Nat) : Lit := (keyOf Tryd.prog 27 (.agg (rowOf 16 (w8 f)))).getD (.bool false)

theorem keyOf_key (f : Nat → Nat) (hf : ∀ j, f j < 256) : keyOf Tryd.prog 27 (.agg (rowOf 16 (w8 f))) = some (litK f) := by
  have h : ∃ l, keyOf Tryd.prog 27 (.agg (rowOf 16 (w8 f))) = some l := by
    have hkt := arrKey.keyType types_pos
    obtain ⟨m, hm⟩ := types_pos
    have A := arrKey
    unfold keyOf
    simp only [A.hu]
    rw [if_pos (by simp [hkt, Value.formed, A.hu, A.size, rowOf_size]), hm]
    unfold Program.keyLits
    simp only [A.hu, Value.cells]
    rw [if_pos (by rw [A.size, Array.length_toList, rowOf_size])]
    obtain ⟨ys, hys⟩ := mapM_some (fun i => Tryd.prog.keyLits (m + 1) 5 (((rowOf 16 (w8 f)).toList.drop (i * Tryd.prog.cellsOf 5)).take (Tryd.prog.cellsOf 5))) (List.range 16) (fun i hi => by
      have hi' : i < 16 := by simpa using hi
      rw [A.one, Nat.mul_one]
      have e : ((rowOf 16 (w8 f)).toList.drop i).take 1 = [.int .u8 (f i : Nat)] := by
        unfold rowOf
        apply List.ext_getElem
        · simp; omega
        · intro j h1 h2
          have : j = 0 := by simp at h2; omega
          subst this
          simp [w8]
      rw [e]
      exact ⟨[.int .u8 (f i : Nat)], by unfold Program.keyLits; simp only [Tryd.underlying5]; simp [wf_byte (hf i)]⟩)
    rw [hys]
    exact ⟨_, rfl⟩
  obtain ⟨l, hl⟩ := h
  unfold litK
  rw [hl]
  rfl

theorem litK_key (f : Nat → Nat) (hf : ∀ j, f j < 256) : WideAt.IsKeyLit (litK f) := lawKey.key (keyOf_key f hf)

theorem litK_same (f g : Nat → Nat) (hf : ∀ j, f j < 256) (hg : ∀ j, g j < 256) : litK f = litK g ↔ sameK f g = true := by
  constructor
  · intro h
    have h1 := keyOf_key f hf
    rw [h] at h1
    have h2 := lawKey.inj h1 (keyOf_key g hg)
    have h3 : rowOf 16 (w8 f) = rowOf 16 (w8 g) := by simpa using h2
    refine sameK_of fun j hj => ?_
    have e1 := rowOf_get 16 (w8 f) j hj
    rw [h3, rowOf_get 16 (w8 g) j hj] at e1
    have e2 := Option.some.inj e1
    unfold w8 at e2
    simp at e2
    omega
  · intro h
    have h1 := (sameK_iff f g).1 h
    unfold litK
    rw [show rowOf 16 (w8 f) = rowOf 16 (w8 g) from rowOf_congr fun j hj => by unfold w8; rw [h1 j hj]]

/-- What the first n keys read as. -/
noncomputable def keysK (n : Nat) (K : Nat → Nat → Nat) : List Lit := (List.range n).map fun i => litK (K i)

theorem keysK_succ (n : Nat) (K : Nat → Nat → Nat) : keysK (n + 1) K = keysK n K ++ [litK (K n)] := by
  unfold keysK
  rw [List.range_succ, List.map_append]
  rfl

theorem addKey_old {acc : List Lit} {x : Lit} (hx : WideAt.IsKeyLit x) (h : x ∈ acc) : addKey acc x = acc := by
  unfold addKey
  rw [if_pos]
  exact List.any_eq_true.2 ⟨x, h, WideAt.sameKey_self hx⟩
theorem addKey_new {acc : List Lit} {x : Lit} (h : x ∉ acc) : addKey acc x = acc ++ [x] := by
  unfold addKey
  rw [if_neg]
  intro h2
  obtain ⟨y, hy, e⟩ := List.any_eq_true.1 h2
  exact h (WideAt.sameKey_eq e ▸ hy)

theorem fold_le : ∀ (xs acc : List Lit), (∀ x ∈ xs, WideAt.IsKeyLit x) → (xs.foldl addKey acc).length ≤ acc.length + xs.length
  | [], acc, _ => by simp
  | x :: r, acc, h => by
    rw [List.foldl_cons]
    have ih := fold_le r (addKey acc x) fun y hy => h y (List.mem_cons_of_mem _ hy)
    have : (addKey acc x).length ≤ acc.length + 1 := by
      by_cases hx : x ∈ acc
      · rw [addKey_old (h x (List.mem_cons_self ..)) hx]; omega
      · rw [addKey_new hx]; simp
    simp only [List.length_cons]
    omega

theorem fold_iff : ∀ (xs acc : List Lit), (∀ x ∈ xs, WideAt.IsKeyLit x) → ((xs.foldl addKey acc).length = acc.length + xs.length ↔ (∀ x ∈ xs, x ∉ acc) ∧ xs.Nodup)
  | [], acc, _ => by simp
  | x :: r, acc, h => by
    have hr : ∀ y ∈ r, WideAt.IsKeyLit y := fun y hy => h y (List.mem_cons_of_mem _ hy)
    rw [List.foldl_cons]
    by_cases hx : x ∈ acc
    · rw [addKey_old (h x (List.mem_cons_self ..)) hx]
      have := fold_le r acc hr
      constructor
      · intro e
        simp only [List.length_cons] at e
        omega
      · intro ⟨h1, _⟩
        exact absurd hx (h1 x (List.mem_cons_self ..))
    · rw [addKey_new hx]
      have ih := fold_iff r (acc ++ [x]) hr
      simp only [List.length_append, List.length_cons, List.length_nil, Nat.zero_add] at ih ⊢
      rw [show acc.length + (r.length + 1) = acc.length + 1 + r.length by omega, ih, List.nodup_cons]
      constructor
      · rintro ⟨h1, h2⟩
        refine ⟨fun y hy => ?_, fun hm => ?_, h2⟩
        · rcases List.mem_cons.1 hy with rfl | hy
          · exact hx
          · exact fun hm => h1 y hy (List.mem_append_left _ hm)
        · exact h1 x hm (by simp)
      · rintro ⟨h1, h2, h3⟩
        refine ⟨fun y hy hm => ?_, h3⟩
        rcases List.mem_append.1 hm with hm | hm
        · exact h1 y (List.mem_cons_of_mem _ hy) hm
        · have : y = x := by simpa using hm
          subst this
          exact h2 hy

theorem nodup_dist (n : Nat) (K : Nat → Nat → Nat) (hK : ∀ i j, K i j < 256) : (keysK n K).Nodup ↔ distB n K = true := by
  unfold keysK List.Nodup
  rw [List.pairwise_map, List.pairwise_iff_getElem]
  constructor
  · intro h
    refine dist_yes fun i hi j hj => ?_
    have := h j i (by simp; omega) (by simpa using hi) hj
    simp only [List.getElem_range] at this
    cases hs : sameK (K i) (K j)
    · rfl
    · exact absurd ((litK_same _ _ (hK i) (hK j)).2 hs).symm this
  · intro h i j hi hj hij
    simp only [List.getElem_range]
    intro e
    have hj' : j < n := by simpa using hj
    rw [dist_no hj' hij ((litK_same _ _ (hK j) (hK i)).1 e.symm)] at h
    cases h

/-- The set of the first n keys. -/
noncomputable def setK (n : Nat) (K : Nat → Nat → Nat) : DataW Unit := setOf (.agg []) (keysK n K)

theorem setK_succ (n : Nat) (K : Nat → Nat → Nat) : setK (n + 1) K = (setK n K).put (litK (K n)) (.agg []) := by
  unfold setK
  rw [keysK_succ, setOf_snoc]

theorem size_dist (n : Nat) (K : Nat → Nat → Nat) (hK : ∀ i j, K i j < 256) : (((Maps.size (setK n K) : Nat) : Int) == (n : Int)) = distB n K := by
  have hk : ∀ x ∈ keysK n K, WideAt.IsKeyLit x := by
    intro x hx
    unfold keysK at hx
    obtain ⟨i, _, rfl⟩ := List.mem_map.1 hx
    exact litK_key _ (hK i)
  have h1 := fold_iff (keysK n K) [] hk
  have h2 : Maps.size (setK n K) = ((keysK n K).foldl addKey []).length := size_setOf _ _ hk
  have h3 : (keysK n K).length = n := by simp [keysK]
  have h4 := nodup_dist n K hK
  rw [Bool.eq_iff_iff, beq_iff_eq, h2, ← h4]
  simp only [List.length_nil, Nat.zero_add, h3, List.not_mem_nil, not_false_eq_true, implies_true, true_and] at h1
  rw [← h1]
  omega

set_option maxHeartbeats 1000000 in
set_option maxRecDepth 8000 in
theorem distinct_any (n : Nat) (hn : n ≤ 1000000) (K : Nat → Nat → Nat) (hK : Hid (∀ i j, K i j < 256)) (a1 : Option Addr) (c1 : Nat) (w : World) (h1 : Hid (SeesK w a1 n K)) :
    Calls Tryd.prog 14 #[.slice a1 n c1] w fun e w' => e = .returned (.bool (distB n K)) ∧ Below w.heap.size w w' := by
  have hmm := @run_makeMap Tryd.prog
  go_enter Tryd.func14, Tryd.ntmps14
  go_wp2
  go_loopw [9] (fun c wr => ∃ k : Nat, k ≤ n ∧ c = .int .i64 k ∧ Hid (wr.ownsMap Tryd.prog 27 (unitElem (H := Unit)) w.heap.size k (setK k K)) ∧ Below w.heap.size w wr) (fun c _ => n - (intOf c).toNat)
  case atStart => exact ⟨0, Nat.zero_le _, rfl, World.ownsMap_made _ _ _ _, (Below.refl _ _).alloc (Nat.le_refl _) _⟩
  case round =>
    clear hmm
    obtain ⟨k, hk, rfl, hown, hb⟩ := hrel
    by_cases hlt : k < n
    · have lk : (k : Int) < (n : Int) := by omega
      have s1 := Lib.hid (h1.out.after hb)
      have hkey := keyOf_key (K k) (hK.out k)
      have r1 := Lib.hid (RowAt.new wr 27 (rowOf 16 (w8 (K k))))
      have o1 := Lib.hid (hown.out.alloc (.cells (rowOf 16 (w8 (K k))) 27))
      have b1 := hb.alloc hb.size (.cells (rowOf 16 (w8 (K k))) 27)
      have p1 := Lib.hid (RowAt.new wr 27 (rowOf 16 (w8 zeroN)))
      go_wp2_with (first | (refine wpList_known rfl (run_index_el s1.out hlt rfl rfl rfl _) ?_) | (refine wpList_known rfl (run_load_el s1.out hlt rfl rfl) ?_) | (refine wpList_store_row rfl 27 _ _ rfl wr.heap.size (rowOf 16 (w8 (K k))) rfl rfl 27 _ p1.out (info_key _) (by rw [rowOf_size, rowOf_size]) (rowOf_cells8 _ _) ?_; rw [World.setRow_alloc_new]; generalize wr.alloc (.cells (rowOf 16 (w8 (K k))) 27) = w2 at *) | (refine wpList_load_row rfl 27 _ rfl wr.heap.size rfl 27 _ (0, 0) _ r1.out Tryd.underlying27 rfl (info_key _) ?_) | (at_mapUpdate; refine wpList_mapUpdate_own _ rfl _ _ _ 49 rfl 27 40 lawKey Tryd.underlying49 (unitElem (H := Unit)) w.heap.size k _ rfl o1.out (by unfold maxLen; omega) _ _ _ rfl rfl hkey _ [] unitElem_mk ?_; intro w3 hown1 hgrow1))
      go_roundw
      case rel => exact ⟨k + 1, by omega, by go_num, (setK_succ k K).symm ▸ hown1, b1.grown hgrow1 b1.size (fun j hj => by cases hj; exact Nat.le_refl _)⟩
      case measure => simp [intOf]; omega
    · have lk : ¬ (k : Int) < (n : Int) := by omega
      have ek : k = n := by omega
      subst ek
      have e := Lib.hid (size_dist k K hK.out)
      go_wp2_with (refine wpList_len_own _ rfl _ 49 rfl 27 40 Tryd.underlying49 _ w.heap.size k _ rfl hown.out ?_)
      go_ret
      exact ⟨by rw [← e.out]; rfl, hb⟩

end Go.Proofs.YtedmdojmgccclaaDoor
