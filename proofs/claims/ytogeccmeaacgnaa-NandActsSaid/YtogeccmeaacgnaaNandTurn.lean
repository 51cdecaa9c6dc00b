/-
  A chip of which one thing has turned: a count, a segment, a page, the history; what clear lays; a text appended, the old row still there.
-/
import Derived.Test.YtogeccmeaacgnaaNandSmall
import Derived.Test.YtogeccmeaacgnaaNandText
import Derived.Maps.AppendAt
import Derived.Laws.MakeOwn
namespace Go.Proofs.Ytogeccmeaacgnaa
open Go.RowKit
set_option linter.unusedVariables false

theorem beside_set (w : World) (b j : Nat) (v : Value) : Beside (fun k => k = b) w (w.setCell ⟨b, j, none⟩ v) := (Beside.refl (fun k => k = b) w).setCell (.inl rfl) v

section
variable {B : Nat} {w w' : World} {L : Lay} {S : St} {hv : Value}
theorem Ch.cp (h : Ch B w L S hv) (hs : Beside (fun k => k = L.cp) w w') {p q : Nat} (hr : RowAt w' L.cp 82 (chipA L { S with progs := p, erases := q } hv)) :
    Ch B w' L { S with progs := p, erases := q } hv ∧ Goes L hv w hv w' :=
  ⟨⟨h.pow.beside hs (h.pow.apart h.chip (by decide)), hr, h.segs.beside hs (h.segs.apart h.chip (by decide)), fun i hi => (h.pages i hi).beside hs ((h.pages i hi).apart h.chip (by decide)), own_beside h.hist hs (fun k e1 e2 => h.chip.not_own h.hist (by decide) (by rw [e1, e2])), h.inj, h.far, h.low, h.room, h.byte, h.tall⟩, hs.mono fun k e => .inr (.inl e), fun k e => .inl e⟩
theorem Ch.prog (h : Ch B w L S hv) : Ch B (w.setCell ⟨L.cp, 4, none⟩ (.int .i64 ((S.progs + 1 : Nat) : Int))) L { S with progs := S.progs + 1 } hv ∧ Goes L hv w hv (w.setCell ⟨L.cp, 4, none⟩ (.int .i64 ((S.progs + 1 : Nat) : Int))) :=
  h.cp (beside_set w _ _ _) (h.chip.set 4 _)
theorem Ch.erase (h : Ch B w L S hv) : Ch B (w.setCell ⟨L.cp, 5, none⟩ (.int .i64 ((S.erases + 1 : Nat) : Int))) L { S with erases := S.erases + 1 } hv ∧ Goes L hv w hv (w.setCell ⟨L.cp, 5, none⟩ (.int .i64 ((S.erases + 1 : Nat) : Int))) :=
  h.cp (beside_set w _ _ _) (h.chip.set 5 _)
theorem Ch.seg (h : Ch B w L S hv) (hs : Beside (fun k => k = L.sp) w w') {wr : Nat → Nat} {bd : Nat → Bool} (hr : RowAt w' L.sp 86 (rowOf (L.n * 3) (segV L wr bd))) :
    Ch B w' L { S with wear := wr, bad := bd } hv ∧ Goes L hv w hv w' :=
  ⟨⟨h.pow.beside hs (h.pow.apart h.segs (by decide)), h.chip.beside hs (h.chip.apart h.segs (by decide)), hr, fun i hi => (h.pages i hi).beside hs ((h.pages i hi).apart h.segs (by decide)), own_beside h.hist hs (fun k e1 e2 => h.segs.not_own h.hist (by decide) (by rw [e1, e2])), h.inj, h.far, h.low, h.room, h.byte, h.tall⟩, hs.mono fun k e => .inr (.inr (.inl e)), fun k e => .inl e⟩
/-- One more in place i. -/
def updW (f : Nat → Nat) (i : Nat) : Nat → Nat := fun a => if a = i then f i + 1 else f a
def updB (f : Nat → Bool) (i : Nat) : Nat → Bool := fun a => if a = i then true else f a
theorem segV_wear (L : Lay) (wr : Nat → Nat) (bd : Nat → Bool) (i n : Nat) : (rowOf n (segV L wr bd)).setIfInBounds (i * 3 + 1) (.int .i64 ((wr i + 1 : Nat) : Int)) = rowOf n (segV L (updW wr i) bd) := by
  rw [rowOf_set]
  refine rowOf_congr fun j hj => ?_
  by_cases c : j = i * 3 + 1
  · subst c
    rw [if_pos rfl, segV_1]
    unfold updW
    rw [if_pos rfl]
  · rw [if_neg c]
    unfold segV updW
    by_cases c0 : j % 3 = 0
    · rw [if_pos c0, if_pos c0]
    · rw [if_neg c0, if_neg c0]
      by_cases c1 : j % 3 = 1
      · rw [if_pos c1, if_pos c1, if_neg (by omega)]
      · rw [if_neg c1, if_neg c1]
theorem segV_bad (L : Lay) (wr : Nat → Nat) (bd : Nat → Bool) (i n : Nat) : (rowOf n (segV L wr bd)).setIfInBounds (i * 3 + 2) (.bool true) = rowOf n (segV L wr (updB bd i)) := by
  rw [rowOf_set]
  refine rowOf_congr fun j hj => ?_
  by_cases c : j = i * 3 + 2
  · subst c
    rw [if_pos rfl, segV_2]
    unfold updB
    rw [if_pos rfl]
  · rw [if_neg c]
    unfold segV updB
    by_cases c0 : j % 3 = 0
    · rw [if_pos c0, if_pos c0]
    · rw [if_neg c0, if_neg c0]
      by_cases c1 : j % 3 = 1
      · rw [if_pos c1, if_pos c1]
      · rw [if_neg c1, if_neg c1, if_neg (by omega)]
theorem Ch.worn (h : Ch B w L S hv) (i : Nat) : Ch B (w.setCell ⟨L.sp, i * 3 + 1, none⟩ (.int .i64 ((S.wear i + 1 : Nat) : Int))) L { S with wear := updW S.wear i } hv ∧ Goes L hv w hv (w.setCell ⟨L.sp, i * 3 + 1, none⟩ (.int .i64 ((S.wear i + 1 : Nat) : Int))) :=
  h.seg (beside_set w _ _ _) ((h.segs.set (i * 3 + 1) _).congr (segV_wear L S.wear S.bad i _))
def updP (f : Nat → Nat → ByteArray) (i : Nat) (g : Nat → ByteArray) : Nat → Nat → ByteArray := fun a => if a = i then g else f a
def updS (f : Nat → ByteArray) (j : Nat) (s : ByteArray) : Nat → ByteArray := fun a => if a = j then s else f a
theorem Ch.page' (h : Ch B w L S hv) {i : Nat} (hi : i < L.n) (hs : Beside (fun k => k = L.tp i) w w') {g : Nat → ByteArray} (hr : RowAt w' (L.tp i) 9 (rowOf L.m (strV g))) :
    Ch B w' L { S with page := updP S.page i g } hv ∧ Goes L hv w hv w' := by
  refine ⟨⟨h.pow.beside hs (h.pow.apart (h.pages i hi) (by decide)), h.chip.beside hs (h.chip.apart (h.pages i hi) (by decide)), h.segs.beside hs (h.segs.apart (h.pages i hi) (by decide)), fun a ha => ?_, own_beside h.hist hs (fun k e1 e2 => h.far i hi (by rw [e1, e2])), h.inj, h.far, h.low, h.room, h.byte, h.tall⟩, hs.mono fun k e => .inr (.inr (.inr (.inl ⟨i, hi, e⟩))), fun k e => .inl e⟩
  by_cases c : a = i
  · subst c
    have : updP S.page a g a = g := if_pos rfl
    show RowAt w' (L.tp a) _ (rowOf L.m (strV (updP S.page a g a)))
    rw [this]
    exact hr
  · have : updP S.page i g a = S.page a := if_neg c
    show RowAt w' (L.tp a) _ (rowOf L.m (strV (updP S.page i g a)))
    rw [this]
    exact (h.pages a ha).beside hs fun e => c (h.inj a i ha hi e)
theorem Ch.text (h : Ch B w L S hv) {i : Nat} (hi : i < L.n) (j : Nat) (s : ByteArray) : Ch B (w.setCell ⟨L.tp i, j, none⟩ (.string s)) L { S with page := updP S.page i (updS (S.page i) j s) } hv ∧ Goes L hv w hv (w.setCell ⟨L.tp i, j, none⟩ (.string s)) :=
  h.page' hi (beside_set w _ _ _) (((h.pages i hi).set j _).congr (by
    rw [rowOf_set]
    refine rowOf_congr fun a _ => ?_
    unfold strV updS
    by_cases c : a = j
    · rw [if_pos c, if_pos c]
    · rw [if_neg c, if_neg c]))
/-- A text more in the history. -/
theorem Ch.told (h : Ch B w L S hv) {hv' : Value} {s : ByteArray} (hg : w.grownBy w' hv.ownBlock) (ho : w'.ownsRow B 9 1 hv' (S.hist.length + 1) ((S.hist ++ [s]).map .string)) (hat : hv'.ownBlock = hv.ownBlock ∨ ∀ k, hv'.ownBlock = some k → w.heap.size ≤ k) :
    Ch B (w'.setCell ⟨L.cp, 3, none⟩ hv') L { S with hist := S.hist ++ [s] } hv' ∧ Goes L hv w hv' (w'.setCell ⟨L.cp, 3, none⟩ hv') := by
  have s0 : Beside (fun k => hv.ownBlock = some k) w w' := (Beside.refl _ w).grown hg fun k e => .inl e
  have hp := h.pow.beside s0 (h.pow.not_own h.hist (by decide))
  have hc := h.chip.beside s0 (h.chip.not_own h.hist (by decide))
  have hsg := h.segs.beside s0 (h.segs.not_own h.hist (by decide))
  have hpg : ∀ i, i < L.n → RowAt w' (L.tp i) 9 (rowOf L.m (strV (S.page i))) := fun i hi => (h.pages i hi).beside s0 (h.far i hi)
  have s1 : Beside (fun k => k = L.cp) w' (w'.setCell ⟨L.cp, 3, none⟩ hv') := beside_set w' _ _ _
  refine ⟨⟨hp.beside s1 (hp.apart hc (by decide)), hc.set 3 _, hsg.beside s1 (hsg.apart hc (by decide)), fun i hi => (hpg i hi).beside s1 ((hpg i hi).apart hc (by decide)), ?_, h.inj, fun i hi e => ?_, h.low, h.room, h.byte, h.tall⟩, ?_, fun k e => ?_⟩
  · have := own_beside ho s1 (fun k e1 e2 => hc.not_own ho (by decide) (by rw [e1, e2]))
    show World.ownsRow _ B _ 1 hv' (S.hist ++ [s]).length _
    rw [List.length_append]
    exact this
  · rcases hat with h1 | h1
    · exact h.far i hi (h1 ▸ e)
    · have := h1 _ e
      have := (h.pages i hi).lt
      omega
  · exact (s0.mono fun k e => .inr (.inr (.inr (.inr e)))).trans (s1.mono fun k e => .inr (.inl e))
  · rcases hat with h1 | h1
    · exact .inl (h1 ▸ e)
    · exact .inr (h1 k e)
end

/-! clear of the first texts of a row. -/
theorem zero_strs (n : Nat) : (Builtin.zeroCells #[Value.string ⟨#[]⟩] n).toList = (List.range n).map fun _ => Value.string ⟨#[]⟩ := by
  unfold Builtin.zeroCells
  apply List.ext_getElem
  · simp
  · intro j h1 h2
    simp [Nat.mod_one]
theorem infoStr : (Try.prog.info? 9).map (fun i => (i.zero, i.size, i.bytes)) = some (some (.string ⟨#[]⟩), 1, 16) := by kernel_rfl

theorem run_clear_strs (w : World) (t k n c : Nat) (f : Nat → ByteArray) (ty : TypeId) (h : RowAt w t 9 (rowOf n (strV f))) (hk : k ≤ n) :
    (Builtin.clear_ #[34] ty #[.slice (some ⟨t, 0, none⟩) k c]).run Try.prog w = .ok (.tuple #[]) (w.setRow t (rowOf n (strV fun j => if j < k then ⟨#[]⟩ else f j))) := by
  obtain ⟨i0, hi, hz0, hz1, hz2⟩ := info_parts infoStr
  have e : rowOf n (strV fun j => if j < k then ⟨#[]⟩ else f j) = ((rowOf n (strV f)).toList.take 0 ++ (List.range k).map (fun _ => Value.string ⟨#[]⟩) ++ (rowOf n (strV f)).toList.drop (0 + k)).toArray := by
    have := laidV_row n (strV f) (fun _ => Value.string ⟨#[]⟩) 0 k (by omega)
    have e2 : (rowOf k (fun _ => Value.string ⟨#[]⟩)).toList = (List.range k).map (fun _ => Value.string ⟨#[]⟩) := by unfold rowOf; rfl
    rw [e2] at this
    rw [this]
    refine rowOf_congr fun j hj => ?_
    unfold strV laidV
    dsimp only
    by_cases c : j < k
    · rw [if_pos c, if_pos (by omega)]
    · rw [if_neg c, if_neg (by omega)]
  cases k with
  | zero =>
    have e0 : w.setRow t (rowOf n (strV fun j => if j < 0 then ⟨#[]⟩ else f j)) = w := by
      have : rowOf n (strV fun j => if j < 0 then ⟨#[]⟩ else f j) = rowOf n (strV f) := rowOf_congr fun j _ => by unfold strV; dsimp only; rw [if_neg (by omega)]
      rw [this]
      exact setRow_self w t _ _ (0, 0) h
    rw [e0]
    simp [Builtin.clear_, run_underlying Try.underlying34]
  | succ k =>
    have hst := run_storeCells_at Try.prog t 0 9 ((List.range (k + 1)).map (fun _ => Value.string ⟨#[]⟩)) 0 (rowOf n (strV f)) w h (by rw [rowOf_size]; simp; omega) (fun v hv => by simp only [List.mem_map] at hv; obtain ⟨_, _, rfl⟩ := hv; rfl)
    simp only [List.length_map, List.length_range, Nat.add_zero] at hst
    rw [← e] at hst
    simp [Builtin.clear_, run_underlying Try.underlying34, zeroValue, typeInfo, hi, hz0, Value.cells, zero_strs, hst, Result.andThen]

/-- A text appended: the new row; the old one is still there, and so is any row that already has that text. -/
theorem app_keep (w : World) (B m q : Nat) (v : Value) (l : List ByteArray) (b : ByteArray) (ty : TypeId) (hown : w.ownsRow B 9 1 v m (l.map .string)) (hq : RowAt w q 9 #[.string b]) (hm : m ≤ 1000000) (hB : B ≤ w.heap.size) :
    ∃ v' w', (Builtin.append_ #[34, 34] ty #[v, .slice (some ⟨q, 0, none⟩) 1 1]).run Try.prog w = .ok v' w' ∧ w'.ownsRow B 9 1 v' (m + 1) ((l ++ [b]).map .string) ∧ w'.ownsRow B 9 1 v m (l.map .string) ∧ w.grownBy w' v.ownBlock ∧
      (v'.ownBlock = v.ownBlock ∨ v'.ownBlock = some w.heap.size) ∧
      ∀ u, w.ownsRow B 9 1 u (m + 1) ((l ++ [b]).map .string) → w'.ownsRow B 9 1 u (m + 1) ((l ++ [b]).map .string) := by
  obtain ⟨i0, hi, hz0, hz1, hz2⟩ := info_parts infoStr
  have hnews : ∀ j u, [Value.string b][j]? = some u → w.cell? ((⟨q, 0, none⟩ : Addr).add j) = some u := by
    intro j u hj
    rw [addr_add, Nat.zero_add, cell_of_row w q j #[Value.string b] _ (0, 0) hq]
    simpa using hj
  have h1 : ∀ u ∈ [Value.string b], u.oneCell' = true := fun u hu => by simp at hu; subst hu; rfl
  have el : l.map Value.string ++ [Value.string b] = (l ++ [b]).map Value.string := by simp
  obtain ⟨v', w', hr, h2, h3, _, h4⟩ := run_append_own_at (P := Try.prog) w B 34 ty 9 i0 (.string ⟨#[]⟩) 1 16 Try.underlying34 hi hz0 hz1 hz2 rfl (by decide) v m (l.map .string) hown ⟨q, 0, none⟩ 1 1 [.string b] rfl hnews h1 (by unfold maxLen; omega) (by omega) hB
  rw [el] at h2
  refine ⟨v', w', hr, h2, ?_, h3, h4, ?_⟩
  · rcases hown.2 with ⟨rfl, rfl⟩ | ⟨g, cap, cur, rfl, hg, hrow, hc, hcm, hcs, htake⟩
    · have : l.map Value.string = [] := List.eq_nil_of_length_eq_zero (by simpa using hown.1)
      rw [this]
      exact World.ownsRow_nil _ _ _ _
    · by_cases hroom : m + 1 ≤ cap
      · have hr2 := run_append_room (P := Try.prog) w 34 ty 9 i0 Try.underlying34 hi g m cap cur hrow ⟨q, 0, none⟩ 1 1 [.string b] (by rw [hz1]; rfl) hnews h1 hroom (by rw [hz1]; simp; omega)
        rw [hr] at hr2
        cases hr2
        rw [hz1] at *
        refine ⟨hown.1, .inr ⟨g, cap, _, rfl, hg, setRow_heap w g cur _ _ _ hrow, hc, hcm, ?_, ?_⟩⟩
        · simp; omega
        · have e1 : (List.take (m * 1) cur.toList).length = m * 1 := by simp; omega
          show ((List.take (m * 1) cur.toList ++ [Value.string b]) ++ List.drop (m * 1 + 1) cur.toList).take (m * 1) = l.map .string
          rw [List.append_assoc, List.take_append_of_le_length (by omega), List.take_of_length_le (by omega), htake]
      · have hr2 := run_append_grow (P := Try.prog) w 34 ty 9 i0 (.string ⟨#[]⟩) Try.underlying34 hi hz0 ⟨g, 0, none⟩ m cap (l.map .string) (by rw [hz1]; exact hown.1) (hown.cells (g := g) rfl) ⟨q, 0, none⟩ 1 1 [.string b] (by rw [hz1]; rfl) hnews (by omega) (by omega) (growslice_fits (by omega) (by rw [hz2]; omega))
        rw [hr] at hr2
        cases hr2
        exact World.ownsRow.alloc (w := w.drew) hown _
  · intro u hu
    by_cases hne : u.ownBlock = none ∨ u.ownBlock ≠ v.ownBlock
    · exact hu.kept h3 hne
    · rcases hown.2 with ⟨rfl, rfl⟩ | ⟨g, cap, cur, rfl, hg, hrow, hc, hcm, hcs, htake⟩
      · rcases hu.2 with ⟨rfl, _⟩ | ⟨g', cap', cur', rfl, _⟩
        · exact absurd (.inl rfl) hne
        · exact absurd (.inr (by simp [Value.ownBlock])) hne
      · rcases hu.2 with ⟨rfl, _⟩ | ⟨g', cap', cur', rfl, hg', hrow', hc', hcm', hcs', htake'⟩
        · exact absurd (.inl rfl) hne
        · have eg : g' = g := by
            by_cases e : g' = g
            · exact e
            · exact absurd (.inr (by simp [Value.ownBlock, e])) hne
          subst eg
          rw [hrow] at hrow'
          cases hrow'
          have ec : cap = cap' := by omega
          subst ec
          have hr2 := run_append_room (P := Try.prog) w 34 ty 9 i0 Try.underlying34 hi g' m cap cur hrow ⟨q, 0, none⟩ 1 1 [.string b] (by rw [hz1]; rfl) hnews h1 hc' (by rw [hz1]; simp; omega)
          rw [hr] at hr2
          cases hr2
          rw [hz1] at *
          refine ⟨hu.1, .inr ⟨g', cap, _, rfl, hg', setRow_heap w g' cur _ _ _ hrow, hc', hcm', ?_, ?_⟩⟩
          · simp; omega
          · have e1 : (List.take (m * 1) cur.toList ++ [Value.string b]).length = (m + 1) * 1 := by simp; omega
            show ((List.take (m * 1) cur.toList ++ [Value.string b]) ++ List.drop (m * 1 + 1) cur.toList).take ((m + 1) * 1) = (l ++ [b]).map .string
            rw [List.take_append_of_le_length (by omega), List.take_of_length_le (by omega), htake, el]

end Go.Proofs.Ytogeccmeaacgnaa
