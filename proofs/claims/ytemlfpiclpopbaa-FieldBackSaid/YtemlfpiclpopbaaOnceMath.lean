/-
  Plain mathematics of layer 1: what is taken is written so, and what is written is taken back.
-/
import Derived.Test.YtemlfpiclpopbaaRefTakeList
namespace Go.Proofs.Ytemlfpiclpopbaa
open Go.RowKit

theorem bs_list (l : List UInt8) : (bs l).data.toList = l := rfl
theorem bs_size (l : List UInt8) : (bs l).size = l.length := by rw [← ba_size, bs_list]

theorem txt_bs (l : List UInt8) : txt (bs l) = numB 2 l.length ++ l := by unfold txt; rw [bs_size, bs_list]

theorem tt_once (L : List UInt8) (h : ttE L = 0) : txt (bs (ttT L)) ++ ttR L = L ∧ (bs (ttT L)).size ≤ 1000 := by
  rcases ttE_cases L with ⟨_, hE⟩ | ⟨_, _, hE⟩ | ⟨_, _, _, hE⟩ | ⟨h1, h2, h3, _⟩
  · rw [hE] at h; cases h
  · rw [hE] at h; cases h
  · rw [hE] at h; cases h
  · have hl : (ttT L).length = ttN L := by rw [(ttT_ok L h).1, List.length_take]; omega
    refine ⟨?_, by rw [bs_size, hl]; exact h2⟩
    rw [txt_bs, hl, (ttT_ok L h).1, (ttT_ok L h).2, List.append_assoc, List.take_append_drop]
    have h2l : (L.take 2).length = 2 := by rw [List.length_take]; omega
    have := numB_numV (L.take 2)
    rw [h2l] at this
    unfold ttN
    rw [this, List.take_append_drop]

theorem tl_once : ∀ (n : Nat) (L : List UInt8), tlE n L = 0 → ((tlT n L).map txt).flatten ++ tlR n L = L ∧ ∀ s ∈ tlT n L, s.size ≤ 1000
  | 0, L, _ => by simp [tlT, tlR]
  | n + 1, L, h => by
    have h0 : ttE L = 0 := by
      by_cases h0 : ttE L = 0
      · exact h0
      · rw [tlE_err h0] at h; exact absurd h h0
    rw [tlE_ok h0] at h
    obtain ⟨ih1, ih2⟩ := tl_once n (ttR L) h
    obtain ⟨o1, o2⟩ := tt_once L h0
    refine ⟨?_, fun s hs => ?_⟩
    · simp only [tlT, tlR, List.map_cons, List.flatten_cons, List.append_assoc]
      rw [ih1, o1]
    · simp only [tlT, List.mem_cons] at hs
      rcases hs with rfl | hs
      · exact o2
      · exact ih2 s hs

theorem ta_once (L : List UInt8) (h : taE L = 0) : lst (taT L) ++ taR L = L ∧ lsB (taT L) = false := by
  have h1 : ¬ L.length < 1 := by
    intro h1
    unfold taE at h
    rw [if_pos h1] at h
    cases h
  have hE : tlE (numV (L.take 1)) (L.drop 1) = 0 := by unfold taE at h; rwa [if_neg h1] at h
  obtain ⟨t1, t2⟩ := tl_once _ _ hE
  have hn := numV1_lt (L.take 1) (by rw [List.length_take]; omega)
  rw [(ta_ok L h).1, (ta_ok L h).2]
  constructor
  · unfold lst lstTo
    rw [List.take_length, List.cons_append, t1, tlT_length]
    have hl : (L.take 1).length = 1 := by rw [List.length_take]; omega
    have := numB_numV (L.take 1)
    rw [hl] at this
    have hh : [UInt8.ofNat (numV (L.take 1))] = L.take 1 := this
    have : UInt8.ofNat (numV (L.take 1)) :: L.drop 1 = [UInt8.ofNat (numV (L.take 1))] ++ L.drop 1 := rfl
    rw [this, hh, List.take_append_drop]
  · unfold lsB
    rw [tlT_length, decide_eq_false (by omega), Bool.false_or, List.any_eq_false]
    intro s hs
    have := t2 s hs
    simp
    omega

/-- A text that was written is taken back, whatever is behind it. -/
theorem tt_back (s : ByteArray) (hs : s.size ≤ 1000) (R : List UInt8) : ttE (txt s ++ R) = 0 ∧ ttT (txt s ++ R) = s.data.toList ∧ ttR (txt s ++ R) = R := by
  have e2 : (txt s ++ R).take 2 = numB 2 s.size := by
    unfold txt
    rw [List.append_assoc, List.take_append_of_le_length (by rw [numB_length]; omega)]
    exact List.take_of_length_le (by rw [numB_length]; omega)
  have ed : (txt s ++ R).drop 2 = s.data.toList ++ R := by
    unfold txt
    rw [List.append_assoc]
    have := List.drop_left (l₁ := numB 2 s.size) (l₂ := s.data.toList ++ R)
    rwa [numB_length] at this
  have hN : ttN (txt s ++ R) = s.size := by
    unfold ttN
    rw [e2, numV_numB 2 s.size (by omega)]
  have hE : ttE (txt s ++ R) = 0 := by
    unfold ttE
    rw [hN, ed, if_neg (by rw [List.length_append, txt_length]; omega), if_neg (by omega), if_neg (by rw [List.length_append, ba_size]; omega)]
  refine ⟨hE, ?_, ?_⟩
  · rw [(ttT_ok _ hE).1, hN, ed, List.take_append_of_le_length (by rw [ba_size]; exact Nat.le_refl _)]
    exact List.take_of_length_le (by rw [ba_size]; exact Nat.le_refl _)
  · rw [(ttT_ok _ hE).2, hN, ed]
    have := List.drop_left (l₁ := s.data.toList) (l₂ := R)
    rwa [ba_size] at this

theorem tl_back : ∀ (ss : List ByteArray) (R : List UInt8), (∀ s ∈ ss, s.size ≤ 1000) → tlE ss.length ((ss.map txt).flatten ++ R) = 0 ∧ tlT ss.length ((ss.map txt).flatten ++ R) = ss ∧ tlR ss.length ((ss.map txt).flatten ++ R) = R
  | [], R, _ => ⟨rfl, rfl, rfl⟩
  | s :: ss, R, h => by
    obtain ⟨b1, b2, b3⟩ := tt_back s (h s (List.mem_cons_self ..)) ((ss.map txt).flatten ++ R)
    obtain ⟨i1, i2, i3⟩ := tl_back ss R (fun t ht => h t (List.mem_cons_of_mem _ ht))
    simp only [List.map_cons, List.flatten_cons, List.append_assoc, List.length_cons]
    refine ⟨?_, ?_, ?_⟩
    · rw [tlE_ok b1, b3]; exact i1
    · rw [tlT, b2, b3, i2, bs_data]
    · rw [tlR, b3]; exact i3

theorem ta_back (ss : List ByteArray) (R : List UInt8) (hn : ss.length ≤ 255) (h : ∀ s ∈ ss, s.size ≤ 1000) : taE (lst ss ++ R) = 0 ∧ taT (lst ss ++ R) = ss ∧ taR (lst ss ++ R) = R := by
  have hl : lst ss ++ R = UInt8.ofNat ss.length :: ((ss.map txt).flatten ++ R) := by
    unfold lst lstTo
    rw [List.take_length]
    rfl
  have hN : numV ((lst ss ++ R).take 1) = ss.length := by
    rw [hl]
    simp only [List.take_succ_cons, List.take_zero, numV, UInt8.toNat_ofNat']
    omega
  have hd : (lst ss ++ R).drop 1 = (ss.map txt).flatten ++ R := by rw [hl]; rfl
  obtain ⟨b1, b2, b3⟩ := tl_back ss R h
  have hE : taE (lst ss ++ R) = 0 := by
    unfold taE
    rw [if_neg (by rw [hl]; simp), hN, hd]
    exact b1
  refine ⟨hE, ?_, ?_⟩
  · rw [(ta_ok _ hE).2, hN, hd]; exact b2
  · rw [(ta_ok _ hE).1, hN, hd]; exact b3

end Go.Proofs.Ytemlfpiclpopbaa
