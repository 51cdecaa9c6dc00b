/-
  Contracts of the functions that write lists of texts.
-/
import Derived.Test.YtemlfpiclpopbaaText
namespace Go.Proofs.Ytemlfpiclpopbaa
open Go.RowKit

/-- What a slice of texts holds. -/
def Sees (w : World) (a : Option Addr) (ss : List ByteArray) : Prop :=
  ∀ j (h : j < ss.length), ∃ ad, a = some ad ∧ ad.block < w.heap.size ∧ w.cell? (ad.add j) = some (.string ss[j])

theorem Sees.below {B : Nat} {w w' : World} {a : Option Addr} {ss : List ByteArray} (h : Sees w a ss) (hb : Below B w w') (hB : w.heap.size ≤ B) : Sees w' a ss := fun j hj => by
  obtain ⟨ad, e, hl, hc⟩ := h j hj
  exact ⟨ad, e, Nat.lt_of_lt_of_le hl hb.size, (hb.cell (by rw [block_add]; omega)).trans hc⟩

/-- The bytes of the first 'j' texts of a list, with how many there are ahead of them. -/
def lstTo (ss : List ByteArray) (j : Nat) : List UInt8 := UInt8.ofNat ss.length :: ((ss.take j).map txt).flatten

theorem lstTo_succ (ss : List ByteArray) (j : Nat) (h : j < ss.length) : lstTo ss (j + 1) = lstTo ss j ++ txt ss[j] := by
  unfold lstTo
  rw [List.take_succ_eq_append_getElem h, List.map_append, List.flatten_append]
  simp

theorem lstTo_len (ss : List ByteArray) : ∀ j, j ≤ ss.length → (∀ i (h : i < ss.length), i < j → ss[i].size ≤ 1000) → (lstTo ss j).length ≤ 1 + 1002 * j
  | 0, _, _ => by simp [lstTo]
  | j + 1, hj, h => by
    rw [lstTo_succ ss j hj, List.length_append, txt_length]
    have h1 := lstTo_len ss j (by omega) (fun i hi hij => h i hi (by omega))
    have h2 := h j hj (by omega)
    omega

def lst (ss : List ByteArray) : List UInt8 := lstTo ss ss.length

theorem numB_one (n : Nat) : numB 1 n = [UInt8.ofNat n] := rfl

/-- How the writing of a list ends: it is written, or the first text that is too wide stops it. -/
def ListEnd (ss : List ByteArray) (m : Nat) (w : World) (e : Ending) (w' : World) : Prop :=
  (m = ss.length → e = .returned (.tuple #[.string (bs (lst ss)), .int .i64 0])) ∧ (m < ss.length → e = .returned (.tuple #[.string (bs []), .int .i64 11])) ∧ Below w.heap.size w w'

set_option maxHeartbeats 400000 in
theorem list_to (a : Option Addr) (c : Nat) (ss : List ByteArray) (m : Nat) (hn : ss.length ≤ 255) (hm : m ≤ ss.length) (hw : Hid (∀ i (h : i < ss.length), i < m → ss[i].size ≤ 1000)) (hwm : Hid (∀ h : m < ss.length, 1000 < ss[m].size)) (w : World) (hs : Hid (Sees w a ss)) :
    Calls Try.prog 21 #[.slice a ss.length c] w (ListEnd ss m w) := by
  have d : decide ((255 : Int) < (ss.length : Int)) = false := by simp; omega
  go_enter Try.func21, Try.ntmps21
  go_wp2_with fail
  refine (appendNumber_any w.heap.size _ 0 [] _ 1 (by omega) (by decide) (by decide) _ (World.ownsRow_nil _ _ _ _) (Nat.le_refl _) (by omega)).mono ?_
  rintro e w1 ⟨v1, rfl, hown1, hbl1⟩
  go_wp2
  go_loopw [4, 16] (fun v i wr => ∃ j : Nat, j ≤ m ∧ i = .int .i64 j ∧ wr.ownsRow w.heap.size 5 1 v (lstTo ss j).length ((lstTo ss j).map bv) ∧ Below w.heap.size w wr)
    (fun _ i _ => ss.length - (intOf i).toNat)
  case atStart =>
    refine ⟨0, by omega, rfl, ?_, hbl1⟩
    simpa [lstTo, numB_one] using hown1
  case round =>
    clear hown1 hbl1
    obtain ⟨j, hj, rfl, hown, hbl⟩ := hrel
    by_cases hlt : j < ss.length
    · obtain ⟨ad, ha, hadb, hcell⟩ := (Sees.below hs.out hbl (Nat.le_refl _)) j hlt
      subst ha
      have hb0 := hbl.size
      obtain ⟨s, hse⟩ : ∃ s, s = ss[j] := ⟨_, rfl⟩
      rw [← hse] at hcell
      by_cases hjm : j < m
      · have hsz : s.size ≤ 1000 := by rw [hse]; exact hw.out _ _ hjm
        have HL : Hid ((lstTo ss j).length ≤ 1 + 1002 * j) := lstTo_len ss j (by omega) (fun i h hi => hw.out i h (by omega))
        have HS : Hid (lstTo ss (j + 1) = lstTo ss j ++ txt s) := by rw [hse]; exact lstTo_succ ss j hlt
        clear hse
        go_wp2_with fail
        refine (appendText_any w.heap.size _ _ _ s hsz _ hown (by omega) (by have := HL.out; omega)).mono ?_
        rintro e w2 ⟨v2, rfl, hown2, hbl2⟩
        have hown3 : w2.ownsRow w.heap.size 5 1 v2 (lstTo ss (j + 1)).length ((lstTo ss (j + 1)).map bv) := by
          rw [HS.out, List.length_append, txt_length, List.map_append]
          exact hown2
        have hbl3 : Below w.heap.size w w2 := hbl.trans hbl2
        clear hown2 hbl2 hown hbl
        go_wp2
        go_roundw
        case rel => exact ⟨j + 1, by omega, by go_num, hown3, hbl3⟩
        case measure => simp [intOf]; omega
      · have hje : j = m := by omega
        have hsz : 1000 < s.size := by rw [hse]; subst hje; exact hwm.out _
        have HJ := Lib.hid hje
        clear hse hje
        have dw : decide ((1000 : Int) < (s.size : Int)) = true := by simp; omega
        go_wp2
        go_ret2
        exact ⟨fun h => absurd h (by have := HJ.out; omega), fun _ => rfl, hbl⟩
    · have hje : j = m := by omega
      have hjl : Hid (j = ss.length) := by unfold Hid; omega
      have hown3 : w.heap.size ≤ wr.heap.size → wr.ownsRow w.heap.size 5 1 u4 (lst ss).length ((lst ss).map bv) := fun _ => by
        unfold lst; rw [← hjl.out]; exact hown
      have hcv := own_string (P := Try.prog) (src := 48) (dst := 9) (lst ss) Try.underlying48 Try.underlying5 Try.underlying9 (hown3 hbl.size)
      have HJ := Lib.hid hje
      clear hown3 hje
      go_wp2
      go_ret2
      exact ⟨fun _ => rfl, fun h => absurd h (by have := HJ.out; have := hjl.out; omega), hbl⟩

set_option maxHeartbeats 400000 in
theorem list_long (a : Option Addr) (n c : Nat) (hn : 255 < n) (w : World) :
    Calls Try.prog 21 #[.slice a n c] w fun e w' => e = .returned (.tuple #[.string (bs []), .int .i64 11]) ∧ Below w.heap.size w w' := by
  have d : decide ((255 : Int) < (n : Int)) = true := by simp; omega
  go_enter Try.func21, Try.ntmps21
  go_wp2
  go_ret2
  exact ⟨rfl, Below.refl _ _⟩

/-- List's answers. -/
def lsB (ss : List ByteArray) : Bool := decide (255 < ss.length) || ss.any (fun s => decide (1000 < s.size))
def lsS (ss : List ByteArray) : ByteArray := if lsB ss = true then bs [] else bs (lst ss)
def lsE (ss : List ByteArray) : Int := if lsB ss = true then 11 else 0

/-- The first text that is too wide, or the end. -/
theorem first_wide (ss : List ByteArray) : ∃ m, m ≤ ss.length ∧ (∀ i (h : i < ss.length), i < m → ss[i].size ≤ 1000) ∧ (∀ h : m < ss.length, 1000 < ss[m].size) := by
  induction ss with
  | nil => exact ⟨0, by simp, by simp, by simp⟩
  | cons s ss ih =>
    by_cases h : 1000 < s.size
    · exact ⟨0, by simp, by simp, by simpa using h⟩
    · obtain ⟨m, h1, h2, h3⟩ := ih
      refine ⟨m + 1, by simpa using h1, fun i hi him => ?_, fun hm => ?_⟩
      · cases i with
        | zero => simpa using h
        | succ i => simpa using h2 i (by simpa using hi) (by omega)
      · simpa using h3 (by simpa using hm)

theorem lsB_of (ss : List ByteArray) (m : Nat) (hn : ss.length ≤ 255) (hm : m ≤ ss.length) (h2 : ∀ i (h : i < ss.length), i < m → ss[i].size ≤ 1000) (h3 : ∀ h : m < ss.length, 1000 < ss[m].size) : lsB ss = decide (m < ss.length) := by
  unfold lsB
  rw [decide_eq_false (by omega), Bool.false_or, Bool.eq_iff_iff]
  simp only [List.any_eq_true, decide_eq_true_eq]
  constructor
  · rintro ⟨s, hs, hw⟩
    obtain ⟨i, hi, rfl⟩ := List.getElem_of_mem hs
    by_cases him : i < m
    · have := h2 i hi him; omega
    · omega
  · intro h
    exact ⟨_, List.getElem_mem h, h3 h⟩

theorem list_any (a : Option Addr) (c : Nat) (ss : List ByteArray) (w : World) (hs : Sees w a ss) :
    Calls Try.prog 21 #[.slice a ss.length c] w fun e w' => e = .returned (.tuple #[.string (lsS ss), .int .i64 (lsE ss)]) ∧ Below w.heap.size w w' := by
  by_cases hn : ss.length ≤ 255
  · obtain ⟨m, h1, h2, h3⟩ := first_wide ss
    refine (list_to a c ss m hn h1 h2 h3 w hs).mono ?_
    rintro e w' ⟨hy, hno, hb⟩
    unfold lsS lsE
    rw [lsB_of ss m hn h1 h2 h3]
    by_cases hm : m < ss.length
    · rw [hno hm]
      simp [hm, hb]
    · rw [hy (by omega)]
      simp [hm, hb]
  · have hB : lsB ss = true := by unfold lsB; rw [decide_eq_true (by omega)]; rfl
    unfold lsS lsE
    rw [if_pos hB, if_pos hB]
    exact list_long a ss.length c (by omega) w

theorem refText_named (s t : ByteArray) (hs : s.size ≤ 1000) (ht : Hid (t.data.toList = txt s)) (w : World) :
    Calls Try.prog 16 #[.string s] w fun e w' => e = .returned (.tuple #[.string t, .int .i64 0]) ∧ Below w.heap.size w w' := by
  have h := refText_yes s hs w
  rw [← ht.out, bs_data] at h
  exact h

theorem one_cell (n : Nat) (hn : n ≤ 255) (w : World) :
    (convert 48 9 (.slice (some ⟨w.heap.size, 0, none⟩) 1 1)).run Try.prog (w.alloc (.cells #[.int .u8 (n : Int)] 5)) =
      .ok (.string (bs [UInt8.ofNat n])) (w.alloc (.cells #[.int .u8 (n : Int)] 5)) := by
  have e1 : Value.int .u8 (n : Int) = bv (UInt8.ofNat n) := by
    rw [← byte_val]
    congr 1
    omega
  rw [e1]
  refine run_convert_bytes_back _ 48 9 5 ⟨w.heap.size, 0, none⟩ 1 [UInt8.ofNat n] Try.underlying48 Try.underlying5 Try.underlying9 (fun j hj => ?_)
  have hj1 : j = 0 := by simpa using hj
  subst hj1
  exact cell_one_new w (bv (UInt8.ofNat n)) 5 0 _ rfl

theorem ba_append (a b : ByteArray) : (a ++ b).data.toList = a.data.toList ++ b.data.toList := by simp

set_option maxHeartbeats 400000 in
theorem refList_to (a : Option Addr) (c : Nat) (ss : List ByteArray) (m : Nat) (hn : ss.length ≤ 255) (hm : m ≤ ss.length) (hw : Hid (∀ i (h : i < ss.length), i < m → ss[i].size ≤ 1000)) (hwm : Hid (∀ h : m < ss.length, 1000 < ss[m].size)) (w : World) (hs : Hid (Sees w a ss)) :
    Calls Try.prog 22 #[.slice a ss.length c] w (ListEnd ss m w) := by
  have d : decide ((255 : Int) < (ss.length : Int)) = false := by simp; omega
  have hcv := one_cell ss.length hn w
  go_enter Try.func22, Try.ntmps22
  go_wp2
  clear hcv
  go_loopw [4, 5] (fun v i wr => ∃ (j : Nat) (r : ByteArray), j ≤ m ∧ i = .int .i64 j ∧ v = .string r ∧ Hid (r.data.toList = lstTo ss j) ∧ Below w.heap.size w wr)
    (fun _ i _ => ss.length - (intOf i).toNat)
  case atStart => exact ⟨0, bs [UInt8.ofNat ss.length], by omega, rfl, rfl, rfl, (Below.refl _ _).alloc (Nat.le_refl _) _⟩
  case round =>
    obtain ⟨j, r, hj, rfl, rfl, hr, hbl⟩ := hrel
    by_cases hlt : j < ss.length
    · obtain ⟨ad, ha, hadb, hcell⟩ := (Sees.below hs.out hbl (Nat.le_refl _)) j hlt
      subst ha
      have hb0 := hbl.size
      obtain ⟨s, hse⟩ : ∃ s, s = ss[j] := ⟨_, rfl⟩
      rw [← hse] at hcell
      by_cases hjm : j < m
      · have hsz : s.size ≤ 1000 := by rw [hse]; exact hw.out _ _ hjm
        have hrl : r.size ≤ 300000 := by
          have h1 := lstTo_len ss j (by omega) (fun i h hi => hw.out i h (by omega))
          rw [← hr.out, ba_size] at h1
          omega
        obtain ⟨t, ht⟩ : ∃ t : ByteArray, t.data.toList = txt s := ⟨bs (txt s), rfl⟩
        have htl : t.size ≤ 1002 := by rw [← ba_size, ht, txt_length]; omega
        have HR : Hid ((r ++ t).data.toList = lstTo ss (j + 1)) := by unfold Hid; rw [ba_append, ht, hr.out, hse]; exact (lstTo_succ ss j hlt).symm
        have HT := Lib.hid ht
        clear hse ht
        go_wp2_with fail
        refine (refText_named s t hsz HT _).mono ?_
        rintro e w2 ⟨rfl, hb2⟩
        have hbl2 : Below w.heap.size w w2 := hbl.trans (hb2.mono hb0)
        clear hb2
        go_wp2
        go_roundw
        case rel => exact ⟨j + 1, r ++ t, by omega, by go_num, rfl, HR, hbl2⟩
        case measure => simp [intOf]; omega
      · have hje : j = m := by omega
        have hsz : 1000 < s.size := by rw [hse]; subst hje; exact hwm.out _
        have HJ := Lib.hid hje
        clear hse hje
        go_wp2_with fail
        refine (refText_no s hsz _).mono ?_
        rintro e w2 ⟨rfl, hb2⟩
        have hbl2 : Below w.heap.size w w2 := hbl.trans (hb2.mono hb0)
        clear hb2
        go_wp2
        go_ret2
        exact ⟨fun h => absurd h (by have := HJ.out; omega), fun _ => rfl, hbl2⟩
    · have hje : j = m := by omega
      have hjl : Hid (j = ss.length) := by unfold Hid; omega
      have HJ := Lib.hid hje
      have HR : Hid (bs (lst ss) = r) := by unfold Hid lst; rw [← hjl.out, ← hr.out, bs_data]
      clear hje
      go_wp2
      go_ret2
      exact ⟨fun _ => by rw [HR.out]; rfl, fun h => absurd h (by have := HJ.out; have := hjl.out; omega), hbl⟩

set_option maxHeartbeats 400000 in
theorem refList_long (a : Option Addr) (n c : Nat) (hn : 255 < n) (w : World) :
    Calls Try.prog 22 #[.slice a n c] w fun e w' => e = .returned (.tuple #[.string (bs []), .int .i64 11]) ∧ Below w.heap.size w w' := by
  have d : decide ((255 : Int) < (n : Int)) = true := by simp; omega
  go_enter Try.func22, Try.ntmps22
  go_wp2
  go_ret2
  exact ⟨rfl, Below.refl _ _⟩

theorem refList_any (a : Option Addr) (c : Nat) (ss : List ByteArray) (w : World) (hs : Sees w a ss) :
    Calls Try.prog 22 #[.slice a ss.length c] w fun e w' => e = .returned (.tuple #[.string (lsS ss), .int .i64 (lsE ss)]) ∧ Below w.heap.size w w' := by
  by_cases hn : ss.length ≤ 255
  · obtain ⟨m, h1, h2, h3⟩ := first_wide ss
    refine (refList_to a c ss m hn h1 h2 h3 w hs).mono ?_
    rintro e w' ⟨hy, hno, hb⟩
    unfold lsS lsE
    rw [lsB_of ss m hn h1 h2 h3]
    by_cases hm : m < ss.length
    · rw [hno hm]
      simp [hm, hb]
    · rw [hy (by omega)]
      simp [hm, hb]
  · have hB : lsB ss = true := by unfold lsB; rw [decide_eq_true (by omega)]; rfl
    unfold lsS lsE
    rw [if_pos hB, if_pos hB]
    exact refList_long a ss.length c (by omega) w

end Go.Proofs.Ytemlfpiclpopbaa
