/-
  The walk of NandWears.
-/
import Derived.Test.YtogeccmeaacgnaaNandShown
import Derived.Test.YtogeccmeaacgnaaAppV
import Derived.Test.YtogeccmeaacgnaaOpen
namespace Go.Proofs.Ytogeccmeaacgnaa
open Go.RowKit
set_option linter.unusedVariables false

/-- A chip whose segment 0 was erased t times, and nothing else. -/
structure WS (S : St) (t : Nat) (r : Int) (b : Bool) : Prop where
  up : S.up = true
  left : S.left = -(t : Int)
  wear : S.wear 0 = t
  erases : S.erases = t
  rated : S.rated = r
  bad : S.bad 0 = b
  low : LowT S t
theorem wf_byte {z : Int} (h : (Lit.int .u8 z).wf = true) : ∃ n : Nat, z = n ∧ n < 256 := by
  have h1 := wf_u8 h
  exact ⟨z.toNat, by omega, by omega⟩
theorem WS.none {S : St} {t : Nat} {r : Int} {b : Bool} (h : WS S t r b) {n : Nat} (hn : 0 < n) (hw : b = true ∨ r ≤ t) : eraseE n S ((0 : Nat) : Int) = 101 ∧ eraseS n S ((0 : Nat) : Int) = S := by
  refine erase_no h.up hn ?_
  unfold wornB
  rw [h.bad, h.rated, h.wear]
  rcases hw with rfl | hw
  · rfl
  · rw [decide_eq_true hw, Bool.or_true]
theorem WS.one {S : St} {t : Nat} {r : Int} (h : WS S t r false) {n : Nat} (hn : 0 < n) (hw : (t : Int) < r) : eraseE n S ((0 : Nat) : Int) = 0 ∧ WS (eraseS n S ((0 : Nat) : Int)) (t + 1) r false := by
  have hl := h.left
  obtain ⟨e1, e2⟩ := erase_ok (n := n) (i := 0) h.up hn (by unfold wornB; rw [h.bad, h.rated, h.wear, decide_eq_false (by omega)]; rfl) (by omega)
  refine ⟨e1, ?_⟩
  have hlow := h.low.erase n ((0 : Nat) : Int)
  rw [e2] at hlow ⊢
  refine ⟨rfl, ?_, ?_, ?_, h.rated, h.bad, hlow⟩
  · show S.left - 1 = _
    omega
  · show updW S.wear 0 0 = _
    unfold updW
    rw [if_pos rfl, h.wear]
  · show S.erases + 1 = _
    rw [h.erases]

set_option maxHeartbeats 4000000 in
set_option maxRecDepth 8000 in
theorem wears_true (rated tries : Nat) (hr : rated < 256) (ht : tries < 256) (w : World) :
    Calls Try.prog 5 #[.int .u8 (rated : Nat), .int .u8 (tries : Nat), .bool true] w fun e w' => e = .returned (.bool true) ∧ Below w.heap.size w w' := by
  have SH : Hid (∀ w', _) := fun w' => shown10_any w'
  have o0 : Hid ((w.alloc (.cells #[] 3)).ownsRow w.heap.size 3 1 (.slice (some ⟨w.heap.size, 0, none⟩) 0 0) 0 []) := World.ownsRow_made w #[] 0 (Nat.le_refl _) (by decide) rfl
  have b0 : Below w.heap.size w (w.alloc (.cells #[] 3)) := (Below.refl _ _).alloc (Nat.le_refl _) _
  have o1 := Lib.hid (o0.out.alloc (.cells #[.int .i64 0] 3))
  have b1 := b0.alloc b0.size (.cells #[.int .i64 0] 3)
  have q1 := Lib.hid (RowAt.new (w.alloc (.cells #[] 3)) 3 #[.int .i64 0])
  have s1 : Hid (SeesV ((w.alloc (.cells #[] 3)).alloc (.cells #[.int .i64 0] 3)) (some ⟨w.heap.size + 1, 0, none⟩) 1 (intV fun _ => 0)) := fun m hm => by
    have e : m = 0 := by omega
    subst e
    have r : RowAt ((w.alloc (.cells #[] 3)).alloc (.cells #[.int .i64 0] 3)) (w.heap.size + 1) 3 #[.int .i64 0] := allocs_row [.cells #[] 3, .cells #[.int .i64 0] 3] w 1 _ _ rfl
    exact ⟨_, rfl, r.lt, by rw [addr_add, cell_of_row _ _ _ _ _ _ r]; rfl⟩
  have szA : (w.alloc (.cells #[] 3)).heap.size = w.heap.size + 1 := by simp
  go_enter Try.func5, Try.ntmps5
  go_wp2_with (first | (refine wpList_append_V Try.underlying22 Try.infoInt rfl (by decide) rfl _ _ rfl w.heap.size _ 0 [] rfl o1.out b1.size (some ⟨w.heap.size + 1, 0, none⟩) 1 1 rfl (intV fun _ => 0) s1.out (fun _ => rfl) (by decide) (by decide) (fun e => by cases e) ?_; intro v2 w2 h2 h3 h4 h5; refine Hid.out ?_))
  unfold Hid
  have h6 := h2.out
  rw [List.nil_append, Nat.zero_add] at h6
  obtain ⟨a', c', rfl, hs, _⟩ := own_seesV h6 (F := intV fun _ => 0) (fun m hm => cellL_get _ _ m (by omega))
  rw [Nat.mul_one] at hs
  replace hs := Lib.hid hs
  have b2 := b1.trans (h4.out.mono (Nat.le_refl _))
  clear h2 h3 h4 h5 h6 o1 b1 q1 s1 szA o0 b0
  generalize w2 = w3 at *
  have NP := Lib.hid (newPower_any w3)
  go_wp2_with fail
  refine NP.out.mono ?_
  rintro e w4 ⟨rfl, r4, b4⟩
  have NW := Lib.hid (new_yes w.heap.size w3.heap.size 1 1 (rated : Int) true 0 0 0 a' 1 c' (fun _ => 0) w4 r4 (Lib.hid (hs.out.after b4)) b2.size (Lib.hid (by decide)) (Lib.hid (by decide)) (by decide) (by decide) (by decide) (by decide) (by omega) (by decide))
  have b5 := b2.trans (b4.mono b2.size)
  clear NP r4 hs b2 b4
  go_wp2_with fail
  refine NW.out.mono ?_
  rintro e w5 ⟨L, rfl, hpp, hn, hm, h5, bn⟩
  change Hid (Ch w.heap.size w5 L (freshS (rated : Int) (badN 1 (fun _ => 0) 1)) _) at h5
  have b6 := b5.trans (bn.mono b5.size)
  clear NW b5 bn
  go_wp2_with fail
  refine (SH.out w5).mono ?_
  rintro e w6 ⟨rfl, bs⟩
  have h6 := Lib.hid (h5.out.after bs)
  have b7 := b6.trans (bs.mono b6.size)
  have ws0 : Hid (WS (freshS (rated : Int) (badN 1 (fun _ => 0) 1)) 0 rated true) := ⟨rfl, rfl, rfl, rfl, rfl, rfl, freshS_low _ _⟩
  have hn0 : Hid (0 < L.n) := by unfold Hid; rw [hn]; decide
  clear SH h5 b6 bs hpp hn hm
  go_wp2_with fail
  go_loopw [10] (fun v wr => ∃ (i t : Nat) (S : St) (hv : Value), i ≤ tries ∧ v = .int .i64 (i : Int) ∧ Hid ((i ≤ 0 ∧ t = i) ∨ (0 ≤ i ∧ t = 0)) ∧ Hid (Ch w.heap.size wr L S hv) ∧ Hid (WS S t (rated : Int) true) ∧ Below w.heap.size w wr) (fun v _ => tries - (intOf v).toNat)
  case atStart => exact ⟨0, 0, _, _, Nat.zero_le _, rfl, .inl ⟨Nat.zero_le _, rfl⟩, h6, ws0, b7⟩
  case round =>
    clear h6 ws0 b7
    obtain ⟨i, t, S, hv, hi, rfl, ht, C, ws, hb⟩ := hrel
    by_cases hlt : i < tries
    · have l0 : (i : Int) < (tries : Int) := by omega
      have E := Lib.hid (erase_any w.heap.size wr L S hv C ((0 : Nat) : Int) (ws.out.low.low (by have := ht.out; omega)))
      obtain ⟨e1, e2⟩ := ws.out.none hn0.out (.inl rfl)
      rw [e1, e2] at E
      have d1 : decide ((i : Int) ≥ 0) = true := decide_eq_true (by omega)
      change Hid (Calls _ _ #[_, .int .i64 0] _ _) at E
      go_wp2_with fail
      refine E.out.mono ?_
      rintro e w9 ⟨rfl, hv9, C9, g9⟩
      have b9 := hb.trans (g9.under C.out hb.size)
      clear E C g9 hb
      go_wp2
      go_roundw
      case rel => exact ⟨i + 1, t, _, hv9, by omega, by go_num, .inr ⟨by omega, by have := ht.out; omega⟩, C9, ws, b9⟩
      case measure => simp [intOf]; omega
    · have l0 : ¬ (i : Int) < (tries : Int) := by omega
      have CT := Lib.hid (counts_any w.heap.size wr L S hv C)
      rw [ws.out.erases] at CT
      have hmn : Hid ((tries : Int) < (0 : Int) ∧ (t : Int) = (tries : Int) ∨ (0 : Int) ≤ (tries : Int) ∧ (t : Int) = (0 : Int)) := by
        have := ht.out
        unfold Hid
        omega
      go_wp2_with fail
      refine CT.out.mono ?_
      rintro e w9 ⟨rfl, b9⟩
      have C9 := Lib.hid (C.out.after b9)
      have b10 := hb.trans (b9.mono hb.size)
      have WR := Lib.hid (wear_yes w.heap.size w9 L S hv C9 0 hn0.out)
      rw [ws.out.wear] at WR
      change Hid (Calls _ _ #[_, .int .i64 0] _ _) at WR
      clear CT C b9 hb
      go_wp2_with fail
      refine WR.out.mono ?_
      rintro e w10 ⟨rfl, rfl⟩
      go_wp2_with (refine wpList_min2 rfl _ _ rfl rfl (tries : Int) (0 : Int) (t : Int) rfl rfl hmn.out ?_)
      refine WR.out.mono ?_
      rintro e w11 ⟨rfl, rfl⟩
      go_wp2
      go_ret
      exact ⟨rfl, b10⟩

set_option maxHeartbeats 4000000 in
set_option maxRecDepth 8000 in
theorem wears_false (rated tries : Nat) (hr : rated < 256) (ht : tries < 256) (w : World) :
    Calls Try.prog 5 #[.int .u8 (rated : Nat), .int .u8 (tries : Nat), .bool false] w fun e w' => e = .returned (.bool true) ∧ Below w.heap.size w w' := by
  have SH : Hid (∀ w', _) := fun w' => shown10_any w'
  have o0 : Hid ((w.alloc (.cells #[] 3)).ownsRow w.heap.size 3 1 (.slice (some ⟨w.heap.size, 0, none⟩) 0 0) 0 []) := World.ownsRow_made w #[] 0 (Nat.le_refl _) (by decide) rfl
  have b0 : Below w.heap.size w (w.alloc (.cells #[] 3)) := (Below.refl _ _).alloc (Nat.le_refl _) _
  go_enter Try.func5, Try.ntmps5
  go_wp2_with fail
  have hs : Hid (SeesZ (w.alloc (.cells #[] 3)) (some ⟨w.heap.size, 0, none⟩) 0 (fun _ => 0)) := SeesV.nil _ _ _
  have b2 := b0
  clear o0 b0
  generalize w.alloc (.cells #[] 3) = w3 at *
  have NP := Lib.hid (newPower_any w3)
  go_wp2_with fail
  refine NP.out.mono ?_
  rintro e w4 ⟨rfl, r4, b4⟩
  have NW := Lib.hid (new_yes w.heap.size w3.heap.size 1 1 (rated : Int) true 0 0 0 (some ⟨w.heap.size, 0, none⟩) 0 0 (fun _ => 0) w4 r4 (Lib.hid (hs.out.after b4)) b2.size (Lib.hid (by decide)) (Lib.hid (by decide)) (by decide) (by decide) (by decide) (by decide) (by omega) (by decide))
  have b5 := b2.trans (b4.mono b2.size)
  clear NP r4 hs b2 b4
  go_wp2_with fail
  refine NW.out.mono ?_
  rintro e w5 ⟨L, rfl, hpp, hn, hm, h5, bn⟩
  change Hid (Ch w.heap.size w5 L (freshS (rated : Int) (badN 1 (fun _ => 0) 0)) _) at h5
  have b6 := b5.trans (bn.mono b5.size)
  clear NW b5 bn
  go_wp2_with fail
  refine (SH.out w5).mono ?_
  rintro e w6 ⟨rfl, bs⟩
  have h6 := Lib.hid (h5.out.after bs)
  have b7 := b6.trans (bs.mono b6.size)
  have ws0 : Hid (WS (freshS (rated : Int) (badN 1 (fun _ => 0) 0)) 0 rated false) := ⟨rfl, rfl, rfl, rfl, rfl, rfl, freshS_low _ _⟩
  have hn0 : Hid (0 < L.n) := by unfold Hid; rw [hn]; decide
  clear SH h5 b6 bs hpp hn hm
  go_wp2_with fail
  go_loopw [10] (fun v wr => ∃ (i t : Nat) (S : St) (hv : Value), i ≤ tries ∧ v = .int .i64 (i : Int) ∧ Hid ((i ≤ rated ∧ t = i) ∨ (rated ≤ i ∧ t = rated)) ∧ Hid (Ch w.heap.size wr L S hv) ∧ Hid (WS S t (rated : Int) false) ∧ Below w.heap.size w wr) (fun v _ => tries - (intOf v).toNat)
  case atStart => exact ⟨0, 0, _, _, Nat.zero_le _, rfl, .inl ⟨Nat.zero_le _, rfl⟩, h6, ws0, b7⟩
  case round =>
    clear h6 ws0 b7
    obtain ⟨i, t, S, hv, hi, rfl, ht, C, ws, hb⟩ := hrel
    by_cases hlt : i < tries
    · have l0 : (i : Int) < (tries : Int) := by omega
      by_cases hm : i < rated
      · have E := Lib.hid (erase_any w.heap.size wr L S hv C ((0 : Nat) : Int) (ws.out.low.low (by have := ht.out; omega)))
        obtain ⟨e1, ws9⟩ := ws.out.one hn0.out (by have := ht.out; omega)
        replace ws9 := Lib.hid ws9
        rw [e1] at E
        have d1 : decide ((i : Int) ≥ (rated : Int)) = false := decide_eq_false (by omega)
        change Hid (Calls _ _ #[_, .int .i64 0] _ _) at E
        go_wp2_with fail
        refine E.out.mono ?_
        rintro e w9 ⟨rfl, hv9, C9, g9⟩
        have b9 := hb.trans (g9.under C.out hb.size)
        clear E C g9 hb
        go_wp2
        go_roundw
        case rel => exact ⟨i + 1, t + 1, _, hv9, by omega, by go_num, .inl ⟨by omega, by have := ht.out; omega⟩, C9, ws9, b9⟩
        case measure => simp [intOf]; omega
      · have E := Lib.hid (erase_any w.heap.size wr L S hv C ((0 : Nat) : Int) (ws.out.low.low (by have := ht.out; omega)))
        obtain ⟨e1, e2⟩ := ws.out.none hn0.out (.inr (by have := ht.out; omega))
        rw [e1, e2] at E
        have d1 : decide ((i : Int) ≥ (rated : Int)) = true := decide_eq_true (by omega)
        change Hid (Calls _ _ #[_, .int .i64 0] _ _) at E
        go_wp2_with fail
        refine E.out.mono ?_
        rintro e w9 ⟨rfl, hv9, C9, g9⟩
        have b9 := hb.trans (g9.under C.out hb.size)
        clear E C g9 hb
        go_wp2
        go_roundw
        case rel => exact ⟨i + 1, t, _, hv9, by omega, by go_num, .inr ⟨by omega, by have := ht.out; omega⟩, C9, ws, b9⟩
        case measure => simp [intOf]; omega
    · have l0 : ¬ (i : Int) < (tries : Int) := by omega
      have CT := Lib.hid (counts_any w.heap.size wr L S hv C)
      rw [ws.out.erases] at CT
      have hmn : Hid ((tries : Int) < (rated : Int) ∧ (t : Int) = (tries : Int) ∨ (rated : Int) ≤ (tries : Int) ∧ (t : Int) = (rated : Int)) := by
        have := ht.out
        unfold Hid
        omega
      go_wp2_with fail
      refine CT.out.mono ?_
      rintro e w9 ⟨rfl, b9⟩
      have C9 := Lib.hid (C.out.after b9)
      have b10 := hb.trans (b9.mono hb.size)
      have WR := Lib.hid (wear_yes w.heap.size w9 L S hv C9 0 hn0.out)
      rw [ws.out.wear] at WR
      change Hid (Calls _ _ #[_, .int .i64 0] _ _) at WR
      clear CT C b9 hb
      go_wp2_with fail
      refine WR.out.mono ?_
      rintro e w10 ⟨rfl, rfl⟩
      go_wp2_with (refine wpList_min2 rfl _ _ rfl rfl (tries : Int) (rated : Int) (t : Int) rfl rfl hmn.out ?_)
      refine WR.out.mono ?_
      rintro e w11 ⟨rfl, rfl⟩
      go_wp2
      go_ret
      exact ⟨rfl, b10⟩

theorem walk_NandWears (rated : Int) (hr : (Lit.int .u8 rated).wf = true) (tries : Int) (ht : (Lit.int .u8 tries).wf = true) (bad : Bool) (w : World) :
    Calls Try.prog 5 #[.int .u8 rated, .int .u8 tries, .bool bad] w fun e w' => e = .returned (.bool true) ∧ Below w.heap.size w w' := by
  obtain ⟨r, rfl, hr2⟩ := wf_byte hr
  obtain ⟨t, rfl, ht2⟩ := wf_byte ht
  cases bad with
  | true => exact wears_true r t hr2 ht2 w
  | false => exact wears_false r t hr2 ht2 w

end Go.Proofs.Ytogeccmeaacgnaa
