/-
  The walk of the law ShaParts.
-/
import Derived.Test.YtjdhakkfekjpbaaDoorShaSteps
namespace Go.Proofs.YtjdhakkfekjpbaaDoor
open Go.RowKit

/-- What stays: the sum in its block; the rest above. -/
def PartsC (w : World) (p : Nat) (f : Nat → Nat) (w' : World) : Prop := RowAt w' p 24 (rowOf 32 (w8 f)) ∧ Below w.heap.size w w'

theorem PartsC.after {w w1 w2 : World} {p : Nat} {f : Nat → Nat} (h : PartsC w p f w1) (hb : Below w1.heap.size w1 w2) : PartsC w p f w2 := ⟨h.1.below hb h.1.lt, h.2.trans (hb.mono h.2.size)⟩

theorem joinTo_length (ss : List ByteArray) (j : Nat) (hj : j < ss.length) : (joinTo ss (j + 1)).length = (joinTo ss j).length + ss[j].size := by
  rw [joinTo_succ ss j hj, List.length_append]
  simp

set_option maxHeartbeats 1000000 in
set_option maxRecDepth 8000 in
theorem walk_ShaParts (a : Option Addr) (len cap : Nat) (ss : List ByteArray) (w : World) (hk : KRow w) (hl : CameStrs w a len cap ss) :
    Calls Tryd.prog 5 #[.slice a len cap] w fun e w' => e = .returned (.bool true) ∧ Below w.heap.size w w' := by
  have HK := Lib.hid hk
  have HS : Hid (Sees w a ss) := hl.2.2.2.2
  have h1 := hl.1
  have h4 := Lib.hid hl.2.2.2.1
  subst h1
  clear hk hl
  by_cases h : (30 : Int) < (ss.length : Int)
  · go_enter Tryd.func5, Tryd.ntmps5
    go_wp2_with fail
    refine (shown_any _ HK).mono ?_
    rintro e w1 ⟨rfl, hb1⟩
    go_wp2
    go_ret
    exact ⟨rfl, hb1⟩
  · have d : decide ((30 : Int) < (ss.length : Int)) = false := decide_eq_false h
    have l30 : ss.length ≤ 30 := by omega
    go_enter Tryd.func5, Tryd.ntmps5
    go_wp2_with fail
    refine (shown_any _ HK).mono ?_
    rintro e w1 ⟨rfl, hb1⟩
    have hk1 := Lib.hid (HK.out.below hb1 HK.out.1 hb1.size)
    have hs1 := Lib.hid (HS.out.below hb1 (Nat.le_refl _))
    have hsB : Hid (∀ wr, Below w.heap.size w wr → Sees wr a ss) := fun wr hb => HS.out.below hb (Nat.le_refl _)
    clear d
    go_wp2
    go_loopw [3, 4] (fun t i wr => ∃ (j : Nat) (r : ByteArray), j ≤ ss.length ∧ i = .int .i64 j ∧ t = .string r ∧ r.size ≤ 200 * j ∧ Hid (r.data.toList = joinTo ss j) ∧ wr = w1)
      (fun _ i _ => ss.length - (intOf i).toNat)
    case atStart => exact ⟨0, ByteArray.empty, by omega, rfl, rfl, by decide, by simp [Hid, joinTo], rfl⟩
    case round =>
      obtain ⟨j, r, hj, rfl, rfl, hrz, hr, rfl⟩ := hrel
      by_cases hlt : j < ss.length
      · obtain ⟨ad, ha, hadb, hcell⟩ := hs1.out j hlt
        subst ha
        have hju := Lib.hid (joinTo_succ ss j hlt)
        obtain ⟨s, hse⟩ : ∃ s, s = ss[j] := ⟨_, rfl⟩
        rw [← hse] at hcell hju
        have hsm : s.size ≤ maxLen := by rw [hse]; exact h4.out _ (List.getElem_mem hlt)
        clear hse
        by_cases hw : (200 : Int) < (s.size : Int)
        · go_wp2_with fail
          refine (shown_any _ hk1).mono ?_
          rintro e w2 ⟨rfl, hb2⟩
          go_wp2
          go_ret
          exact ⟨rfl, hb1.trans (hb2.mono hb1.size)⟩
        · have dw : decide ((200 : Int) < (s.size : Int)) = false := decide_eq_false hw
          have ns : ¬ 9223372036854775807 < r.size + s.size := by omega
          have hr2 : Hid ((r ++ s).data.toList = joinTo ss (j + 1)) := by unfold Hid; rw [bs_append, hr.out, hju.out]
          have hz2 : (r ++ s).size ≤ 200 * (j + 1) := by rw [ByteArray.size_append]; omega
          go_wp2
          go_roundw
          case rel => exact ⟨j + 1, r ++ s, by omega, by go_num, rfl, hz2, hr2, by first | rfl | trivial⟩
          case measure => simp [intOf]; omega
      · have : j = ss.length := by omega
        subst this
        have S1 := Lib.hid (sum_one r (by omega) wr hk1.out)
        have hX := hr.out
        rw [hX] at S1
        have R1 : Hid (∀ w, Calls Tryd.prog 11 #[.string r] w fun e w' => e = .returned (.agg (rowOf 32 (w8 (sumN (joinTo ss ss.length))))) ∧ Below w.heap.size w w') := by
          intro w
          have := refSum_any r (by omega) w
          rw [hX] at this
          exact this
        have P1 : Hid (∀ w', Below w.heap.size w w' → Calls Tryd.prog 10 #[.slice a ss.length cap] w' fun e w'' => e = .returned (.agg (rowOf 32 (w8 (sumN (joinTo ss ss.length))))) ∧ Below w'.heap.size w' w'') := by
          intro w' hb
          refine sum_any a cap ss (by omega) ?_ w' (HK.out.below hb HK.out.1 hb.size) (hsB.out w' hb)
          unfold Hid
          rw [← hX]
          simp
          omega
        generalize sumN (joinTo ss ss.length) = y at *
        clear hX hr hs1 hsB
        go_wp2_with fail
        refine S1.out.mono ?_
        rintro e w2 ⟨rfl, hb2⟩
        have b2 := hb1.trans (hb2.mono hb1.size)
        clear hb2 hb1 S1 hk1
        go_wp2_with (first | (refine wpList_store_row rfl 24 _ _ rfl w2.heap.size (rowOf 32 (w8 y)) rfl rfl 24 _ (RowAt.new _ _ _) (info_hash _) (by rw [rowOf_size]; rfl) (rowOf_cells8 _ _) ?_; rw [World.setRow_alloc_new]; have x1 := Lib.hid (RowAt.new w2 24 (rowOf 32 (w8 y))); replace b2 := b2.alloc b2.size (.cells (rowOf 32 (w8 y)) 24); generalize w2.alloc _ = w3 at *; generalize w2.heap.size = p at *) | (refine wpList_load_row rfl 24 _ rfl p rfl 24 _ (0, 0) _ x1.out Tryd.underlying24 rfl (info_hash _) ?_))
        refine (short_any y w3).mono ?_
        rintro e w4 ⟨rfl, hb4⟩
        replace x1 : Hid (RowAt w4 p 24 (rowOf 32 (w8 y))) := x1.out.below hb4 x1.out.lt
        replace b2 : Below w.heap.size w w4 := b2.trans (hb4.mono b2.size)
        clear hb4
        go_wp2_with (first | (refine wpList_store_row rfl 40 _ _ rfl w4.heap.size (rowOf 16 (w8 y)) rfl rfl 40 _ (RowAt.new _ _ _) (info_key _) (by rw [rowOf_size]; rfl) (rowOf_cells8 _ _) ?_; rw [World.setRow_alloc_new]; have x2 := Lib.hid (RowAt.new w4 40 (rowOf 16 (w8 y))); replace x1 := Lib.hid (x1.out.alloc (.cells (rowOf 16 (w8 y)) 40)); replace b2 := b2.alloc b2.size (.cells (rowOf 16 (w8 y)) 40); generalize w4.alloc _ = w5 at *; generalize w4.heap.size = q at *))
        go_loopw [7] (fun i wr => ∃ j : Nat, j ≤ 16 ∧ i = .int .i64 j ∧ Hid (RowAt wr p 24 (rowOf 32 (w8 y)) ∧ RowAt wr q 40 (rowOf 16 (w8 y))) ∧ Below w.heap.size w wr)
          (fun i _ => 16 - (intOf i).toNat)
        case atStart => exact ⟨0, by omega, rfl, ⟨x1.out, x2.out⟩, b2⟩
        case round =>
          clear x1 x2 b2
          obtain ⟨j, hj, rfl, hrs, hbl⟩ := hrel
          by_cases hlt2 : j < 16
          · have hd : decide ((j : Int) < 16) = true := decide_eq_true (by omega)
            go_wp2
            refine wp_region_one (by kernel_rfl) (by kernel_rfl) ?_
            replace hrs : Hid (RowAt wr.drew p 24 (rowOf 32 (w8 y)) ∧ RowAt wr.drew q 40 (rowOf 16 (w8 y))) := hrs
            replace hbl : Below w.heap.size w wr.drew := hbl.drew
            generalize wr.drew = w6 at *
            have c0 := hrs.out.1.cell j (by omega)
            have c1 := hrs.out.2.cell j (by omega)
            unfold w8 at c0 c1
            repeat (first | go_big_quiet_skip | (go_big_quiet_want; go_big_quiet_op; go_big_quiet_on))
            refine wpQuiet_nil ?_
            go_wp2
            go_roundw
            case rel => exact ⟨j + 1, by omega, by go_num, hrs, hbl⟩
            case measure => simp [intOf]; omega
          · have HC : Hid (PartsC w p y wr.drew) := ⟨hrs.out.1, hbl.drew⟩
            have K1 : Hid (∀ w', PartsC w p y w' → Calls Tryd.prog 10 #[.slice a ss.length cap] w' (fun e w'' => e = .returned (.agg (rowOf 32 (w8 y))) ∧ PartsC w p y w'')) :=
              fun w' hw => (P1.out w' hw.2).mono fun e w'' ⟨he, hb⟩ => ⟨he, hw.after hb⟩
            have K2 : Hid (∀ w', PartsC w p y w' → Calls Tryd.prog 11 #[.string r] w' (fun e w'' => e = .returned (.agg (rowOf 32 (w8 y))) ∧ PartsC w p y w'')) :=
              fun w' hw => (R1.out w').mono fun e w'' ⟨he, hb⟩ => ⟨he, hw.after hb⟩
            have eq := eq_hash_same y
            clear P1 R1 hrs hbl
            go_wp2
            refine wp_region_class (PartsC w p y) (by kernel_rfl) (by kernel_rfl) HC.out ?_
            (go_big_quiet_want; go_big_quiet_op; go_big_quiet_on)
            (go_big_quiet_want; go_big_quiet_op; apply Exists.intro; refine ⟨K1.out, ?_⟩; go_big_quiet_on)
            refine wpQuiet_load_row rfl 24 _ rfl p rfl 24 (rowOf 32 (w8 y)) _ (fun w' hw => hw.1) Tryd.underlying24 rfl (info_hash _) ?_
            simp only [Act.put, List.setIfInBounds_toArray, List.set_cons_succ, List.set_cons_zero]
            refine wpQuiet_val rfl (.bool true) (fun w' _ => ?_) ?_
            · go_simp
            simp only [Act.put, List.setIfInBounds_toArray, List.set_cons_succ, List.set_cons_zero]
            (go_big_quiet_want; go_big_quiet_op; go_big_quiet_on)
            refine wpQuiet_load_row rfl 24 _ rfl p rfl 24 (rowOf 32 (w8 y)) _ (fun w' hw => hw.1) Tryd.underlying24 rfl (info_hash _) ?_
            simp only [Act.put, List.setIfInBounds_toArray, List.set_cons_succ, List.set_cons_zero]
            (go_big_quiet_want; go_big_quiet_op; go_big_quiet_on)
            (go_big_quiet_want; go_big_quiet_op; apply Exists.intro; refine ⟨K2.out, ?_⟩; go_big_quiet_on)
            refine wpQuiet_val rfl (.bool true) (fun w' _ => ?_) ?_
            · go_simp
            simp only [Act.put, List.setIfInBounds_toArray, List.set_cons_succ, List.set_cons_zero]
            refine wpQuiet_val rfl (.bool true) (fun w' _ => ?_) ?_
            · go_simp
            simp only [Act.put, List.setIfInBounds_toArray, List.set_cons_succ, List.set_cons_zero]
            (go_big_quiet_want; go_big_quiet_op; go_big_quiet_on)
            refine wpQuiet_nil ?_
            intro w9 hw9
            have b9 := hw9.2
            clear K1 K2 HC hw9 eq
            go_wp2
            go_ret
            exact ⟨rfl, b9⟩

end Go.Proofs.YtjdhakkfekjpbaaDoor
