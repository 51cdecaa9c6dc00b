/-
  The walk of the law ShaShort.
-/
import Derived.Test.YtjdhakkfekjpbaaDoorShaEq
import Derived.Test.YtjdhakkfekjpbaaDoorShaOpen
namespace Go.Proofs.YtjdhakkfekjpbaaDoor
open Go.RowKit

/-- Are the first j places the same? -/
def sameTo (f g : Nat → Nat) (j : Nat) : Bool := (List.range j).all fun i => ((f i : Nat) : Int) == ((g i : Nat) : Int)

theorem sameTo_succ (f g : Nat → Nat) (j : Nat) : sameTo f g (j + 1) = (sameTo f g j && (((f j : Nat) : Int) == ((g j : Nat) : Int))) := by
  unfold sameTo
  rw [List.range_succ, List.all_append]
  simp

set_option maxHeartbeats 1000000 in
set_option maxRecDepth 8000 in
theorem walk_ShaShort (f : Nat → Nat) (hf : Bytes f) (g : Nat → Nat) (hg : Bytes g) (w : World) (hk : KRow w) :
    Calls Tryd.prog 7 #[.agg (rowOf 32 (w8 f)), .agg (rowOf 32 (w8 g))] w fun e w' => e = .returned (.bool true) ∧ Below w.heap.size w w' := by
  have HK := Lib.hid hk
  have HF := Lib.hid hf
  have HG := Lib.hid hg
  clear hk hf hg
  have a0 : Hid (RowAt ((w.alloc (.cells (rowOf 32 (w8 f)) 24)).alloc (.cells (rowOf 32 (w8 g)) 24)) w.heap.size 24 (rowOf 32 (w8 f))) := (RowAt.new _ _ _).alloc _
  have a1 : Hid (RowAt ((w.alloc (.cells (rowOf 32 (w8 f)) 24)).alloc (.cells (rowOf 32 (w8 g)) 24)) (w.heap.size + 1) 24 (rowOf 32 (w8 g))) := row_second w _ _ _
  have b0 : Below w.heap.size w ((w.alloc (.cells (rowOf 32 (w8 f)) 24)).alloc (.cells (rowOf 32 (w8 g)) 24)) := ((Below.refl _ _).alloc (Nat.le_refl _) _).alloc (by simp) _
  go_enter Tryd.func7, Tryd.ntmps7
  go_wp2_with (refine wpList_load_row rfl 24 _ rfl w.heap.size rfl 24 _ (0, 0) _ a0.out Tryd.underlying24 rfl (info_hash _) ?_)
  generalize (w.alloc (.cells (rowOf 32 (w8 f)) 24)).alloc (.cells (rowOf 32 (w8 g)) 24) = w1 at *
  refine (short_any f w1).mono ?_
  rintro e w2 ⟨rfl, hb2⟩
  replace a1 : Hid (RowAt w2 (w.heap.size + 1) 24 (rowOf 32 (w8 g))) := a1.out.below hb2 a1.out.lt
  replace a0 : Hid (RowAt w2 w.heap.size 24 (rowOf 32 (w8 f))) := a0.out.below hb2 a0.out.lt
  replace b0 : Below w.heap.size w w2 := b0.trans (hb2.mono b0.size)
  clear hb2
  go_wp2_with (first | (refine wpList_store_row rfl 40 _ _ rfl w2.heap.size (rowOf 16 (w8 f)) rfl rfl 40 _ (RowAt.new _ _ _) (info_key _) (by rw [rowOf_size]; rfl) (rowOf_cells8 _ _) ?_; rw [World.setRow_alloc_new]; have x1 := Lib.hid (RowAt.new w2 40 (rowOf 16 (w8 f))); replace a1 := Lib.hid (a1.out.alloc (.cells (rowOf 16 (w8 f)) 40)); replace a0 := Lib.hid (a0.out.alloc (.cells (rowOf 16 (w8 f)) 40)); replace b0 := b0.alloc b0.size (.cells (rowOf 16 (w8 f)) 40); generalize w2.alloc _ = w3 at *; generalize w2.heap.size = p at *) | (refine wpList_load_row rfl 24 _ rfl (w.heap.size + 1) rfl 24 _ (0, 0) _ a1.out Tryd.underlying24 rfl (info_hash _) ?_))
  refine (short_any g w3).mono ?_
  rintro e w4 ⟨rfl, hb4⟩
  replace a1 : Hid (RowAt w4 (w.heap.size + 1) 24 (rowOf 32 (w8 g))) := a1.out.below hb4 a1.out.lt
  replace a0 : Hid (RowAt w4 w.heap.size 24 (rowOf 32 (w8 f))) := a0.out.below hb4 a0.out.lt
  replace x1 : Hid (RowAt w4 p 40 (rowOf 16 (w8 f))) := x1.out.below hb4 x1.out.lt
  replace b0 : Below w.heap.size w w4 := b0.trans (hb4.mono b0.size)
  clear hb4
  go_wp2_with (first | (refine wpList_store_row rfl 40 _ _ rfl w4.heap.size (rowOf 16 (w8 g)) rfl rfl 40 _ (RowAt.new _ _ _) (info_key _) (by rw [rowOf_size]; rfl) (rowOf_cells8 _ _) ?_; rw [World.setRow_alloc_new]; have x2 := Lib.hid (RowAt.new w4 40 (rowOf 16 (w8 g))); replace x1 := Lib.hid (x1.out.alloc (.cells (rowOf 16 (w8 g)) 40)); replace a1 := Lib.hid (a1.out.alloc (.cells (rowOf 16 (w8 g)) 40)); replace a0 := Lib.hid (a0.out.alloc (.cells (rowOf 16 (w8 g)) 40)); replace b0 := b0.alloc b0.size (.cells (rowOf 16 (w8 g)) 40); generalize w4.alloc _ = w5 at *; generalize w4.heap.size = q at *))
  go_loopw [7, 8] (fun t i wr => ∃ (j : Nat) (b : Bool), j ≤ 16 ∧ i = .int .i64 j ∧ t = .bool b ∧ Hid (b = sameTo f g j) ∧ Hid (RowAt wr w.heap.size 24 (rowOf 32 (w8 f)) ∧ RowAt wr (w.heap.size + 1) 24 (rowOf 32 (w8 g)) ∧ RowAt wr p 40 (rowOf 16 (w8 f)) ∧ RowAt wr q 40 (rowOf 16 (w8 g))) ∧ Below w.heap.size w wr)
    (fun _ i _ => 16 - (intOf i).toNat)
  case atStart => exact ⟨0, true, by omega, rfl, rfl, rfl, ⟨a0.out, a1.out, x1.out, x2.out⟩, b0⟩
  case round =>
    clear a0 a1 x1 x2 b0
    obtain ⟨j, b, hj, rfl, rfl, hbe, hrs, hbl⟩ := hrel
    by_cases hlt : j < 16
    · have es := Lib.hid (sameTo_succ f g j)
      rw [← hbe.out] at es
      have hd : decide ((j : Int) < 16) = true := decide_eq_true (by omega)
      go_wp2
      refine wp_region_one (by kernel_rfl) (by kernel_rfl) ?_
      replace hrs : Hid (RowAt wr.drew w.heap.size 24 (rowOf 32 (w8 f)) ∧ RowAt wr.drew (w.heap.size + 1) 24 (rowOf 32 (w8 g)) ∧ RowAt wr.drew p 40 (rowOf 16 (w8 f)) ∧ RowAt wr.drew q 40 (rowOf 16 (w8 g))) := hrs
      replace hbl : Below w.heap.size w wr.drew := hbl.drew
      generalize wr.drew = w6 at *
      have c0 := hrs.out.1.cell j (by omega)
      have c1 := hrs.out.2.1.cell j (by omega)
      unfold w8 at c0 c1
      obtain ⟨x, hx⟩ : ∃ x, f j = x := ⟨_, rfl⟩
      obtain ⟨y, hy⟩ : ∃ y, g j = y := ⟨_, rfl⟩
      rw [hx] at c0 es
      rw [hy] at c1 es
      clear hx hy
      cases b
      · repeat (first | go_big_quiet_skip | (go_big_quiet_want; go_big_quiet_op; go_big_quiet_on))
        refine wpQuiet_nil ?_
        go_wp2
        go_roundw
        case rel => exact ⟨j + 1, false, by omega, by go_num, rfl, by rw [es.out]; rfl, hrs, hbl⟩
        case measure => simp [intOf]; omega
      · by_cases hxy : x = y
        · subst hxy
          repeat (first | go_big_quiet_skip | (go_big_quiet_want; go_big_quiet_op; go_big_quiet_on))
          refine wpQuiet_nil ?_
          go_wp2
          go_roundw
          case rel => exact ⟨j + 1, true, by omega, by go_num, rfl, by rw [es.out]; simp [Hid], hrs, hbl⟩
          case measure => simp [intOf]; omega
        · have hne : ((x : Int) == (y : Int)) = false := by simp; omega
          repeat (first | go_big_quiet_skip | (go_big_quiet_want; go_big_quiet_op; go_big_quiet_on))
          refine wpQuiet_nil ?_
          go_wp2
          go_roundw
          case rel => exact ⟨j + 1, false, by omega, by go_num, rfl, by rw [es.out, hne]; rfl, hrs, hbl⟩
          case measure => simp [intOf]; omega
    · have : j = 16 := by omega
      subst this
      have eq := eq_key f g
      have eb : Hid (b = ((List.range 16).all fun i => ((f i : Nat) : Int) == ((g i : Nat) : Int))) := hbe.out
      rw [← eb.out] at eq
      have x1' := Lib.hid hrs.out.2.2.1
      have x2' := Lib.hid hrs.out.2.2.2
      have b5 := hbl
      clear hbe eb hbl
      have hk6 : Hid (KRow wr) := HK.out.below b5 HK.out.1 b5.size
      go_wp2_with (first | (refine wpList_load_row rfl 40 _ rfl p rfl 40 _ (0, 0) _ x1'.out Tryd.underlying40 rfl (info_key _) ?_) | (refine wpList_load_row rfl 40 _ rfl q rfl 40 _ (0, 0) _ x2'.out Tryd.underlying40 rfl (info_key _) ?_))
      refine (shown_any _ hk6).mono ?_
      rintro e w7 ⟨rfl, hb7⟩
      go_wp2
      go_ret
      exact ⟨rfl, b5.trans (hb7.mono b5.size)⟩

end Go.Proofs.YtjdhakkfekjpbaaDoor
