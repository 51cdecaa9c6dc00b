/-
  Contract: shown.
-/
import Derived.Test.YtapebaoajknepaaNodeDec
import Derived.Test.YtapebaoajknepaaNodeEnc
import Derived.Test.YtapebaoajknepaaAdvStep
namespace Go.Proofs.Ytapebaoajknepaa
open Go.RowKit
set_option linter.unusedVariables false

def key7 : Nat → Nat := fun j => if j = 0 then 7 else 0
def chX : Chd := ⟨true, 5, 6, key7, 8, 9⟩
def nodX : Nod := Nod.put ⟨true, fun _ => noChd⟩ 2 chX
theorem nodX_may : mayN nodX = true := by decide
theorem nodX_bnd : ∀ i, i < 4 → BndC (nodX.c i) := fun i hi => by
  by_cases e : i = 2
  · subst e
    exact ⟨fun j hj => by show (if j = 0 then 7 else 0) < 256; split <;> omega, by decide, by decide⟩
  · show BndC (if i = 2 then chX else noChd)
    rw [if_neg e]
    exact BndC.no
theorem nodX_size : (bs (encN nodX)).size = 39 := by rw [bs_size]; decide
theorem nodX_back : decE (encN nodX) = 0 ∧ sameN (decV (encN nodX)) nodX = true := by
  obtain ⟨M, h1, h2⟩ := decN_enc nodX_bnd nodX_may
  unfold decE decV
  rw [h1]
  exact ⟨rfl, h2⟩

set_option maxHeartbeats 4000000 in
set_option maxRecDepth 8000 in
theorem shown14_any (w : World) : Calls Try.prog 17 #[] w fun e w' => e = .returned (.bool true) ∧ Below w.heap.size w w' := by
  have r0 := Lib.hid (RowAt.new w 29 (rowOf 85 (nF ⟨true, fun _ => noChd⟩)))
  have b0 := Lib.hid ((Below.refl _ w).alloc (Nat.le_refl _) (.cells (rowOf 85 (nF ⟨true, fun _ => noChd⟩)) 29))
  have r1 : Hid (RowAt ((w.alloc (.cells (rowOf 85 (nF ⟨true, fun _ => noChd⟩)) 29)).setRow w.heap.size (rowOf 85 (laidV (nF ⟨true, fun _ => noChd⟩) (chF chX) 43 21))) w.heap.size 29 (rowOf 85 (nF nodX))) := (r0.out.setRow _).congr (nF_set ⟨true, fun _ => noChd⟩ 2 chX)
  have b1 := Lib.hid (below_setRow' b0.out (Nat.le_refl _) (rowOf 85 (laidV (nF ⟨true, fun _ => noChd⟩) (chF chX) 43 21)))
  have EN := Lib.hid (encode_any nodX nodX_bnd)
  have es : encS nodX = bs (encN nodX) := if_pos nodX_may
  have ee : encE nodX = 0 := if_pos nodX_may
  rw [es, ee] at EN
  obtain ⟨de, sm⟩ := nodX_back
  have DE := Lib.hid (decode_any (bs (encN nodX)))
  have SM := Lib.hid sm
  have SZ := nodX_size
  rw [show (bs (encN nodX)).data.toList = encN nodX from rfl, de] at DE
  clear es ee de sm
  generalize decV (encN nodX) = M at *
  generalize bs (encN nodX) = s at *
  go_enter Try.func17, Try.ntmps17
  go_wp2_with (first | (refine wpList_buildTo rfl 29 _ rfl _ rfl (rowOf 85 (nF ⟨true, fun _ => noChd⟩)) (by kernel_rfl) ?_) | (refine wpList_new rfl (run_allocNod rfl _) ?_) | (refine wpList_store_row rfl 29 _ _ rfl w.heap.size (rowOf 85 (nF ⟨true, fun _ => noChd⟩)) rfl rfl 29 _ (RowAt.new _ _ _) (infoNod' _) (by simp only [rowOf_size]) (nF_all' _) ?_; rw [World.setRow_alloc_new]) | (refine wpList_buildTo rfl 23 _ rfl _ rfl (rowOf 16 (w8 key7)) (by kernel_rfl) ?_) | (refine wpList_buildTo rfl 26 _ rfl _ rfl (rowOf 21 (chF chX)) (by kernel_rfl) ?_) | (refine wpList_store_at rfl 26 _ _ rfl w.heap.size 43 85 21 (nF ⟨true, fun _ => noChd⟩) (chF chX) rfl rfl 29 r0.out infoChd (rowOf_oneC (chF_one _)) (by decide) ?_) | (refine wpList_load_row rfl 29 _ rfl w.heap.size rfl 29 _ (0, 0) _ r1.out Try.underlying29 rfl (infoNod' _) ?_))
  generalize (w.alloc (.cells (rowOf 85 (nF ⟨true, fun _ => noChd⟩)) 29)).setRow w.heap.size (rowOf 85 (laidV (nF ⟨true, fun _ => noChd⟩) (chF chX) 43 21)) = w1 at *
  refine (EN.out w1).mono ?_
  rintro e w2 ⟨rfl, b2⟩
  replace r1 := Lib.hid (r1.out.below b2 r1.out.lt)
  replace b1 := Lib.hid (b1.out.trans (b2.mono b1.out.size))
  clear EN b2 r0 b0
  go_wp2_with fail
  refine (DE.out w2).mono ?_
  rintro e w3 ⟨rfl, b3⟩
  replace r1 := Lib.hid ((r1.out.below b3 r1.out.lt).alloc (.cells (rowOf 85 (nF M)) 29))
  replace b1 := Lib.hid (b1.out.trans (b3.mono b1.out.size))
  have r4 := Lib.hid (RowAt.new w3 29 (rowOf 85 (nF M)))
  have b4 := Lib.hid (b1.out.alloc b1.out.size (.cells (rowOf 85 (nF M)) 29))
  clear DE b3 b1
  go_wp2_with (first | (refine wpList_new rfl (run_allocNod rfl _) ?_) | (refine wpList_store_row rfl 29 _ _ rfl w3.heap.size (rowOf 85 (nF M)) rfl rfl 29 _ (RowAt.new _ _ _) (infoNod' _) (by simp only [rowOf_size]) (nF_all' _) ?_; rw [World.setRow_alloc_new]) | (refine wpList_wload_row (by kernel_rfl) 29 _ rfl w3.heap.size rfl 29 _ _ r4.out Try.underlying29 rfl (infoNod' _) ?_) | (refine wpList_wload_row (by kernel_rfl) 29 _ rfl w.heap.size rfl 29 _ _ r1.out Try.underlying29 rfl (infoNod' _) ?_) | (refine wpList_wknown (by kernel_rfl) (run_eql_nod SM.out rfl rfl rfl _) ?_))
  go_ret
  exact ⟨rfl, b4⟩

end Go.Proofs.Ytapebaoajknepaa
