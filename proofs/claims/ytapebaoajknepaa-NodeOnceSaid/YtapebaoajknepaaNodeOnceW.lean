/-
  The walk of NodeOnce.
-/
import Derived.Test.YtapebaoajknepaaNodeShown
import Derived.Test.YtapebaoajknepaaNodeIts
import Derived.Test.YtapebaoajknepaaNodeRefDec
import Derived.Test.YtapebaoajknepaaNodeRefEnc
import Derived.Test.YtapebaoajknepaaNodeOpen
import Derived.Test.YtapebaoajknepaaAdvStep
namespace Go.Proofs.Ytapebaoajknepaa
open Go.RowKit
set_option linter.unusedVariables false

theorem bytes_eq (X Y : List UInt8) : ((bs X).toList == (bs Y).toList) = decide (X = Y) := by
  rw [ByteArray.toList_eq, ByteArray.toList_eq]
  show (X == Y) = _
  rw [Bool.eq_iff_iff, beq_iff_eq, decide_eq_true_eq]

set_option maxHeartbeats 4000000 in
set_option maxRecDepth 8000 in
theorem once_walk (a : Nod) (ba : ∀ i, i < 4 → BndC (a.c i)) (b : Nod) (bb : ∀ i, i < 4 → BndC (b.c i)) (w : World) :
    Calls Try.prog 9 #[.agg (rowOf 85 (nF a)), .agg (rowOf 85 (nF b))] w fun e w' => e = .returned (.bool true) ∧ Below w.heap.size w w' := by
  have ra : Hid (RowAt ((w.alloc (.cells (rowOf 85 (nF a)) 29)).alloc (.cells (rowOf 85 (nF b)) 29)) w.heap.size 29 (rowOf 85 (nF a))) := (RowAt.new _ _ _).alloc _
  have rb : Hid (RowAt ((w.alloc (.cells (rowOf 85 (nF a)) 29)).alloc (.cells (rowOf 85 (nF b)) 29)) (w.heap.size + 1) 29 (rowOf 85 (nF b))) := by
    have := RowAt.new (w.alloc (.cells (rowOf 85 (nF a)) 29)) 29 (rowOf 85 (nF b))
    rw [World.size_alloc] at this
    exact this
  have b0 := Lib.hid (((Below.refl _ w).alloc (Nat.le_refl _) (.cells (rowOf 85 (nF a)) 29)).alloc (by simp) (.cells (rowOf 85 (nF b)) 29))
  have ENa := Lib.hid (encode_any a ba)
  have ENb := Lib.hid (encode_any b bb)
  have SH := Lib.hid (fun W => shown14_any W)
  cases ha : mayN a with
  | true =>
    cases hb : mayN b with
    | true =>
      rw [show encS a = bs (encN a) from if_pos ha, show encE a = 0 from if_pos ha] at ENa
      rw [show encS b = bs (encN b) from if_pos hb, show encE b = 0 from if_pos hb] at ENb
      have SM : sameN a b = sameN a b := rfl
      have ST := bytes_eq (encN a) (encN b)
      rw [enc_once ha hb ba bb] at ST
      generalize bs (encN a) = s at *
      generalize bs (encN b) = t at *
      replace SM : ∃ r, sameN a b = r := ⟨_, rfl⟩
      obtain ⟨r, SM⟩ := SM
      rw [SM] at ST
      replace SM := Lib.hid SM
      go_enter Try.func9, Try.ntmps9
      go_wp2_with (first | (refine wpList_load_row rfl 29 _ rfl w.heap.size rfl 29 _ (0, 0) _ ra.out Try.underlying29 rfl (infoNod' _) ?_) | (refine wpList_load_row rfl 29 _ rfl (w.heap.size + 1) rfl 29 _ (0, 0) _ rb.out Try.underlying29 rfl (infoNod' _) ?_))
      generalize (w.alloc (.cells (rowOf 85 (nF a)) 29)).alloc (.cells (rowOf 85 (nF b)) 29) = w0 at *
      refine (ENa.out _).mono ?_
      rintro e w1 ⟨rfl, b1⟩
      replace ra := Lib.hid (ra.out.below b1 ra.out.lt)
      replace rb := Lib.hid (rb.out.below b1 rb.out.lt)
      replace b0 := Lib.hid (b0.out.trans (b1.mono b0.out.size))
      clear ENa b1
      go_wp2_with (first | (refine wpList_load_row rfl 29 _ rfl w.heap.size rfl 29 _ (0, 0) _ ra.out Try.underlying29 rfl (infoNod' _) ?_) | (refine wpList_load_row rfl 29 _ rfl (w.heap.size + 1) rfl 29 _ (0, 0) _ rb.out Try.underlying29 rfl (infoNod' _) ?_))
      refine (ENb.out _).mono ?_
      rintro e w1 ⟨rfl, b1⟩
      replace ra := Lib.hid (ra.out.below b1 ra.out.lt)
      replace rb := Lib.hid (rb.out.below b1 rb.out.lt)
      replace b0 := Lib.hid (b0.out.trans (b1.mono b0.out.size))
      clear ENb b1
      go_wp2_with (first | (refine wpList_load_row rfl 29 _ rfl w.heap.size rfl 29 _ (0, 0) _ ra.out Try.underlying29 rfl (infoNod' _) ?_) | (refine wpList_load_row rfl 29 _ rfl (w.heap.size + 1) rfl 29 _ (0, 0) _ rb.out Try.underlying29 rfl (infoNod' _) ?_) | (refine wpList_known rfl (run_eql_nod SM.out rfl rfl rfl _) ?_))
      refine (SH.out _).mono ?_
      rintro e w3 ⟨rfl, b3⟩
      go_wp2
      go_ret
      exact ⟨rfl, b0.out.trans (b3.mono b0.out.size)⟩
    | false =>
      rw [show encS a = bs (encN a) from if_pos ha, show encE a = 0 from if_pos ha] at ENa
      rw [show encS b = bs [] from if_neg (by rw [hb]; decide), show encE b = 1 from if_neg (by rw [hb]; decide)] at ENb
      generalize bs (encN a) = s at *
      have Mb := Lib.hid (fun W => may_any b W)
      rw [hb] at Mb
      clear ha hb
      go_enter Try.func9, Try.ntmps9
      go_wp2_with (first | (refine wpList_load_row rfl 29 _ rfl w.heap.size rfl 29 _ (0, 0) _ ra.out Try.underlying29 rfl (infoNod' _) ?_) | (refine wpList_load_row rfl 29 _ rfl (w.heap.size + 1) rfl 29 _ (0, 0) _ rb.out Try.underlying29 rfl (infoNod' _) ?_))
      generalize (w.alloc (.cells (rowOf 85 (nF a)) 29)).alloc (.cells (rowOf 85 (nF b)) 29) = w0 at *
      refine (ENa.out _).mono ?_
      rintro e w1 ⟨rfl, b1⟩
      replace ra := Lib.hid (ra.out.below b1 ra.out.lt)
      replace rb := Lib.hid (rb.out.below b1 rb.out.lt)
      replace b0 := Lib.hid (b0.out.trans (b1.mono b0.out.size))
      clear ENa b1
      go_wp2_with (first | (refine wpList_load_row rfl 29 _ rfl w.heap.size rfl 29 _ (0, 0) _ ra.out Try.underlying29 rfl (infoNod' _) ?_) | (refine wpList_load_row rfl 29 _ rfl (w.heap.size + 1) rfl 29 _ (0, 0) _ rb.out Try.underlying29 rfl (infoNod' _) ?_))
      refine (ENb.out _).mono ?_
      rintro e w1 ⟨rfl, b1⟩
      replace ra := Lib.hid (ra.out.below b1 ra.out.lt)
      replace rb := Lib.hid (rb.out.below b1 rb.out.lt)
      replace b0 := Lib.hid (b0.out.trans (b1.mono b0.out.size))
      clear ENb b1
      go_wp2_with (refine wpList_wload_row (by kernel_rfl) 29 _ rfl (w.heap.size + 1) rfl 29 _ _ rb.out Try.underlying29 rfl (infoNod' _) ?_)
      refine (Mb.out _).mono ?_
      rintro e w1 ⟨rfl, b1⟩
      replace ra := Lib.hid (ra.out.below b1 ra.out.lt)
      replace rb := Lib.hid (rb.out.below b1 rb.out.lt)
      replace b0 := Lib.hid (b0.out.trans (b1.mono b0.out.size))
      clear Mb b1
      go_wp2_with fail
      refine (SH.out _).mono ?_
      rintro e w3 ⟨rfl, b3⟩
      go_wp2
      go_ret
      exact ⟨rfl, b0.out.trans (b3.mono b0.out.size)⟩
  | false =>
    cases hb : mayN b with
    | true =>
      rw [show encS a = bs [] from if_neg (by rw [ha]; decide), show encE a = 1 from if_neg (by rw [ha]; decide)] at ENa
      rw [show encS b = bs (encN b) from if_pos hb, show encE b = 0 from if_pos hb] at ENb
      generalize bs (encN b) = t at *
      have Ma := Lib.hid (fun W => may_any a W)
      rw [ha] at Ma
      clear ha hb
      go_enter Try.func9, Try.ntmps9
      go_wp2_with (first | (refine wpList_load_row rfl 29 _ rfl w.heap.size rfl 29 _ (0, 0) _ ra.out Try.underlying29 rfl (infoNod' _) ?_) | (refine wpList_load_row rfl 29 _ rfl (w.heap.size + 1) rfl 29 _ (0, 0) _ rb.out Try.underlying29 rfl (infoNod' _) ?_))
      generalize (w.alloc (.cells (rowOf 85 (nF a)) 29)).alloc (.cells (rowOf 85 (nF b)) 29) = w0 at *
      refine (ENa.out _).mono ?_
      rintro e w1 ⟨rfl, b1⟩
      replace ra := Lib.hid (ra.out.below b1 ra.out.lt)
      replace rb := Lib.hid (rb.out.below b1 rb.out.lt)
      replace b0 := Lib.hid (b0.out.trans (b1.mono b0.out.size))
      clear ENa b1
      go_wp2_with (first | (refine wpList_load_row rfl 29 _ rfl w.heap.size rfl 29 _ (0, 0) _ ra.out Try.underlying29 rfl (infoNod' _) ?_) | (refine wpList_load_row rfl 29 _ rfl (w.heap.size + 1) rfl 29 _ (0, 0) _ rb.out Try.underlying29 rfl (infoNod' _) ?_))
      refine (ENb.out _).mono ?_
      rintro e w1 ⟨rfl, b1⟩
      replace ra := Lib.hid (ra.out.below b1 ra.out.lt)
      replace rb := Lib.hid (rb.out.below b1 rb.out.lt)
      replace b0 := Lib.hid (b0.out.trans (b1.mono b0.out.size))
      clear ENb b1
      go_wp2_with (refine wpList_wload_row (by kernel_rfl) 29 _ rfl w.heap.size rfl 29 _ _ ra.out Try.underlying29 rfl (infoNod' _) ?_)
      refine (Ma.out _).mono ?_
      rintro e w1 ⟨rfl, b1⟩
      replace ra := Lib.hid (ra.out.below b1 ra.out.lt)
      replace rb := Lib.hid (rb.out.below b1 rb.out.lt)
      replace b0 := Lib.hid (b0.out.trans (b1.mono b0.out.size))
      clear Ma b1
      go_wp2_with fail
      refine (SH.out _).mono ?_
      rintro e w3 ⟨rfl, b3⟩
      go_wp2
      go_ret
      exact ⟨rfl, b0.out.trans (b3.mono b0.out.size)⟩
    | false =>
      rw [show encS a = bs [] from if_neg (by rw [ha]; decide), show encE a = 1 from if_neg (by rw [ha]; decide)] at ENa
      rw [show encS b = bs [] from if_neg (by rw [hb]; decide), show encE b = 1 from if_neg (by rw [hb]; decide)] at ENb
      have Ma := Lib.hid (fun W => may_any a W)
      rw [ha] at Ma
      have Mb := Lib.hid (fun W => may_any b W)
      rw [hb] at Mb
      clear ha hb
      go_enter Try.func9, Try.ntmps9
      go_wp2_with (first | (refine wpList_load_row rfl 29 _ rfl w.heap.size rfl 29 _ (0, 0) _ ra.out Try.underlying29 rfl (infoNod' _) ?_) | (refine wpList_load_row rfl 29 _ rfl (w.heap.size + 1) rfl 29 _ (0, 0) _ rb.out Try.underlying29 rfl (infoNod' _) ?_))
      generalize (w.alloc (.cells (rowOf 85 (nF a)) 29)).alloc (.cells (rowOf 85 (nF b)) 29) = w0 at *
      refine (ENa.out _).mono ?_
      rintro e w1 ⟨rfl, b1⟩
      replace ra := Lib.hid (ra.out.below b1 ra.out.lt)
      replace rb := Lib.hid (rb.out.below b1 rb.out.lt)
      replace b0 := Lib.hid (b0.out.trans (b1.mono b0.out.size))
      clear ENa b1
      go_wp2_with (first | (refine wpList_load_row rfl 29 _ rfl w.heap.size rfl 29 _ (0, 0) _ ra.out Try.underlying29 rfl (infoNod' _) ?_) | (refine wpList_load_row rfl 29 _ rfl (w.heap.size + 1) rfl 29 _ (0, 0) _ rb.out Try.underlying29 rfl (infoNod' _) ?_))
      refine (ENb.out _).mono ?_
      rintro e w1 ⟨rfl, b1⟩
      replace ra := Lib.hid (ra.out.below b1 ra.out.lt)
      replace rb := Lib.hid (rb.out.below b1 rb.out.lt)
      replace b0 := Lib.hid (b0.out.trans (b1.mono b0.out.size))
      clear ENb b1
      go_wp2_with (refine wpList_wload_row (by kernel_rfl) 29 _ rfl w.heap.size rfl 29 _ _ ra.out Try.underlying29 rfl (infoNod' _) ?_)
      refine (Ma.out _).mono ?_
      rintro e w1 ⟨rfl, b1⟩
      replace ra := Lib.hid (ra.out.below b1 ra.out.lt)
      replace rb := Lib.hid (rb.out.below b1 rb.out.lt)
      replace b0 := Lib.hid (b0.out.trans (b1.mono b0.out.size))
      clear Ma b1
      go_wp2_with (refine wpList_wload_row (by kernel_rfl) 29 _ rfl (w.heap.size + 1) rfl 29 _ _ rb.out Try.underlying29 rfl (infoNod' _) ?_)
      refine (Mb.out _).mono ?_
      rintro e w1 ⟨rfl, b1⟩
      replace ra := Lib.hid (ra.out.below b1 ra.out.lt)
      replace rb := Lib.hid (rb.out.below b1 rb.out.lt)
      replace b0 := Lib.hid (b0.out.trans (b1.mono b0.out.size))
      clear Mb b1
      go_wp2_with fail
      refine (SH.out _).mono ?_
      rintro e w3 ⟨rfl, b3⟩
      go_wp2
      go_ret
      exact ⟨rfl, b0.out.trans (b3.mono b0.out.size)⟩

end Go.Proofs.Ytapebaoajknepaa
