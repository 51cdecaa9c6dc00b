/-
  Walk: DrawCopies.
-/
import Derived.Test.YtedmdojmgccclaaDoorDrawTells
import Derived.Test.YtedmdojmgccclaaDoorDrawOver
namespace Go.Proofs.YtedmdojmgccclaaDoor
open Go.RowKit

set_option maxHeartbeats 4000000 in
set_option maxRecDepth 8000 in
theorem walk_DrawCopies (a : Option Addr) (l c : Nat) (K : Nat → Nat → Nat) (n0 : Int) (wn : (Lit.int .u8 n0).wf = true) (w : World) (hk : KRow w) (hc : CameKeys w a l c K) :
    Calls Tryd.prog 5 #[.slice a l c, .int .u8 n0] w fun e w' => e = .returned (.bool true) ∧ Below w.heap.size w w' := by
  obtain ⟨n, rfl⟩ : ∃ n : Nat, n0 = (n : Int) := ⟨n0.toNat, by have := wf7_u8 wn; omega⟩
  have hn : n < 256 := by have := wf7_u8 wn; omega
  replace hk := Lib.hid hk
  have S0 := Lib.hid (shown7_any w hk)
  obtain ⟨hs, hlc, hK, hnil⟩ := hc
  replace hs := Lib.hid hs
  replace hnil := Lib.hid hnil
  have hnot : ∀ (x : Bool) (w : World), (Op.unary .not (.bool x)).run Tryd.prog w = .ok (.bool (!x)) w := fun _ _ => rfl
  clear wn hK hk
  by_cases hl : l ≤ 100
  · have d1 : ¬ (l : Int) > 100 := by omega
    have l6 : l ≤ 1000000 := by omega
    go_enter Tryd.func5, Tryd.ntmps5
    go_wp2_with fail
    refine S0.out.mono ?_
    rintro e w1 ⟨rfl, b1⟩
    clear S0
    have o1 : Hid ((w1.alloc (.cells #[] 27)).ownsRow w1.heap.size 27 16 (.slice (some ⟨w1.heap.size, 0, none⟩) 0 0) 0 []) := World.ownsRow_made w1 #[] 0 (Nat.le_refl _) (by decide) rfl
    have b2 : Below w1.heap.size w1 (w1.alloc (.cells #[] 27)) := (Below.refl _ _).alloc (Nat.le_refl _) _
    have s2 := Lib.hid ((hs.out.after b1).after b2)
    go_wp2_with (first | (refine wpList_append_keys rfl _ _ rfl w1.heap.size _ rfl o1.out b2.size a l c rfl K s2.out l6 hnil.out ?_; intro vi w3 oi gi; replace oi := Lib.hid oi; replace gi := Lib.hid gi; obtain ⟨ai, ci, rfl, si, _, _, _⟩ := own_seesK oi.out))
    obtain ⟨_, _, e', vi, hvi⟩ := own_over oi.out
    cases e'
    replace si := Lib.hid si
    replace vi := Lib.hid vi
    replace hvi : Hid (∀ g, ai = some ⟨g, 0, none⟩ → w1.heap.size ≤ g ∧ g < w3.heap.size) := hvi
    have b3 : Below w.heap.size w w3 := (b1.trans (b2.mono b1.size)).grown gi.out (Nat.le_trans b1.size b2.size) (fun k hk' => by cases hk'; exact b1.size)
    clear o1 b2 s2 oi gi
    have N3 := Lib.hid (drawNew_any l l6 K ai ci w3 si)
    refine N3.out.mono ?_
    rintro e w4 ⟨p, a1, c1, rfl, D4, hb4⟩
    clear N3
    have fi : Hid (∀ g, ai = some ⟨g, 0, none⟩ → w.heap.size ≤ g ∧ g ≠ p ∧ ∀ ad, a1 = some ad → ad.block ≠ g) := fun g e => by
      have h1 := hvi.out g e
      refine ⟨Nat.le_trans b1.size h1.1, fun e2 => ?_, fun ad e2 => ?_⟩
      · have := D4.out.here; omega
      · have := (D4.out.away ad e2).1; omega
    replace vi := Lib.hid (vi.out.after hb4)
    replace D4 := Lib.hid (D4.out.base b3.size)
    replace b3 := b3.trans (hb4.mono b3.size)
    have hp := D4.out.here
    clear hb4 hvi b1 hnil
    obtain ⟨k, hk⟩ : ∃ k : Nat, ((n : Int) % 10 < (l : Int) ∧ (k : Int) = (n : Int) % 10) ∨ ((l : Int) ≤ (n : Int) % 10 ∧ (k : Int) = (l : Int)) := by
      by_cases h : n % 10 < l
      · exact ⟨n % 10, by omega⟩
      · exact ⟨l, by omega⟩
    have kl : k ≤ l := by omega
    have k6 : k ≤ 1000000 := by omega
    have kc : k ≤ c := by omega
    replace hk := Lib.hid hk
    go_wp2_with (refine wpList_min2 rfl _ _ rfl rfl ((n : Int) % 10) (l : Int) (k : Int) rfl rfl hk.out ?_)
    clear hk
    go_loopw [8] (fun v wr => ∃ i : Nat, i ≤ k ∧ v = .int .i64 i ∧ Hid (Dr w.heap.size wr p a1 l c1 K i) ∧ Hid (OverK wr ai l) ∧ Below w.heap.size w wr) (fun v _ => k - (intOf v).toNat)
    case atStart => exact ⟨0, Nat.zero_le _, rfl, D4, vi, b3⟩
    case round =>
      clear D4 vi b3
      obtain ⟨i, hi, rfl, D4, vi, b3⟩ := hrel
      by_cases hlt : i < k
      · have li : (i : Int) < (k : Int) := by omega
        have N4 := Lib.hid (drawNext_yes w.heap.size p l c1 i l6 a1 K _ D4 (by omega))
        go_wp2_with fail
        refine N4.out.mono ?_
        rintro e w5 ⟨rfl, D5, ap5⟩
        clear N4
        have v5 := Lib.hid (vi.out.apart ap5 fun g e => (fi.out g e).2.1)
        have b5 := b3.trans (ap5.under hp b3.size)
        clear ap5 D4 vi b3
        go_wp2
        go_roundw
        case rel => exact ⟨i + 1, by omega, by go_num, D5, v5, b5⟩
        case measure => simp [intOf]; omega
      · have li : ¬ (i : Int) < (k : Int) := by omega
        have ei : i = k := by omega
        subst ei
        clear hi hlt
        have U4 := Lib.hid (drawUsed_any w.heap.size p l c1 i l6 a1 K _ D4)
        go_wp2_with fail
        refine U4.out.mono ?_
        rintro e w5 ⟨v, rfl, ou, hb5⟩
        obtain ⟨au, cu, rfl, su, _, _, _⟩ := own_seesK ou.out
        obtain ⟨_, _, e', vu, hvu⟩ := own_over ou.out
        cases e'
        replace su := Lib.hid su
        replace vu := Lib.hid vu
        have fu : Hid (∀ g, au = some ⟨g, 0, none⟩ → w.heap.size ≤ g ∧ p ≠ g ∧ (∀ ad, a1 = some ad → ad.block ≠ g) ∧ ∀ g', ai = some ⟨g', 0, none⟩ → g' ≠ g) := fun g e => by
          have h1 := (hvu g e).1
          refine ⟨Nat.le_trans b3.size h1, ?_, fun ad e2 => ?_, fun g' e2 => ?_⟩
          · have := D4.out.row.lt; omega
          · have := (D4.out.away ad e2).2.1; omega
          · obtain ⟨L, F, _, hr⟩ := vi.out.2 g' e2
            have := hr.lt; omega
        replace D4 := Lib.hid (D4.out.after hb5)
        replace vi := Lib.hid (vi.out.after hb5)
        replace b3 := b3.trans (hb5.mono b3.size)
        clear hb5 U4 ou hvu
        go_wp2
        go_loopw [10] (fun v wr' => ∃ j : Nat, j ≤ i ∧ v = .int .i64 j ∧ Hid (Dr w.heap.size wr' p a1 l c1 K i) ∧ Hid (OverK wr' ai l) ∧ Hid (OverK wr' au i) ∧ Below w.heap.size w wr') (fun v _ => i - (intOf v).toNat)
        case atStart => exact ⟨0, Nat.zero_le _, rfl, D4, vi, vu, b3⟩
        case round =>
          clear D4 vi vu b3
          obtain ⟨j, hj, rfl, D4, vi, vu, b3⟩ := hrel
          by_cases hlt : j < i
          · have lj : (j : Int) < (i : Int) := by omega
            obtain ⟨g, eg⟩ := vu.out.1 (by omega)
            obtain ⟨L, F, hL, hr⟩ := vu.out.2 g eg
            have ea := Lib.hid (congrArg (fun z => Value.pointer (some z)) (elA_at eg j))
            have hL2 : j * 16 + 16 ≤ L := by omega
            have hf := fu.out g eg
            have D5 := Lib.hid (D4.out.far (rowOf L (laidV F (w8 nineN) (j * 16) 16)) hf.2.1 hf.2.2.1)
            have v5 := Lib.hid (vi.out.far (rowOf L (laidV F (w8 nineN) (j * 16) 16)) hf.2.2.2)
            have u5 := Lib.hid (OverK.self (G := laidV F (w8 nineN) (j * 16) 16) hr hL eg)
            have b5 := below_setRow' b3 hf.1 (rowOf L (laidV F (w8 nineN) (j * 16) 16))
            replace hr := Lib.hid hr
            replace eg := Lib.hid eg
            clear hf D4 vi vu b3
            go_wp2_with (first | (refine wpList_known rfl (run_index_el su.out hlt rfl rfl rfl _) ?_) | (refine wpList_store_at rfl 27 _ _ rfl g (j * 16) L 16 F (w8 nineN) ea.out rfl 27 hr.out (by kernel_rfl) (rowOf_cells8 _ _) hL2 ?_))
            go_roundw
            case rel => exact ⟨j + 1, by omega, by go_num, D5, v5, u5, b5⟩
            case measure => simp [intOf]; omega
          · have lj : ¬ (j : Int) < (i : Int) := by omega
            clear hlt vu su fu
            go_wp2
            go_loopw [11] (fun v wr'' => ∃ m : Nat, m ≤ l ∧ v = .int .i64 m ∧ Hid (Dr w.heap.size wr'' p a1 l c1 K i) ∧ Hid (OverK wr'' ai l) ∧ Below w.heap.size w wr'') (fun v _ => l - (intOf v).toNat)
            case atStart => exact ⟨0, Nat.zero_le _, rfl, D4, vi, b3⟩
            case round =>
              clear D4 vi b3
              obtain ⟨m, hm, rfl, D4, vi, b3⟩ := hrel
              by_cases hlt : m < l
              · have lm : (m : Int) < (l : Int) := by omega
                obtain ⟨g, eg⟩ := vi.out.1 (by omega)
                obtain ⟨L, F, hL, hr⟩ := vi.out.2 g eg
                have ea := Lib.hid (congrArg (fun z => Value.pointer (some z)) (elA_at eg m))
                have hL2 : m * 16 + 16 ≤ L := by omega
                have hf := fi.out g eg
                have D5 := Lib.hid (D4.out.far (rowOf L (laidV F (w8 eightN) (m * 16) 16)) (fun e => hf.2.1 e.symm) hf.2.2)
                have v5 := Lib.hid (OverK.self (G := laidV F (w8 eightN) (m * 16) 16) hr hL eg)
                have b5 := below_setRow' b3 hf.1 (rowOf L (laidV F (w8 eightN) (m * 16) 16))
                replace hr := Lib.hid hr
                replace eg := Lib.hid eg
                clear hf D4 vi b3
                go_wp2_with (first | (refine wpList_known rfl (run_index_el si.out hlt rfl rfl rfl _) ?_) | (refine wpList_store_at rfl 27 _ _ rfl g (m * 16) L 16 F (w8 eightN) ea.out rfl 27 hr.out (by kernel_rfl) (rowOf_cells8 _ _) hL2 ?_))
                go_roundw
                case rel => exact ⟨m + 1, by omega, by go_num, D5, v5, b5⟩
                case measure => simp [intOf]; omega
              · have lm : ¬ (m : Int) < (l : Int) := by omega
                clear hlt vi si fi
                have sl := slice_head a l c i kc
                have s3 := Lib.hid (hs.out.after b3)
                go_wp2
                have HC : TellC w.heap.size wr p a1 l c1 K i a wr.drew := ⟨⟨(Below.refl _ _).drew, D4.out.after (Below.refl _ _).drew⟩, s3.out.after (Below.refl _ _).drew⟩
                refine wp_region_steady (TellC w.heap.size wr p a1 l c1 K i a) [eqv (.pointer (some ⟨p, 0, none⟩)), keysv w.heap.size i K, eqv (.slice a l c), eqv (.int .i64 (i : Int)), eqv (.slice a i c), eqv (.bool true), eqv (.bool false)] (by kernel_rfl) (by kernel_rfl) HC
                  (.cons (steady_eqv _) (.cons (steady_keysv _ _ _) (.cons (steady_eqv _) (.cons (steady_eqv _) (.cons (steady_eqv _) (.cons (steady_eqv _) (.cons (steady_eqv _) .nil))))))) ?_
                intro R hR
                refine wpRely_cons (fun w' hC hf => ?_) (fun v0 => ?_)
                · (repeat (first | (obtain ⟨rfl, hf⟩ := hf) | (obtain ⟨⟨q, rfl, hq⟩, hf⟩ := hf) | (obtain ⟨_, hf⟩ := hf)))
                  exact grows_eqv (by rfl) hC (by go_simp)
                simp only [Act.put, List.setIfInBounds_toArray, List.set_cons_succ, List.set_cons_zero, List.nil_append]
                refine wpRely_cons (fun w' hC hf => ?_) (fun v1 => ?_)
                · (repeat (first | (obtain ⟨rfl, hf⟩ := hf) | (obtain ⟨⟨q, rfl, hq⟩, hf⟩ := hf) | (obtain ⟨_, hf⟩ := hf)))
                  exact grows_keys hR (fun _ _ hb h => h.after hb) hC (Nat.le_trans b3.size hC.draws.1.size) (by rfl) (by go_simp) (drawUsed_any w.heap.size p l c1 i l6 a1 K w' hC.draws.2)
                simp only [Act.put, List.setIfInBounds_toArray, List.set_cons_succ, List.set_cons_zero, List.nil_append, List.cons_append]
                refine wpRely_cons (fun w' hC hf => ?_) (fun v2 => ?_)
                · (repeat (first | (obtain ⟨rfl, hf⟩ := hf) | (obtain ⟨⟨q, rfl, hq⟩, hf⟩ := hf) | (obtain ⟨_, hf⟩ := hf)))
                  exact grows_eqv (by rfl) hC (by go_simp)
                simp only [Act.put, List.setIfInBounds_toArray, List.set_cons_succ, List.set_cons_zero, List.nil_append, List.cons_append]
                refine wpRely_cons (fun w' hC hf => ?_) (fun v3 => ?_)
                · (repeat (first | (obtain ⟨rfl, hf⟩ := hf) | (obtain ⟨⟨q, rfl, hq⟩, hf⟩ := hf) | (obtain ⟨_, hf⟩ := hf)))
                  exact grows_eqv (by rfl) hC (by go_simp)
                simp only [Act.put, List.setIfInBounds_toArray, List.set_cons_succ, List.set_cons_zero, List.nil_append, List.cons_append]
                refine wpRely_cons (fun w' hC hf => ?_) (fun v4 => ?_)
                · (repeat (first | (obtain ⟨rfl, hf⟩ := hf) | (obtain ⟨⟨q, rfl, hq⟩, hf⟩ := hf) | (obtain ⟨_, hf⟩ := hf)))
                  exact grows_eqv (by rfl) hC (by go_simp)
                simp only [Act.put, List.setIfInBounds_toArray, List.set_cons_succ, List.set_cons_zero, List.nil_append, List.cons_append]
                refine wpRely_cons (fun w' hC hf => ?_) (fun v5 => ?_)
                · skip
                  obtain ⟨hv, rfl, _⟩ := hf
                  obtain ⟨a3, c3, rfl, q3, _⟩ := own_seesK hv
                  exact grows_calls hR (fun _ _ hb h => h.after hb) hC (by rfl) (by go_simp) (same_yes i k6 K a3 a c3 c w' q3 (hC.keys.take kl))
                simp only [Act.put, List.setIfInBounds_toArray, List.set_cons_succ, List.set_cons_zero, List.nil_append, List.cons_append]
                refine wpRely_cons (fun w' hC hf => ?_) (fun v6 => ?_)
                · (repeat (first | (obtain ⟨rfl, hf⟩ := hf) | (obtain ⟨⟨q, rfl, hq⟩, hf⟩ := hf) | (obtain ⟨_, hf⟩ := hf)))
                  exact grows_eqv (by rfl) hC (by go_simp)
                simp only [Act.put, List.setIfInBounds_toArray, List.set_cons_succ, List.set_cons_zero, List.nil_append, List.cons_append]
                refine wpRely_nil fun w9 hC hf => ?_
                obtain ⟨_, _, _, _, _, _, rfl, _⟩ := hf
                have D9 := Lib.hid hC.draws.2
                have b9 := b3.trans (hC.draws.1.mono b3.size)
                clear hC HC D4 b3 s3 sl
                go_wp2
                go_loopw [12] (fun v wr3 => ∃ t : Nat, t ≤ l ∧ v = .int .i64 t ∧ Hid (Dr w.heap.size wr3 p a1 l c1 K t) ∧ Below w.heap.size w wr3) (fun v _ => l - (intOf v).toNat)
                case atStart => exact ⟨i, kl, rfl, D9, b9⟩
                case round =>
                  clear D9 b9
                  obtain ⟨t, ht, rfl, D3, b3⟩ := hrel
                  by_cases hil : t < l
                  · have lt : (t : Int) < (l : Int) := by omega
                    have N3 := Lib.hid (drawNext_yes w.heap.size p l c1 t l6 a1 K _ D3 hil)
                    go_wp2_with fail
                    refine N3.out.mono ?_
                    rintro e w4 ⟨rfl, D4, ap4⟩
                    replace b3 := b3.trans (ap4.under hp b3.size)
                    clear N3 D3 ap4
                    have z4 := Lib.hid (RowAt.new w4 27 (rowOf 16 (w8 zeroN)))
                    have r5 := Lib.hid (RowAt.new w4 27 (rowOf 16 (w8 (K t))))
                    have b5 : Below w4.heap.size w4 (w4.alloc (.cells (rowOf 16 (w8 (K t))) 27)) := (Below.refl _ _).alloc (Nat.le_refl _) _
                    have D5 := Lib.hid (D4.out.after b5)
                    replace b3 := b3.trans (b5.mono b3.size)
                    have s5 := Lib.hid (hs.out.after b3)
                    clear D4 b5
                    go_wp2_with (refine wpList_store_row rfl 27 _ _ rfl w4.heap.size (rowOf 16 (w8 (K t))) rfl rfl 27 _ z4.out (info_key _) (by rw [rowOf_size, rowOf_size]) (rowOf_cells8 _ _) ?_; rw [World.setRow_alloc_new]; generalize w4.alloc (.cells (rowOf 16 (w8 (K t))) 27) = w5 at *)
                    have HC : TellR w.heap.size w5 p a1 l c1 K (t + 1) a w4.heap.size (K t) w5.drew := ⟨⟨⟨(Below.refl _ _).drew, D5.out.after (Below.refl _ _).drew⟩, s5.out.after (Below.refl _ _).drew⟩, r5.out⟩
                    clear D5 s5 r5 z4
                    refine wp_region_steady (TellR w.heap.size w5 p a1 l c1 K (t + 1) a w4.heap.size (K t)) [eqv (.agg (rowOf 16 (w8 (K t)))), eqv (.slice a l c), eqv (.int .i64 (t : Int)), eqv (.pointer (some (elA a t))), eqv (.agg (rowOf 16 (w8 (K t)))), eqv (.bool false), eqv (.bool false), eqv (.int .i64 0), eqv (.bool false), eqv (.bool false)] (by kernel_rfl) (by kernel_rfl) HC
                      (.cons (steady_eqv _) (.cons (steady_eqv _) (.cons (steady_eqv _) (.cons (steady_eqv _) (.cons (steady_eqv _) (.cons (steady_eqv _) (.cons (steady_eqv _) (.cons (steady_eqv _) (.cons (steady_eqv _) (.cons (steady_eqv _) .nil)))))))))) ?_
                    intro R hR
                    refine wpRely_cons (fun w' hC hf => ?_) (fun v0 => ?_)
                    · (repeat (first | (obtain ⟨rfl, hf⟩ := hf) | (obtain ⟨⟨q, rfl, hq⟩, hf⟩ := hf) | (obtain ⟨_, hf⟩ := hf)))
                      exact grows_load (by rfl) hC rfl rfl (hC.row) Tryd.underlying27 rfl (info_key _)
                    simp only [Act.put, List.setIfInBounds_toArray, List.set_cons_succ, List.set_cons_zero, List.nil_append]
                    refine wpRely_cons (fun w' hC hf => ?_) (fun v1 => ?_)
                    · (repeat (first | (obtain ⟨rfl, hf⟩ := hf) | (obtain ⟨⟨q, rfl, hq⟩, hf⟩ := hf) | (obtain ⟨_, hf⟩ := hf)))
                      exact grows_eqv (by rfl) hC (by go_simp)
                    simp only [Act.put, List.setIfInBounds_toArray, List.set_cons_succ, List.set_cons_zero, List.nil_append, List.cons_append]
                    refine wpRely_cons (fun w' hC hf => ?_) (fun v2 => ?_)
                    · (repeat (first | (obtain ⟨rfl, hf⟩ := hf) | (obtain ⟨⟨q, rfl, hq⟩, hf⟩ := hf) | (obtain ⟨_, hf⟩ := hf)))
                      exact grows_eqv (by rfl) hC (by go_simp)
                    simp only [Act.put, List.setIfInBounds_toArray, List.set_cons_succ, List.set_cons_zero, List.nil_append, List.cons_append]
                    refine wpRely_cons (fun w' hC hf => ?_) (fun v3 => ?_)
                    · (repeat (first | (obtain ⟨rfl, hf⟩ := hf) | (obtain ⟨⟨q, rfl, hq⟩, hf⟩ := hf) | (obtain ⟨_, hf⟩ := hf)))
                      exact grows_eqv (by rfl) hC (run_index_el hC.rest.keys hil rfl rfl rfl _)
                    simp only [Act.put, List.setIfInBounds_toArray, List.set_cons_succ, List.set_cons_zero, List.nil_append, List.cons_append]
                    refine wpRely_cons (fun w' hC hf => ?_) (fun v4 => ?_)
                    · (repeat (first | (obtain ⟨rfl, hf⟩ := hf) | (obtain ⟨⟨q, rfl, hq⟩, hf⟩ := hf) | (obtain ⟨_, hf⟩ := hf)))
                      exact grows_eqv (by rfl) hC (run_load_el hC.rest.keys hil rfl rfl)
                    simp only [Act.put, List.setIfInBounds_toArray, List.set_cons_succ, List.set_cons_zero, List.nil_append, List.cons_append]
                    refine wpRely_cons (fun w' hC hf => ?_) (fun v5 => ?_)
                    · (repeat (first | (obtain ⟨rfl, hf⟩ := hf) | (obtain ⟨⟨q, rfl, hq⟩, hf⟩ := hf) | (obtain ⟨_, hf⟩ := hf)))
                      exact grows_eqv (by rfl) hC (run_neq_key2 (K t) (K t) false (by rw [sameK_rfl]; rfl) rfl rfl rfl _)
                    simp only [Act.put, List.setIfInBounds_toArray, List.set_cons_succ, List.set_cons_zero, List.nil_append, List.cons_append]
                    refine wpRely_cons (fun w' hC hf => ?_) (fun v6 => ?_)
                    · (repeat (first | (obtain ⟨rfl, hf⟩ := hf) | (obtain ⟨⟨q, rfl, hq⟩, hf⟩ := hf) | (obtain ⟨_, hf⟩ := hf)))
                      exact grows_eqv (by rfl) hC (by go_simp)
                    simp only [Act.put, List.setIfInBounds_toArray, List.set_cons_succ, List.set_cons_zero, List.nil_append, List.cons_append]
                    refine wpRely_cons (fun w' hC hf => ?_) (fun v7 => ?_)
                    · (repeat (first | (obtain ⟨rfl, hf⟩ := hf) | (obtain ⟨⟨q, rfl, hq⟩, hf⟩ := hf) | (obtain ⟨_, hf⟩ := hf)))
                      exact grows_eqv (by rfl) hC (by go_simp)
                    simp only [Act.put, List.setIfInBounds_toArray, List.set_cons_succ, List.set_cons_zero, List.nil_append, List.cons_append]
                    refine wpRely_cons (fun w' hC hf => ?_) (fun v8 => ?_)
                    · (repeat (first | (obtain ⟨rfl, hf⟩ := hf) | (obtain ⟨⟨q, rfl, hq⟩, hf⟩ := hf) | (obtain ⟨_, hf⟩ := hf)))
                      exact grows_eqv (by rfl) hC (by go_simp)
                    simp only [Act.put, List.setIfInBounds_toArray, List.set_cons_succ, List.set_cons_zero, List.nil_append, List.cons_append]
                    refine wpRely_cons (fun w' hC hf => ?_) (fun v9 => ?_)
                    · (repeat (first | (obtain ⟨rfl, hf⟩ := hf) | (obtain ⟨⟨q, rfl, hq⟩, hf⟩ := hf) | (obtain ⟨_, hf⟩ := hf)))
                      exact grows_eqv (by rfl) hC (by go_simp)
                    simp only [Act.put, List.setIfInBounds_toArray, List.set_cons_succ, List.set_cons_zero, List.nil_append, List.cons_append]
                    refine wpRely_nil fun w9 hC hf => ?_
                    obtain ⟨_, _, _, _, _, _, _, _, _, rfl, _⟩ := hf
                    have D9 := Lib.hid hC.rest.draws.2
                    have b9 := b3.trans (hC.rest.draws.1.mono b3.size)
                    clear hC HC
                    go_wp2
                    go_roundw
                    case rel => exact ⟨t + 1, by omega, by go_num, D9, b9⟩
                    case measure => simp [intOf]; omega
                  · have lt : ¬ (t : Int) < (l : Int) := by omega
                    have et : t = l := by omega
                    subst et
                    have LF := Lib.hid (drawLeft_any w.heap.size p t c1 t l6 a1 K _ D3)
                    have e0 : ((t - t : Nat) : Int) = 0 := by omega
                    rw [e0] at LF
                    clear e0
                    go_wp2_with fail
                    refine LF.out.mono ?_
                    rintro e w6 ⟨rfl, hb6⟩
                    replace b3 := b3.trans (hb6.mono b3.size)
                    clear LF hb6
                    go_wp2
                    go_ret
                    exact ⟨rfl, b3⟩
  · have d1 : (l : Int) > 100 := by omega
    go_enter Tryd.func5, Tryd.ntmps5
    go_wp2_with fail
    refine S0.out.mono ?_
    rintro e w1 ⟨rfl, b1⟩
    clear S0
    go_wp2
    go_ret
    exact ⟨rfl, b1⟩

end Go.Proofs.YtedmdojmgccclaaDoor
