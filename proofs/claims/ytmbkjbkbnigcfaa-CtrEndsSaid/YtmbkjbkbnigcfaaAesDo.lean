/-
  Contracts: what is done once (sync.Once), over a cipher's block.
-/
import Derived.Test.YtmbkjbkbnigcfaaAesMake
import Derived.Tactics
import Derived.Tactics2
import Derived.Defers
import Derived.Laws.Pointers
import Derived.Laws.LoneSync
import Derived.RegionTactic
import Derived.RegionCalls
namespace Go.Proofs.Ytmbkjbkbnigcfaa
open Go.RowKit

theorem race_off (w : World) : (callFunc 56 #[]).run Try.prog w = .ok (.value (.tuple #[])) w := run_call_mark0 Try.func56 (by kernel_rfl) (by kernel_rfl) (by kernel_rfl) .disable (by kernel_rfl) w
theorem race_on (w : World) : (callFunc 58 #[]).run Try.prog w = .ok (.value (.tuple #[])) w := run_call_mark0 Try.func58 (by kernel_rfl) (by kernel_rfl) (by kernel_rfl) .enable (by kernel_rfl) w
theorem race_acq (a : Addr) (w : World) : (callFunc 59 #[.pointer (some a)]).run Try.prog w = .ok (.value (.tuple #[])) w := run_call_marked Try.func59 (by kernel_rfl) (by kernel_rfl) (by kernel_rfl) .acquire (by kernel_rfl) a w
theorem race_rel (a : Addr) (w : World) : (callFunc 61 #[.pointer (some a)]).run Try.prog w = .ok (.value (.tuple #[])) w := run_call_marked Try.func61 (by kernel_rfl) (by kernel_rfl) (by kernel_rfl) .releaseMerge (by kernel_rfl) a w

set_option maxRecDepth 8000 in
/-- Store(true), as a deferred call. -/
theorem done_late (a : Addr) (x : Value) (u : FrameMode) (w : World) (hc : w.cell? a = some x) (hz : w.frozen? a = false) :
    CallsD Try.prog 51 #[.pointer (some a), .bool true] u w fun e u' w' => u' = u ∧ (e = .returned (.tuple #[]) ∧ w' = w.drew.setCell a (.int .u32 1)) := by
  have hc' : w.drew.cell? a = some x := by go_simp
  have hz' : w.drew.frozen? a = false := by go_simp
  have hst := run_call_store (P := Try.prog) Try.func54 (by kernel_rfl) (by kernel_rfl) (by kernel_rfl) (by kernel_rfl) (k := .u32) (y := 1) hc' hz'
  go_enter_d Try.func51, Try.ntmps51
  go_wp2
  go_region_calls
  all_goals (go_end0; exact ⟨rfl, rfl⟩)

set_option maxRecDepth 8000 in
/-- Unlock, as a deferred call; nobody waits. -/
theorem unlock_late (a : Addr) (u : FrameMode) (w : World) (hc : w.cell? a = some (.int .i32 1)) (hz : w.frozen? a = false) :
    CallsD Try.prog 50 #[.pointer (some a)] u w fun e u' w' => u' = u ∧ (e = .returned (.tuple #[]) ∧ w' = w.setCell a (.int .i32 0)) := by
  have hd := race_off
  have he := race_on
  have hr := race_rel
  have hadd := run_call_add (P := Try.prog) Try.func62 (by kernel_rfl) (by kernel_rfl) (by kernel_rfl) .i32 (by kernel_rfl) (y := -1) (s := 0) hc hz (by simp [go_sem]; rfl)
  have hcv := run_convert_to_unsafe (P := Try.prog) (src := 94) (dst := 98) Try.underlying94 Try.underlying98 (by kernel_rfl) hc
  go_enter_d Try.func50, Try.ntmps50
  go_wp2
  go_end0
  go_wp2
  go_end0
  exact ⟨rfl, rfl⟩

set_option maxRecDepth 8000 in
/-- Lock; the lock is free. -/
theorem lock_first (a : Addr) (w : World) (hc : w.cell? a = some (.int .i32 0)) (hz : w.frozen? a = false) :
    Calls Try.prog 49 #[.pointer (some a)] w fun e w' => e = .returned (.tuple #[]) ∧ w' = w.setCell a (.int .i32 1) := by
  have hd := race_off
  have he := race_on
  have ha := race_acq
  have hcas := run_call_cas_hit (P := Try.prog) Try.func57 (by kernel_rfl) (by kernel_rfl) (by kernel_rfl) .i32 (by kernel_rfl) (y := 1) hc hz
  have hc' : (w.setCell a (.int .i32 1)).cell? a = some (.int .i32 1) := World.cell?_setCell_same w a _ hc
  have hcv := run_convert_to_unsafe (P := Try.prog) (src := 94) (dst := 98) Try.underlying94 Try.underlying98 (by kernel_rfl) hc'
  go_enter Try.func49, Try.ntmps49
  go_wp2
  first | go_end0 | (simp only [Exit.inBlock, Exit.then]; refine bodyPost_ret (results_none rfl _ _ _) rfl ?_) | refine bodyPost_ret (results_none rfl _ _ _) rfl ?_
  go_wp2
  go_end0
  exact ⟨rfl, rfl⟩

set_option maxRecDepth 8000 in
/-- Load. -/
theorem done_no (a : Addr) (w : World) (hc : w.cell? a = some (.int .u32 0)) :
    Calls Try.prog 37 #[.pointer (some a)] w fun e w' => e = .returned (.bool false) ∧ w' = w := by
  have hl := run_call_load (P := Try.prog) Try.func48 (by kernel_rfl) (by kernel_rfl) (by kernel_rfl) .u32 (by kernel_rfl) hc
  go_enter Try.func37, Try.ntmps37
  go_wp2
  go_ret
  exact ⟨rfl, rfl⟩
set_option maxRecDepth 8000 in
theorem done_yes (a : Addr) (w : World) (hc : w.cell? a = some (.int .u32 1)) :
    Calls Try.prog 37 #[.pointer (some a)] w fun e w' => e = .returned (.bool true) ∧ w' = w := by
  have hl := run_call_load (P := Try.prog) Try.func48 (by kernel_rfl) (by kernel_rfl) (by kernel_rfl) .u32 (by kernel_rfl) hc
  go_enter Try.func37, Try.ntmps37
  go_wp2
  go_ret
  exact ⟨rfl, rfl⟩

set_option maxRecDepth 100000 in
set_option maxHeartbeats 1600000 in
set_option maxRecDepth 8000 in
set_option maxRecDepth 8000 in
theorem slow_first (p : Nat) (key : Nat → Nat) (hk : Hid (Byt key)) (w : World) (x0 : Nat → Nat) (h0 : Hid (RowAt w p 71 (rowOf 179 (cipV 0 0 x0)))) (hx0 : Hid (∀ j, j < 16 → x0 j = key j)) :
    Calls Try.prog 38 #[.pointer (some ⟨p, 0, none⟩), .func (.func 29) #[.pointer (some ⟨p, 0, none⟩)] #[]] w fun e w' => e = .returned (.tuple #[]) ∧
      RowAt w' p 71 (rowOf 179 (cipV 1 0 (ringN key))) ∧ Apart p w w' := by
  have c1 : w.cell? ⟨p, 1, none⟩ = some (.int .i32 0) := h0.out.cell 1 (by decide)
  have f1 := h0.out.free 1
  have L1 := Lib.hid (lock_first ⟨p, 1, none⟩ w c1 f1)
  have r1 : Hid (RowAt (w.setCell ⟨p, 1, none⟩ (.int .i32 1)) p 71 (rowOf 179 (cipV 0 1 x0))) := (h0.out.set 1 _).congr (cip_set1 0 0 1 x0)
  have ap : Apart p w (w.setCell ⟨p, 1, none⟩ (.int .i32 1)) := (Apart.refl p w).setCell h0.out _
  have hnot : ∀ (x : Bool) (w : World), (Op.unary .not (.bool x)).run Try.prog w = .ok (.bool (!x)) w := fun _ _ => rfl
  clear c1 f1
  go_enter_defers Try.func38, Try.ntmps38
  go_wp2_with fail
  refine L1.out.mono ?_
  rintro e w1 ⟨rfl, rfl⟩
  clear L1
  generalize w.setCell ⟨p, 1, none⟩ (.int .i32 1) = w1 at *
  have c0 : w1.cell? ⟨p, 0, none⟩ = some (.int .u32 0) := r1.out.cell 0 (by decide)
  have D0 := Lib.hid (done_no ⟨p, 0, none⟩ w1 c0)
  have M0 := Lib.hid (makeRounds_any p key hk 1 w1 x0 r1 hx0)
  clear c0
  go_wp2_with fail
  refine D0.out.mono ?_
  rintro e w2 ⟨rfl, rfl⟩
  clear D0
  go_wp2_with fail
  refine M0.out.mono ?_
  rintro e w3 ⟨rfl, hr, ha⟩
  clear M0
  replace ap := ap.trans ha
  replace hr := Lib.hid hr
  clear ha r1
  go_wp2
  refine leaves_cons (f := 51) (args := #[.pointer (some ⟨p, 0, none⟩), .bool true]) (by simp) (by simp [go_sem]) ?_
  refine (done_late ⟨p, 0, none⟩ (.int .u32 0) .returning _ (hr.out.cell 0 (by decide)) (hr.out.free 0)).mono ?_
  rintro e u' w4 ⟨rfl, rfl, rfl⟩
  have hr4 : RowAt (w3.drew.setCell ⟨p, 0, none⟩ (.int .u32 1)) p 71 (rowOf 179 (cipV 1 1 (ringN key))) := (hr.out.drew.set 0 _).congr (cip_set0 0 1 1 (ringN key))
  have ap4 : Apart p w (w3.drew.setCell ⟨p, 0, none⟩ (.int .u32 1)) := ap.drew.setCell hr.out.drew _
  generalize w3.drew.setCell ⟨p, 0, none⟩ (.int .u32 1) = w4 at *
  refine leaves_cons (f := 50) (args := #[.pointer (some ⟨p, 1, none⟩)]) (by simp [settle]) (by simp [go_sem]) ?_
  refine (unlock_late ⟨p, 1, none⟩ _ _ (hr4.cell 1 (by decide)) (hr4.free 1)).mono ?_
  rintro e u' w5 ⟨rfl, rfl, rfl⟩
  have hr5 : RowAt (w4.setCell ⟨p, 1, none⟩ (.int .i32 0)) p 71 (rowOf 179 (cipV 1 0 (ringN key))) := (hr4.set 1 _).congr (cip_set1 1 1 0 (ringN key))
  have ap5 : Apart p w (w4.setCell ⟨p, 1, none⟩ (.int .i32 0)) := ap4.setCell hr4 _
  generalize w4.setCell ⟨p, 1, none⟩ (.int .i32 0) = w5 at *
  simp [Leaves, settle, results, Try.results38]
  exact ⟨hr5, ap5⟩

set_option maxRecDepth 100000 in
set_option maxHeartbeats 1600000 in
set_option maxRecDepth 8000 in
set_option maxRecDepth 8000 in
theorem do_first (p : Nat) (key : Nat → Nat) (hk : Hid (Byt key)) (w : World) (x0 : Nat → Nat) (h0 : Hid (RowAt w p 71 (rowOf 179 (cipV 0 0 x0)))) (hx0 : Hid (∀ j, j < 16 → x0 j = key j)) :
    Calls Try.prog 28 #[.pointer (some ⟨p, 0, none⟩), .func (.func 29) #[.pointer (some ⟨p, 0, none⟩)] #[]] w fun e w' => e = .returned (.tuple #[]) ∧
      RowAt w' p 71 (rowOf 179 (cipV 1 0 (ringN key))) ∧ Apart p w w' := by
  have D0 := Lib.hid (done_no ⟨p, 0, none⟩ w (h0.out.cell 0 (by decide)))
  have S0 := Lib.hid (slow_first p key hk w x0 h0 hx0)
  have hnot : ∀ (x : Bool) (w : World), (Op.unary .not (.bool x)).run Try.prog w = .ok (.bool (!x)) w := fun _ _ => rfl
  go_enter Try.func28, Try.ntmps28
  go_wp2_with fail
  refine D0.out.mono ?_
  rintro e w1 ⟨rfl, rfl⟩
  go_wp2_with fail
  refine S0.out.mono ?_
  rintro e w1 ⟨rfl, hr, ha⟩
  clear D0 S0
  replace hr := Lib.hid hr
  go_wp2
  go_end0
  exact ⟨rfl, hr.out, ha⟩

set_option maxRecDepth 8000 in
theorem do_again (p : Nat) (key : Nat → Nat) (fv : Value) (w : World) (h : Made w p key) :
    Calls Try.prog 28 #[.pointer (some ⟨p, 0, none⟩), fv] w fun e w' => e = .returned (.tuple #[]) ∧ w' = w := by
  have D0 := Lib.hid (done_yes ⟨p, 0, none⟩ w (RowAt.cell h 0 (by decide)))
  have hnot : ∀ (x : Bool) (w : World), (Op.unary .not (.bool x)).run Try.prog w = .ok (.bool (!x)) w := fun _ _ => rfl
  replace h := Lib.hid h
  go_enter Try.func28, Try.ntmps28
  go_wp2_with fail
  refine D0.out.mono ?_
  rintro e w1 ⟨rfl, rfl⟩
  go_wp2
  go_end0
  exact ⟨rfl, rfl⟩

/-- However often: the round keys are there; but for the cipher's block nothing that was there has turned. -/
theorem do_any (p : Nat) (key : Nat → Nat) (hk : Byt key) (w : World) (h : Cip w p key) :
    Calls Try.prog 28 #[.pointer (some ⟨p, 0, none⟩), .func (.func 29) #[.pointer (some ⟨p, 0, none⟩)] #[]] w fun e w' => e = .returned (.tuple #[]) ∧ Made w' p key ∧ Apart p w w' := by
  rcases h with ⟨x0, h0, hx0⟩ | h
  · exact do_first p key hk w x0 h0 hx0
  · exact (do_again p key _ w h).mono fun e w' ⟨he, hw⟩ => by subst hw; exact ⟨he, h, .refl _ _⟩

end Go.Proofs.Ytmbkjbkbnigcfaa
