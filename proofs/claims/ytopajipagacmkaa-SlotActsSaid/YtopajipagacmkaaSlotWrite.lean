/-
  Contracts: Write, Erase.
-/
import Derived.Test.YtopajipagacmkaaSlotTurn
namespace Go.Proofs.Ytopajipagacmkaa
open Go.RowKit
set_option linter.unusedVariables false

/-- What Write, Erase answer, and what the slot has then. -/
def writeE (S : SS) (z : Int) : Nat := if S.p.up = false then 4 else if inB z 2 = false then 1 else if (S.c z.toNat).h = true then 100 else turnE S.p
def writeS (S : SS) (z : Int) (k : Nat → Nat) (e : Nat) : SS := if S.p.up = false then S else if inB z 2 = false then S else if (S.c z.toNat).h = true then S else turnS S z.toNat ⟨true, k, e⟩
def slEraseE (S : SS) (z : Int) : Nat := if S.p.up = false then 4 else if inB z 2 = false then 1 else turnE S.p
def slEraseS (S : SS) (z : Int) : SS := if S.p.up = false then S else if inB z 2 = false then S else turnS S z.toNat blankC

theorem blank_lit : rowOf 18 (celF blankC) = #[.bool false, .int .u8 0, .int .u8 0, .int .u8 0, .int .u8 0, .int .u8 0, .int .u8 0, .int .u8 0, .int .u8 0, .int .u8 0, .int .u8 0, .int .u8 0, .int .u8 0, .int .u8 0, .int .u8 0, .int .u8 0, .int .u8 0, .int .u64 0] := rfl

set_option maxHeartbeats 4000000 in
set_option maxRecDepth 8000 in
theorem slotErase_any (B pp sp : Nat) (S : SS) (w : World) (h : Hid (Sl B w pp sp S)) (z : Int) (h1 : -1000000 < S.p.left) (h2 : S.p.left < 9223372036854775808) :
    Calls Try.prog 13 #[.pointer (some ⟨sp, 0, none⟩), .int .i64 z] w (SlEnd B pp sp (slEraseS S z) (slEraseE S z) w) := by
  unfold slEraseS slEraseE
  have c0 := h.out.c0
  have U := Lib.hid (powUp_any pp S.p.up S.p.left S.p.keep S.p.junk w h.out.pow)
  have H := Lib.hid (slotHas_any (.pointer (some ⟨sp, 0, none⟩)) z w)
  by_cases hu : S.p.up = false
  · rw [if_pos hu, if_pos hu]
    rw [hu] at U
    clear hu h1 h2
    go_enter Try.func13, Try.ntmps13
    go_wp2_with fail
    refine U.out.mono ?_
    rintro e w1 ⟨rfl, rfl⟩
    go_wp2
    go_ret
    exact ⟨rfl, h, .refl _ _⟩
  rw [if_neg hu, if_neg hu]
  have hu' : S.p.up = true := by simpa using hu
  rw [hu'] at U
  by_cases hin : inB z 2 = false
  · rw [if_pos hin, if_pos hin]
    rw [hin] at H
    clear hu hu' h1 h2 hin
    go_enter Try.func13, Try.ntmps13
    go_wp2_with fail
    refine U.out.mono ?_
    rintro e w1 ⟨rfl, rfl⟩
    go_wp2_with fail
    refine H.out.mono ?_
    rintro e w1 ⟨rfl, rfl⟩
    go_wp2
    go_ret
    exact ⟨rfl, h, .refl _ _⟩
  · rw [if_neg hin, if_neg hin]
    have hin' : inB z 2 = true := by simpa using hin
    rw [hin'] at H
    obtain ⟨i, rfl, hi⟩ := inB_get hin'
    rw [show ((i : Nat) : Int).toNat = i from rfl]
    have T := Lib.hid (slotTurn_any B pp sp S w h i hi blankC .blank hu' h1 h2)
    generalize turnS S i blankC = S' at *
    generalize turnE S.p = E at *
    clear hu hu' h1 h2 hin hin' h
    go_enter Try.func13, Try.ntmps13
    go_wp2_with fail
    refine U.out.mono ?_
    rintro e w1 ⟨rfl, rfl⟩
    go_wp2_with fail
    refine H.out.mono ?_
    rintro e w1 ⟨rfl, rfl⟩
    go_wp2_with (refine wpList_buildTo rfl 71 _ rfl _ rfl (rowOf 18 (celF blankC)) (by kernel_rfl) ?_)
    refine T.out.mono ?_
    rintro e w1 ⟨rfl, h1, g1⟩
    go_wp2
    go_ret
    exact ⟨rfl, h1, g1⟩

theorem info_key18 : (Try.prog.info? 31).map (·.size) = some 16 := by kernel_rfl

set_option maxHeartbeats 4000000 in
set_option maxRecDepth 8000 in
theorem slotWrite_any (B pp sp : Nat) (S : SS) (w : World) (h : Hid (Sl B w pp sp S)) (z : Int) (k : Nat → Nat) (ep : Nat) (h1 : -1000000 < S.p.left) (h2 : S.p.left < 9223372036854775808) :
    Calls Try.prog 11 #[.pointer (some ⟨sp, 0, none⟩), .int .i64 z, .agg (rowOf 16 (w8 k)), .int .u64 (ep : Nat)] w (SlEnd B pp sp (writeS S z k ep) (writeE S z) w) := by
  unfold writeS writeE
  have b0 : Below w.heap.size w (w.alloc (.cells (rowOf 16 (w8 k)) 31)) := (Below.refl _ _).alloc (Nat.le_refl _) _
  have r0 := Lib.hid (RowAt.new w 31 (rowOf 16 (w8 k)))
  have s0 := Lib.hid (h.out.after b0)
  have g0 : Beside (footS pp sp) w (w.alloc (.cells (rowOf 16 (w8 k)) 31)) := .of_below b0
  have c0 := s0.out.c0
  have U := Lib.hid (powUp_any pp S.p.up S.p.left S.p.keep S.p.junk _ s0.out.pow)
  have H := Lib.hid (fun w' => slotHas_any (.pointer (some ⟨sp, 0, none⟩)) z w')
  clear b0 h
  by_cases hu : S.p.up = false
  · rw [if_pos hu, if_pos hu]
    rw [hu] at U
    clear hu h1 h2
    go_enter Try.func11, Try.ntmps11
    go_wp2_with fail
    generalize w.alloc (.cells (rowOf 16 (w8 k)) 31) = w0 at *
    refine U.out.mono ?_
    rintro e w1 ⟨rfl, rfl⟩
    go_wp2
    go_ret
    exact ⟨rfl, s0, g0⟩
  rw [if_neg hu, if_neg hu]
  have hu' : S.p.up = true := by simpa using hu
  rw [hu'] at U
  by_cases hin : inB z 2 = false
  · rw [if_pos hin, if_pos hin]
    rw [hin] at H
    clear hu hu' h1 h2 hin
    go_enter Try.func11, Try.ntmps11
    go_wp2_with fail
    generalize w.alloc (.cells (rowOf 16 (w8 k)) 31) = w0 at *
    refine U.out.mono ?_
    rintro e w1 ⟨rfl, rfl⟩
    go_wp2_with fail
    refine (H.out _).mono ?_
    rintro e w1 ⟨rfl, rfl⟩
    go_wp2
    go_ret
    exact ⟨rfl, s0, g0⟩
  · rw [if_neg hin, if_neg hin]
    have hin' : inB z 2 = true := by simpa using hin
    rw [hin'] at H
    obtain ⟨i, rfl, hi⟩ := inB_get hin'
    rw [show ((i : Nat) : Int).toNat = i from rfl]
    have i1 := (cell_no i hi).2
    have Bl := Lib.hid (fun w' => isBlank_any (S.c i) (s0.out.ok i) w')
    have G := Lib.hid (s0.out.get hi)
    by_cases hc : (S.c i).h = true
    · rw [if_pos hc, if_pos hc]
      rw [hc] at Bl
      clear hu hu' h1 h2 hin hin' hc
      go_enter Try.func11, Try.ntmps11
      go_wp2_with fail
      generalize w.alloc (.cells (rowOf 16 (w8 k)) 31) = w0 at *
      refine U.out.mono ?_
      rintro e w1 ⟨rfl, rfl⟩
      go_wp2_with fail
      refine (H.out _).mono ?_
      rintro e w1 ⟨rfl, rfl⟩
      go_wp2_with (refine wpList_load_at rfl 71 _ rfl sp (1 + i * 18) rfl 74 _ _ 18 (celF (S.c i)) s0.out.row G.out Try.underlying71 rfl infoCell ?_)
      refine (Bl.out _).mono ?_
      rintro e w1 ⟨rfl, b1⟩
      go_wp2
      go_ret
      exact ⟨rfl, Lib.hid (s0.out.after b1), g0.trans (.of_below b1)⟩
    · rw [if_neg hc, if_neg hc]
      have hc' : (S.c i).h = false := by simpa using hc
      rw [hc'] at Bl
      have T := Lib.hid (fun w' (hw : Hid (Sl B w' pp sp S)) => slotTurn_any B pp sp S w' hw i hi ⟨true, k, ep⟩ (.key k ep) hu' h1 h2)
      generalize turnS S i ⟨true, k, ep⟩ = S' at *
      generalize turnE S.p = E at *
      clear hu hu' h1 h2 hin hin' hc hc'
      go_enter Try.func11, Try.ntmps11
      go_wp2_with fail
      generalize w.alloc (.cells (rowOf 16 (w8 k)) 31) = w0 at *
      refine U.out.mono ?_
      rintro e w1 ⟨rfl, rfl⟩
      go_wp2_with fail
      refine (H.out _).mono ?_
      rintro e w1 ⟨rfl, rfl⟩
      go_wp2_with (refine wpList_load_at rfl 71 _ rfl sp (1 + i * 18) rfl 74 _ _ 18 (celF (S.c i)) s0.out.row G.out Try.underlying71 rfl infoCell ?_)
      refine (Bl.out _).mono ?_
      rintro e w2 ⟨rfl, b1⟩
      replace s0 := Lib.hid (s0.out.after b1)
      replace g0 := g0.trans (.of_below b1)
      replace r0 := Lib.hid (r0.out.below b1 r0.out.lt)
      clear b1 c0 U H Bl G
      have T1 := Lib.hid (T.out _ s0)
      clear T
      go_wp2_with (first | (refine wpList_load_row rfl 31 _ rfl w.heap.size rfl 31 (rowOf 16 (w8 k)) (0, 0) _ r0.out Try.underlying31 rfl (info_key _) ?_) | (refine wpList_buildTo rfl 71 _ rfl _ rfl (rowOf 18 (celF ⟨true, k, ep⟩)) (by kernel_rfl) ?_))
      refine T1.out.mono ?_
      rintro e w3 ⟨rfl, h1, g1⟩
      go_wp2
      go_ret
      exact ⟨rfl, h1, g0.trans g1⟩

end Go.Proofs.Ytopajipagacmkaa
