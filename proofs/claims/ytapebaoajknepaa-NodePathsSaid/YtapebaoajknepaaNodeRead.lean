/-
  Contracts: the reader's small steps.
-/
import Derived.Test.YtapebaoajknepaaNodeMay
import Derived.Test.YtapebaoajknepaaNodeAlloc
import Derived.Test.YtapebaoajknepaaTakeNum
import Derived.Test.YtapebaoajknepaaKey
namespace Go.Proofs.Ytapebaoajknepaa
open Go.RowKit
set_option linter.unusedVariables false

/-- A panic with an error; a reader in memory. -/
def Pan (n : Nat) : Ending := .panicked [{ v := .iface 30 (.int .i64 (n : Int)), recovered := false }]
def RdAt (w : World) (rp : Nat) (L : List UInt8) : Prop := RowAt w rp 64 #[.string (bs L)]
def RdEnd {α : Type} (val : α → Value) (rp : Nat) (w : World) (d : Except Nat (α × List UInt8)) (e : Ending) (w' : World) : Prop :=
  match d with
  | .error n => e = Pan n ∧ Apart rp w w'
  | .ok (a, R) => e = .returned (val a) ∧ RdAt w' rp R ∧ Apart rp w w'
theorem RdEnd.err {α : Type} {val : α → Value} {rp : Nat} {w w' : World} {d : Except Nat (α × List UInt8)} {n : Nat} {e : Ending} (hd : d = .error n) (he : e = Pan n) (ha : Apart rp w w') : RdEnd val rp w d e w' := by
  subst hd
  exact ⟨he, ha⟩
theorem RdEnd.yes {α : Type} {val : α → Value} {rp : Nat} {w w' : World} {d : Except Nat (α × List UInt8)} {a : α} {R : List UInt8} {e : Ending} (hd : d = .ok (a, R)) (he : e = .returned (val a)) (hr : RdAt w' rp R) (ha : Apart rp w w') : RdEnd val rp w d e w' := by
  subst hd
  exact ⟨he, hr, ha⟩
theorem Apart.above {p q : Nat} {w0 w : World} (h : Apart p w0 w) (hq : w0.heap.size ≤ q) (ds : Array Value) : Apart p w0 (w.setRow q ds) := fun cs =>
  (h cs).trans (below_both (below_setRow' (Below.refl _ _) hq ds) cs)
theorem Apart.above_cell {p q i : Nat} {w0 w : World} {t : TypeId} {cs : Array Value} (h : Apart p w0 w) (hq : w0.heap.size ≤ q) (hr : RowAt w q t cs) (v : Value) : Apart p w0 (w.setCell ⟨q, i, none⟩ v) := by
  rw [setCell_eq_setRow w q i cs t (0, 0) v hr]
  exact h.above hq _
theorem Apart.alloc {p : Nat} {w0 w : World} (h : Apart p w0 w) (o : Obj) : Apart p w0 (w.alloc o) := h.below ((Below.refl _ _).alloc (Nat.le_refl _) o)

set_option maxRecDepth 8000 in
theorem goOn_yes (rp : Nat) (L R : List UInt8) (w : World) (h : Hid (RdAt w rp L)) :
    Calls Try.prog 48 #[.pointer (some ⟨rp, 0, none⟩), .string (bs R), .int .i64 0] w fun e w' => e = .returned (.tuple #[]) ∧ RdAt w' rp R ∧ Apart rp w w' := by
  have c : w.cell? ⟨rp, 0, none⟩ = some (.string (bs L)) := h.out.one 0 rfl
  have f : w.frozen? ⟨rp, 0, none⟩ = false := RowAt.free h.out 0
  have h2 : Hid (RdAt (w.setCell ⟨rp, 0, none⟩ (.string (bs R))) rp R) := RowAt.set h.out 0 _
  have ap := Lib.hid ((Apart.refl rp w).setCell (i := 0) h.out (.string (bs R)))
  go_enter Try.func48, Try.ntmps48
  go_wp2
  go_end0
  exact ⟨rfl, h2, ap⟩
set_option maxRecDepth 8000 in
theorem goOn_no (rp : Nat) (s : ByteArray) (n : Nat) (hn : n ≠ 0) (w : World) :
    Calls Try.prog 48 #[.pointer (some ⟨rp, 0, none⟩), .string s, .int .i64 (n : Int)] w fun e w' => e = Pan n ∧ w' = w := by
  have d : ((n : Int) != 0) = true := by simpa using hn
  go_enter Try.func48, Try.ntmps48
  go_wp2
  exact ⟨rfl, rfl, rfl⟩

set_option maxRecDepth 8000 in
theorem rdNumber_any (rp k : Nat) (h1 : 1 ≤ k) (h8 : k ≤ 8) (L : List UInt8) (w : World) (h : Hid (RdAt w rp L)) :
    Calls Try.prog 46 #[.pointer (some ⟨rp, 0, none⟩), .int .i64 (k : Int)] w (RdEnd (fun n : Nat => .int .u64 (n : Int)) rp w (rdN k L)) := by
  have c : w.cell? ⟨rp, 0, none⟩ = some (.string (bs L)) := h.out.one 0 rfl
  by_cases hk : L.length < k
  · have hd : Hid (rdN k L = .error 10) := if_pos hk
    have K := Lib.hid (takeNumber_short (bs L) (k : Int) (by omega) (by omega) (by unfold Hid; rw [Int.toNat_natCast]; exact hk) w)
    clear hk
    go_enter Try.func46, Try.ntmps46
    go_wp2_with fail
    refine K.out.mono ?_
    rintro e w1 ⟨rfl, b1⟩
    go_wp2_with fail
    refine (goOn_no rp _ 10 (by decide) w1).mono ?_
    rintro e w2 ⟨rfl, rfl⟩
    clear c
    unfold Pan
    go_wp2
    exact ⟨rfl, RdEnd.err hd rfl (.of_below b1)⟩
  · have hd : Hid (rdN k L = .ok (numV (L.take k), L.drop k)) := if_neg hk
    have K := Lib.hid (takeNumber_yes (bs L) (k : Int) (by omega) (by omega) (by unfold Hid; rw [Int.toNat_natCast]; show k ≤ L.length; omega) w)
    rw [Int.toNat_natCast, show (bs L).data.toList = L from rfl] at K
    generalize L.drop k = T at *
    generalize numV (L.take k) = v at *
    clear hk
    go_enter Try.func46, Try.ntmps46
    go_wp2_with fail
    refine K.out.mono ?_
    rintro e w1 ⟨rfl, b1⟩
    have h1' : Hid (RdAt w1 rp L) := RowAt.below h.out b1 (RowAt.lt h.out)
    clear c
    go_wp2_with fail
    refine (goOn_yes rp L T w1 h1').mono ?_
    rintro e w2 ⟨rfl, h2, a2⟩
    clear h1'
    go_wp2
    go_ret
    exact RdEnd.yes hd rfl h2 ((Apart.of_below b1).trans a2)

set_option maxRecDepth 8000 in
theorem below_any (rp b : Nat) (L : List UInt8) (w : World) (h : Hid (RdAt w rp L)) :
    Calls Try.prog 44 #[.pointer (some ⟨rp, 0, none⟩), .int .i64 (b : Int)] w (RdEnd (fun n : Nat => .int .i64 (n : Int)) rp w (rdB b L)) := by
  have K := Lib.hid (rdNumber_any rp 1 (by decide) (by decide) L w h)
  cases L with
  | nil =>
    have e1 : rdN 1 ([] : List UInt8) = .error 10 := rfl
    rw [e1] at K
    go_enter Try.func44, Try.ntmps44
    go_wp2_with fail
    refine K.out.mono ?_
    rintro e w1 ⟨rfl, a1⟩
    unfold Pan
    go_wp2
    exact ⟨rfl, RdEnd.err rfl rfl a1⟩
  | cons x R =>
    have e1 : rdN 1 (x :: R) = .ok (x.toNat, R) := by
      show Except.ok (numV [x], R) = _
      rfl
    have hd : Hid (rdB b (x :: R) = if x.toNat < b then .ok (x.toNat, R) else .error 1) := rfl
    have hx : x.toNat < 256 := UInt8.toNat_lt _
    rw [e1] at K
    generalize x.toNat = n at *
    generalize x :: R = L at *
    have k0 : (0 : Int) ≤ (n : Int) := by omega
    have I := Lib.hid (fun W => isBelow_any (n : Int) (b : Int) W)
    by_cases hb : n < b
    · have ib : Hid ((decide ((0 : Int) ≤ (n : Int)) && decide ((n : Int) < (b : Int))) = true) := by unfold Hid; simp; omega
      replace hd : Hid (rdB b L = .ok (n, R)) := hd.out.trans (if_pos hb)
      clear hb
      go_enter Try.func44, Try.ntmps44
      go_wp2_with fail
      refine K.out.mono ?_
      rintro e w1 ⟨rfl, h1, a1⟩
      clear K
      go_wp2_with fail
      refine (I.out w1).mono ?_
      rintro e w2 ⟨rfl, rfl⟩
      rw [ib.out]
      go_wp2
      go_ret
      exact RdEnd.yes hd rfl h1 a1
    · have ib : Hid ((decide ((0 : Int) ≤ (n : Int)) && decide ((n : Int) < (b : Int))) = false) := by unfold Hid; simp; omega
      replace hd : Hid (rdB b L = .error 1) := hd.out.trans (if_neg hb)
      clear hb
      go_enter Try.func44, Try.ntmps44
      go_wp2_with fail
      refine K.out.mono ?_
      rintro e w1 ⟨rfl, h1, a1⟩
      clear K
      go_wp2_with fail
      refine (I.out w1).mono ?_
      rintro e w2 ⟨rfl, rfl⟩
      rw [ib.out]
      go_wp2
      exact ⟨rfl, RdEnd.err hd rfl a1⟩

set_option maxRecDepth 8000 in
theorem rdFlag_any (rp : Nat) (L : List UInt8) (w : World) (h : Hid (RdAt w rp L)) :
    Calls Try.prog 42 #[.pointer (some ⟨rp, 0, none⟩)] w (RdEnd (fun n : Nat => .bool ((n : Int) == 1)) rp w (rdB 2 L)) := by
  have K := Lib.hid (below_any rp 2 L w h)
  cases hd : rdB 2 L with
  | error n =>
    rw [hd] at K
    go_enter Try.func42, Try.ntmps42
    go_wp2_with fail
    refine K.out.mono ?_
    rintro e w1 ⟨rfl, a1⟩
    unfold Pan
    go_wp2
    exact ⟨rfl, RdEnd.err rfl rfl a1⟩
  | ok a =>
    obtain ⟨n, R⟩ := a
    rw [hd] at K
    go_enter Try.func42, Try.ntmps42
    go_wp2_with fail
    refine K.out.mono ?_
    rintro e w1 ⟨rfl, h1, a1⟩
    go_wp2
    go_ret
    exact RdEnd.yes rfl rfl h1 a1

theorem keyC_row (L : List UInt8) (h : ¬ L.length < 16) : keyC (L.take 16) = rowOf 16 (w8 (keyL L)) := by
  have hl : (L.take 16).length = 16 := by rw [List.length_take]; omega
  unfold keyC rowOf
  rw [hl]
  congr 1
  rw [show List.replicate (16 - 16) (Value.int .u8 0) = [] from rfl, List.append_nil]
  apply List.ext_getElem
  · rw [List.length_map, List.length_map, List.length_range, hl]
  · intro j h1 h2
    have hj : j < (L.take 16).length := by rw [List.length_map] at h1; exact h1
    rw [List.getElem_map, List.getElem_map, List.getElem_range]
    have e : keyL L j = ((L.take 16)[j]).toNat := by
      unfold keyL
      rw [List.getD_eq_getElem?_getD, List.getElem?_eq_getElem hj, Option.getD_some]
    show Value.int .u8 (((L.take 16)[j]).toNat : Int) = Value.int .u8 ((keyL L j : Nat) : Int)
    rw [e]
theorem keyC_nil : keyC [] = rowOf 16 (w8 zeroN) := by rw [keyC_zero]; rfl
theorem run_allocKey {o : Oper} {a : Act} (ho : o.op = .alloc 23) (w : World) : (execOp a.eval o).run Try.prog w = .ok (.value (.pointer (some ⟨w.heap.size, 0, none⟩))) (w.alloc (.cells (rowOf 16 (w8 zeroN)) 23)) := by
  unfold execOp
  rw [ho]
  kernel_rfl

/-- Two blocks above, and the reader. -/
structure TwoW (w0 w : World) (rp : Nat) (L : List UInt8) (t : TypeId) (x y : Array Value) : Prop where
  rd : RdAt w rp L
  r4 : RowAt w w0.heap.size t x
  r5 : RowAt w (w0.heap.size + 1) t y
  ap : Apart rp w0 w
  lt : rp < w0.heap.size
section
variable {w0 w w' : World} {rp : Nat} {L R : List UInt8} {t : TypeId} {x y : Array Value}
theorem TwoW.new (h : RdAt w0 rp L) (t : TypeId) (x y : Array Value) : TwoW w0 ((w0.alloc (.cells x t)).alloc (.cells y t)) rp L t x y :=
  ⟨RowAt.alloc (RowAt.alloc h _) _, (RowAt.new _ _ _).alloc _, by have := RowAt.new (w0.alloc (.cells x t)) t y; rwa [World.size_alloc] at this, ((Apart.refl rp w0).alloc _).alloc _, RowAt.lt h⟩
theorem TwoW.call (h : TwoW w0 w rp L t x y) (hr : RdAt w' rp R) (ha : Apart rp w w') : TwoW w0 w' rp R t x y :=
  ⟨hr, ha.row h.r4 (by have := h.lt; omega), ha.row h.r5 (by have := h.lt; omega), h.ap.trans ha, h.lt⟩
theorem TwoW.set (h : TwoW w0 w rp L t x y) (i : Nat) (v : Value) : TwoW w0 (w.setCell ⟨w0.heap.size + 1, i, none⟩ v) rp L t x (y.setIfInBounds i v) :=
  ⟨RowAt.setOther h.rd _ _ (by show rp ≠ w0.heap.size + 1; have := h.lt; omega), h.r4.setOther _ _ (by show w0.heap.size ≠ w0.heap.size + 1; omega), h.r5.set _ _, h.ap.above_cell (by omega) h.r5 v, h.lt⟩
theorem TwoW.row (h : TwoW w0 w rp L t x y) (ds : Array Value) : TwoW w0 (w.setRow (w0.heap.size + 1) ds) rp L t x ds :=
  ⟨RowAt.setRowOther h.rd _ _ (by have := h.lt; omega), h.r4.setRowOther _ _ (by omega), h.r5.setRow _, h.ap.above (by omega) _, h.lt⟩
theorem TwoW.out (h : TwoW w0 w rp L t x y) (ds : Array Value) : RdAt (w.setRow w0.heap.size ds) rp L ∧ RowAt (w.setRow w0.heap.size ds) w0.heap.size t ds ∧ Apart rp w0 (w.setRow w0.heap.size ds) :=
  ⟨RowAt.setRowOther h.rd _ _ (by have := h.lt; omega), h.r4.setRow _, h.ap.above (Nat.le_refl _) _⟩
theorem TwoW.congr (h : TwoW w0 w rp L t x y) {z : Array Value} (e : y = z) : TwoW w0 w rp L t x z := e ▸ h
theorem TwoW.below (h : TwoW w0 w rp L t x y) (hb : Below w.heap.size w w') : TwoW w0 w' rp L t x y :=
  h.call (RowAt.below h.rd hb (RowAt.lt h.rd)) (.of_below hb)
end

set_option maxHeartbeats 4000000 in
set_option maxRecDepth 8000 in
theorem rdKey_any (rp : Nat) (L : List UInt8) (w : World) (h : Hid (RdAt w rp L)) :
    Calls Try.prog 45 #[.pointer (some ⟨rp, 0, none⟩)] w (RdEnd (fun L' : List UInt8 => .agg (rowOf 16 (w8 (keyL L')))) rp w (if L.length < 16 then .error 10 else .ok (L, L.drop 16))) := by
  have a0 := Lib.hid ((Below.refl _ w).alloc (Nat.le_refl _) (.cells (rowOf 16 (w8 zeroN)) 23))
  have h0 : Hid (RdAt (w.alloc (.cells (rowOf 16 (w8 zeroN)) 23)) rp L) := RowAt.alloc h.out _
  have r0 := Lib.hid (RowAt.new w 23 (rowOf 16 (w8 zeroN)))
  have c : (w.alloc (.cells (rowOf 16 (w8 zeroN)) 23)).cell? ⟨rp, 0, none⟩ = some (.string (bs L)) := h0.out.one 0 rfl
  by_cases hk : L.length < 16
  · have hd : Hid ((if L.length < 16 then (.error 10 : Except Nat (List UInt8 × List UInt8)) else .ok (L, L.drop 16)) = .error 10) := if_pos hk
    have K := Lib.hid (takeKey_short (bs L) hk (w.alloc (.cells (rowOf 16 (w8 zeroN)) 23)))
    rw [keyC_nil] at K
    generalize (if L.length < 16 then (.error 10 : Except Nat (List UInt8 × List UInt8)) else .ok (L, L.drop 16)) = D at *
    clear hk
    go_enter Try.func45, Try.ntmps45
    go_wp2_with (refine wpList_new rfl (run_allocKey rfl _) ?_)
    generalize w.alloc (.cells (rowOf 16 (w8 zeroN)) 23) = w0 at *
    refine K.out.mono ?_
    rintro e w1 ⟨rfl, b1⟩
    have b2 := Lib.hid (a0.out.trans (b1.mono a0.out.size))
    have b3 := Lib.hid (b2.out.alloc b2.out.size (.cells (rowOf 16 (w8 zeroN)) 23))
    clear c
    go_wp2_with (first | (refine wpList_new rfl (run_allocKey rfl _) ?_) | (refine wpList_store_row rfl 23 _ _ rfl w1.heap.size (rowOf 16 (w8 zeroN)) rfl rfl 23 _ (RowAt.new _ _ _) (info_key _) (by simp only [rowOf_size]) (rowOf_cells8 _ _) ?_; rw [World.setRow_alloc_new]))
    refine (goOn_no rp _ 10 (by decide) _).mono ?_
    rintro e w2 ⟨rfl, rfl⟩
    unfold Pan
    go_wp2
    exact ⟨rfl, RdEnd.err hd rfl (.of_below b3)⟩
  · have hd : Hid ((if L.length < 16 then (.error 10 : Except Nat (List UInt8 × List UInt8)) else .ok (L, L.drop 16)) = .ok (L, L.drop 16)) := if_neg hk
    have K := Lib.hid (takeKey_yes (bs L) (by unfold Hid; show 16 ≤ L.length; omega) (w.alloc (.cells (rowOf 16 (w8 zeroN)) 23)))
    rw [show (bs L).data.toList = L from rfl, keyC_row L hk] at K
    generalize (if L.length < 16 then (.error 10 : Except Nat (List UInt8 × List UInt8)) else .ok (L, L.drop 16)) = D at *
    generalize L.drop 16 = T at *
    clear hk
    have lt := RowAt.lt h.out
    go_enter Try.func45, Try.ntmps45
    go_wp2_with (refine wpList_new rfl (run_allocKey rfl _) ?_)
    generalize w.alloc (.cells (rowOf 16 (w8 zeroN)) 23) = w0 at *
    refine K.out.mono ?_
    rintro e w1 ⟨rfl, b1⟩
    have b2 := Lib.hid (a0.out.trans (b1.mono a0.out.size))
    have b3 := Lib.hid (b2.out.alloc b2.out.size (.cells (rowOf 16 (w8 (keyL L))) 23))
    have h3 : Hid (RdAt (w1.alloc (.cells (rowOf 16 (w8 (keyL L))) 23)) rp L) := RowAt.alloc (RowAt.below h0.out b1 (RowAt.lt h0.out)) _
    have r3 := Lib.hid ((r0.out.below b1 r0.out.lt).alloc (.cells (rowOf 16 (w8 (keyL L))) 23))
    have k3 := Lib.hid (RowAt.new w1 23 (rowOf 16 (w8 (keyL L))))
    clear c h0 r0
    go_wp2_with (first | (refine wpList_new rfl (run_allocKey rfl _) ?_) | (refine wpList_store_row rfl 23 _ _ rfl w1.heap.size (rowOf 16 (w8 (keyL L))) rfl rfl 23 _ (RowAt.new _ _ _) (info_key _) (by simp only [rowOf_size]) (rowOf_cells8 _ _) ?_; rw [World.setRow_alloc_new]))
    have g := Lib.hid (goOn_yes rp L T _ h3)
    have nq : w.heap.size ≠ rp := by omega
    have nq2 : w1.heap.size ≠ rp := by have := b2.out.size; omega
    generalize w1.alloc (.cells (rowOf 16 (w8 (keyL L))) 23) = w3 at *
    refine g.out.mono ?_
    rintro e w4 ⟨rfl, h4, a4⟩
    have k4 := Lib.hid (a4.row k3.out nq2)
    have r4 := Lib.hid (a4.row r3.out nq)
    go_wp2_with (first | (refine wpList_load_row rfl 23 _ rfl w1.heap.size rfl 23 _ (0, 0) _ k4.out Try.underlying23 rfl (info_key _) ?_) | (refine wpList_store_row rfl 23 _ _ rfl w.heap.size (rowOf 16 (w8 (keyL L))) rfl rfl 23 _ r4.out (info_key _) (by simp only [rowOf_size]) (rowOf_cells8 _ _) ?_))
    refine bodyPost_ret (v := .agg (rowOf 16 (w8 (keyL L)))) ?_ rfl (RdEnd.yes hd rfl (RowAt.setRowOther h4 _ _ nq.symm) (((Apart.of_below b3.out).trans a4).above (Nat.le_refl _) _))
    exact results_row_solo Try.results45 _ _ w.heap.size 23 (rowOf 16 (w8 (keyL L))) (0, 0) _ rfl (r4.out.setRow _) Try.underlying23 rfl (info_key _)

end Go.Proofs.Ytapebaoajknepaa
