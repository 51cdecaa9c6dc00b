/-
  Contracts: decoded, Decode.
-/
import Derived.Test.YtapebaoajknepaaNodeNode
import Derived.Test.YtapebaoajknepaaBeside
import Derived.Recover
import Derived.Defers
namespace Go.Proofs.Ytapebaoajknepaa
open Go.RowKit
set_option linter.unusedVariables false

/-- Decode's answers. -/
def decV (L : List UInt8) : Nod := match decN L with | .error _ => noNod | .ok N => N
def decE (L : List UInt8) : Nat := match decN L with | .error e => e | .ok _ => 0
theorem run_allocErr {o : Oper} {a : Act} (ho : o.op = .alloc 30) (w : World) : (execOp a.eval o).run Try.prog w = .ok (.value (.pointer (some ⟨w.heap.size, 0, none⟩))) (w.alloc (.cells #[.int .i64 0] 30)) := by
  unfold execOp
  rw [ho]
  kernel_rfl

/-- What the deferred function leaves where a step panicked. -/
def Caught (p q n : Nat) (older : List PanicEntry) (w : World) (e : Ending) (u' : FrameMode) (w' : World) : Prop :=
  e = .returned (.tuple #[]) ∧ u' = .panicking ({ v := .iface 30 (.int .i64 (n : Int)), recovered := true } :: older) ∧ RowAt w' p 29 (rowOf 85 (nF noNod)) ∧ RowAt w' q 30 #[.int .i64 (n : Int)] ∧ Beside (fun k => k = p ∨ k = q) w w'

set_option maxHeartbeats 4000000 in
set_option maxRecDepth 8000 in
theorem catch_panicking (p q n : Nat) (z : Int) (N : Nod) (older : List PanicEntry) (w : World) (hp : Hid (RowAt w p 29 (rowOf 85 (nF N)))) (hq : Hid (RowAt w q 30 #[.int .i64 z])) :
    CallsD Try.prog 34 #[.pointer (some ⟨p, 0, none⟩), .pointer (some ⟨q, 0, none⟩)] (.panicking ({ v := .iface 30 (.int .i64 (n : Int)), recovered := false } :: older)) w (Caught p q n older w) := by
  have hpq : p ≠ q := hp.out.apart hq.out (by decide)
  have s0 : Beside (fun k => k = p ∨ k = q) w ((World.drew w).setRow p (rowOf 85 (nF noNod))) := ((Beside.refl _ w).drew).setRow (.inl (.inl rfl)) _
  have r0 := Lib.hid (RowAt.setRow (RowAt.drew hp.out) (rowOf 85 (nF noNod)))
  have q0 := Lib.hid (RowAt.setRowOther (RowAt.drew hq.out) p (rowOf 85 (nF noNod)) hpq.symm)
  have c0 : ((World.drew w).setRow p (rowOf 85 (nF noNod))).cell? ⟨q, 0, none⟩ = some (.int .i64 z) := q0.out.one 0 rfl
  have f0 : ((World.drew w).setRow p (rowOf 85 (nF noNod))).frozen? ⟨q, 0, none⟩ = false := q0.out.free 0
  have q1 := Lib.hid (q0.out.set 0 (.int .i64 (n : Int)))
  have r1 := Lib.hid (r0.out.setOther ⟨q, 0, none⟩ (.int .i64 (n : Int)) hpq)
  have s1 := Lib.hid (s0.setCell (p := ⟨q, 0, none⟩) (.inl (.inr rfl)) (.int .i64 (n : Int)))
  clear s0 q0 r0
  refine callsD_of_wpS Try.func34 rfl fun c₀ cs hu => ?_
  apply wpS_seq
  apply wpS_region
  simp [wpOpsS, go_sem, recoverD, hu, Try.ntmps34, Exit.thenS]
  refine wpS_of_wp ?_
  go_wp2_with fail
  change Code.wp _ _ _ { tmps := #[.pointer (some ⟨p, 0, none⟩), .pointer (some ⟨q, 0, none⟩), .iface 30 (.int .i64 (n : Int)), .iface 30 (.int .i64 (n : Int)), .iface 30 (.int .i64 (n : Int)), .bool true, undef, undef, undef], defers := [] } _
  refine wp_region_any (by kernel_rfl) ?_
  change wpAny _ _ _ _ _ _ _ (World.drew _)
  refine wpAny_take (i := 0) (v := .agg (rowOf 85 (nF noNod))) rfl (by kernel_rfl) (by kernel_rfl) (by kernel_rfl) (fun _ _ _ h => h) (Or.inl ⟨by rfl, fun w => by kernel_rfl⟩) ?_
  refine wpAny_take (i := 1) (v := .iface 30 (.int .i64 (n : Int))) rfl (by kernel_rfl) (by kernel_rfl) (by kernel_rfl) (fun _ _ _ h => h) (Or.inl ⟨by rfl, fun w => by go_simp⟩) ?_
  refine wpAny_take (i := 2) (v := .int .i64 (n : Int)) rfl (by kernel_rfl) (by kernel_rfl) (by kernel_rfl) (fun _ _ _ h => h) (Or.inl ⟨by rfl, fun w => by kernel_rfl⟩) ?_
  refine wpAny_ready (rs := [3]) (by kernel_rfl) (by simp) (AllReady.cons rfl (fun K hK => ?_) AllReady.nil)
  rw [if_pos (by rfl)]
  refine wp_store_row 29 _ _ rfl p (rowOf 85 (nF noNod)) rfl rfl 29 _ (RowAt.drew hp.out) (infoNod' _) (by simp only [rowOf_size]) (nF_all' _) (hK _ _ ?_)
  clear hK K
  refine wpAny_ready (rs := [4]) (by kernel_rfl) (by simp) (AllReady.cons rfl (fun K hK => ?_) AllReady.nil)
  go_simp
  refine hK _ _ ?_
  clear hK K
  refine wpAny_done (by kernel_rfl) ?_ _
  exact ⟨rfl, _, rfl, .tuple #[], by simp [results, Try.results34], rfl, rfl, r1.out, q1.out, s1.out⟩

set_option maxRecDepth 8000 in
theorem catch_idle (p q : Nat) (w : World) :
    CallsD Try.prog 34 #[.pointer (some ⟨p, 0, none⟩), .pointer (some ⟨q, 0, none⟩)] .returning w fun e u' w' => e = .returned (.tuple #[]) ∧ u' = .returning ∧ w' = w := by
  refine callsD_of_wpS Try.func34 rfl fun c₀ cs hu => ?_
  apply wpS_seq
  apply wpS_region
  simp [wpOpsS, go_sem, recoverD, hu, Try.ntmps34, Exit.thenS]
  refine wpS_of_wp ?_
  go_wp2
  cases c₀
  simp_all [bodyPostS, results, Try.results34]

/-- A reader of bytes; what decoded answers. -/
theorem results_row_cell {P : Program} {fn : Func} {p u : Tmp} {ty tz : TypeId} (h : fn.results = #[.cell p ty, .cell u tz]) (tmps : Array Value) (w : World) (g q : Nat) (t t' : TypeId) (cs : Array Value) (v : Value) (d d' : TypeDesc)
    (hp : tmps.getD p undef = .pointer (some ⟨g, 0, none⟩)) (hg : RowAt w g t cs) (hu : P.underlying ty = some d) (hd : (match d with | .struct _ | .array _ _ => true | _ => false) = true) (hi : (P.info? ty).map (·.size) = some cs.size)
    (hq : tmps.getD u undef = .pointer (some ⟨q, 0, none⟩)) (hgq : RowAt w q t' #[v]) (hu' : P.underlying tz = some d') (hd' : (match d' with | .struct _ | .array _ _ => false | _ => true) = true) :
    (results fn tmps).run P w = .ok (.tuple #[.agg cs, v]) w := by
  have hp' : tmps[p]?.getD undef = .pointer (some ⟨g, 0, none⟩) := by simpa using hp
  have hq' : tmps[u]?.getD undef = .pointer (some ⟨q, 0, none⟩) := by simpa using hq
  have hc : w.cell? ⟨q, 0, none⟩ = some v := hgq.one 0 rfl
  have hl : (loadVar tz ⟨q, 0, none⟩).run P w = .ok v w := run_loadVar_one w _ _ hc hu' hd'
  simp [results, h, hp', hq', asAddr, run_loadVar_row w g t ty cs (0, 0) d hg hu hd hi, hl]

theorem Apart.beside {p : Nat} {w0 w w' : World} {F : Nat → Prop} (h : Apart p w0 w) (hs : Beside F w w') (hF : ∀ k, F k → w0.heap.size ≤ k) : Apart p w0 w' := fun cs =>
  (h cs).trans (below_both (hs.under hF h.size) cs)

set_option maxHeartbeats 4000000 in
set_option maxRecDepth 8000 in
theorem decoded_any (rp : Nat) (L : List UInt8) (w : World) (h : Hid (RdAt w rp L)) :
    Calls Try.prog 29 #[.pointer (some ⟨rp, 0, none⟩)] w fun e w' => e = .returned (.tuple #[.agg (rowOf 85 (nF (decV L))), .int .i64 (decE L : Nat)]) ∧ Apart rp w w' := by
  have hmf : ∀ (fn : Fn) (first cap : Array Value) (w : World), (Instr.makeFunc fn first cap).run Try.prog w = .ok (.func fn first cap) w := fun _ _ _ _ => rfl
  have lt := RowAt.lt h.out
  have h3 : Hid (RdAt ((w.alloc (.cells (rowOf 85 (nF noNod)) 29)).alloc (.cells #[.int .i64 0] 30)) rp L) := RowAt.alloc (RowAt.alloc h.out _) _
  have p3 : Hid (RowAt ((w.alloc (.cells (rowOf 85 (nF noNod)) 29)).alloc (.cells #[.int .i64 0] 30)) w.heap.size 29 (rowOf 85 (nF noNod))) := (RowAt.new _ _ _).alloc _
  have q3 : Hid (RowAt ((w.alloc (.cells (rowOf 85 (nF noNod)) 29)).alloc (.cells #[.int .i64 0] 30)) (w.heap.size + 1) 30 #[.int .i64 0]) := by
    have := RowAt.new (w.alloc (.cells (rowOf 85 (nF noNod)) 29)) 30 #[.int .i64 0]
    rw [World.size_alloc] at this
    exact this
  have a3 := Lib.hid (((Apart.refl rp w).alloc (.cells (rowOf 85 (nF noNod)) 29)).alloc (.cells #[.int .i64 0] 30))
  have K := Lib.hid (rdNode_any rp L _ h3)
  cases hh : rdA L with
  | error n =>
    have hd : Hid (decV L = noNod ∧ decE L = n) := by unfold Hid decV decE decN; rw [hh]; exact ⟨rfl, rfl⟩
    rw [hh] at K
    go_enter_defers Try.func29, Try.ntmps29
    go_wp2_with (first | (refine wpList_new rfl (run_allocNod rfl _) ?_) | (refine wpList_new rfl (run_allocErr rfl _) ?_))
    refine K.out.mono ?_
    rintro e w4 ⟨rfl, a4⟩
    have p4 := Lib.hid (a4.row p3.out (by omega))
    have q4 := Lib.hid (a4.row q3.out (by omega))
    have a5 := Lib.hid (a3.out.trans a4)
    unfold Pan
    go_wp2
    refine leaves_cons (f := 34) (args := #[.pointer (some ⟨w.heap.size, 0, none⟩), .pointer (some ⟨w.heap.size + 1, 0, none⟩)]) (by simp) (by simp [go_sem]) ?_
    refine (catch_panicking w.heap.size (w.heap.size + 1) n 0 noNod [] w4 p4 q4).mono ?_
    rintro e u' w6 ⟨rfl, rfl, p6, q6, s6⟩
    simp [Leaves, settle]
    refine ⟨_, results_row_cell Try.results29 _ _ w.heap.size (w.heap.size + 1) 29 30 (rowOf 85 (nF noNod)) (.int .i64 (n : Nat)) _ _ rfl p6 Try.underlying29 rfl (infoNod' _) rfl q6 Try.underlying30 rfl, ?_⟩
    exact ⟨by rw [hd.out.1, hd.out.2], a5.out.beside s6 (fun k hk => by rcases hk with rfl | rfl <;> omega)⟩
  | ok a =>
    obtain ⟨N, R⟩ := a
    rw [hh] at K
    have hdn : decN L = if R = [] then .ok N else .error 12 := by unfold decN; rw [hh]
    clear hh
    go_enter_defers Try.func29, Try.ntmps29
    go_wp2_with (first | (refine wpList_new rfl (run_allocNod rfl _) ?_) | (refine wpList_new rfl (run_allocErr rfl _) ?_))
    refine K.out.mono ?_
    rintro e w4 ⟨rfl, h4, a4⟩
    have p4 := Lib.hid (a4.row p3.out (by omega))
    have q4 := Lib.hid (a4.row q3.out (by omega))
    have a5 := Lib.hid ((a3.out.trans a4).above (Nat.le_refl _) (rowOf 85 (nF N)))
    have p5 := Lib.hid (p4.out.setRow (rowOf 85 (nF N)))
    have q5 := Lib.hid (q4.out.setRowOther w.heap.size (rowOf 85 (nF N)) (by omega))
    have h5 : Hid (RdAt (w4.setRow w.heap.size (rowOf 85 (nF N))) rp R) := RowAt.setRowOther h4 _ _ (by omega)
    have E := Lib.hid (rdEnd_any rp R _ h5)
    clear h3 p3 q3 a3 K h4 a4 q4
    by_cases hR : R = []
    · rw [if_pos hR] at hdn E
      have hd : Hid (decV L = N ∧ decE L = 0) := by unfold Hid decV decE; rw [hdn]; exact ⟨rfl, rfl⟩
      clear hdn
      go_wp2_with (refine wpList_store_row rfl 29 _ _ rfl w.heap.size (rowOf 85 (nF N)) rfl rfl 29 _ p4.out (infoNod' _) (by simp only [rowOf_size]) (nF_all' _) ?_)
      generalize w4.setRow w.heap.size (rowOf 85 (nF N)) = w5 at *
      refine E.out.mono ?_
      rintro e w6 ⟨rfl, rfl⟩
      have p6 := Lib.hid (p5.out.setRow (rowOf 85 (nF N)))
      have q6 := q5.out.setRowOther w.heap.size (rowOf 85 (nF N)) (by omega)
      have c6 : (w6.setRow w.heap.size (rowOf 85 (nF N))).cell? ⟨w.heap.size + 1, 0, none⟩ = some (.int .i64 0) := q6.one 0 rfl
      have f6 := q6.free 0
      have q7 := Lib.hid (q6.set 0 (.int .i64 0))
      have p7 := Lib.hid (p6.out.setOther ⟨w.heap.size + 1, 0, none⟩ (.int .i64 0) (by show w.heap.size ≠ w.heap.size + 1; omega))
      have a7 := Lib.hid ((a5.out.above (Nat.le_refl _) (rowOf 85 (nF N))).above_cell (i := 0) (by omega : w.heap.size ≤ w.heap.size + 1) q6 (.int .i64 0))
      clear E p4 h5 q6
      go_wp2_with (first | (refine wpList_load_row rfl 29 _ rfl w.heap.size rfl 29 _ (0, 0) _ p5.out Try.underlying29 rfl (infoNod' _) ?_) | (refine wpList_store_row rfl 29 _ _ rfl w.heap.size (rowOf 85 (nF N)) rfl rfl 29 _ p5.out (infoNod' _) rfl (nF_all' _) ?_))
      refine leaves_cons (f := 34) (args := #[.pointer (some ⟨w.heap.size, 0, none⟩), .pointer (some ⟨w.heap.size + 1, 0, none⟩)]) (by simp) (by simp [go_sem]) ?_
      refine (catch_idle w.heap.size (w.heap.size + 1) _).mono ?_
      rintro e u' w8 ⟨rfl, rfl, rfl⟩
      simp [Leaves, settle]
      refine ⟨_, results_row_cell Try.results29 _ _ w.heap.size (w.heap.size + 1) 29 30 (rowOf 85 (nF N)) (.int .i64 0) _ _ rfl p7.out Try.underlying29 rfl (infoNod' _) rfl q7.out Try.underlying30 rfl, ?_⟩
      exact ⟨by rw [hd.out.1, hd.out.2]; rfl, a7.out⟩
    · rw [if_neg hR] at hdn E
      have hd : Hid (decV L = noNod ∧ decE L = 12) := by unfold Hid decV decE; rw [hdn]; exact ⟨rfl, rfl⟩
      clear hdn
      go_wp2_with (refine wpList_store_row rfl 29 _ _ rfl w.heap.size (rowOf 85 (nF N)) rfl rfl 29 _ p4.out (infoNod' _) (by simp only [rowOf_size]) (nF_all' _) ?_)
      generalize w4.setRow w.heap.size (rowOf 85 (nF N)) = w5 at *
      refine E.out.mono ?_
      rintro e w6 ⟨rfl, rfl⟩
      clear E p4 h5
      unfold Pan
      go_wp2
      refine leaves_cons (f := 34) (args := #[.pointer (some ⟨w.heap.size, 0, none⟩), .pointer (some ⟨w.heap.size + 1, 0, none⟩)]) (by simp) (by simp [go_sem]) ?_
      refine (catch_panicking w.heap.size (w.heap.size + 1) 12 0 N [] w6 p5 q5).mono ?_
      rintro e u' w8 ⟨rfl, rfl, p6, q6, s6⟩
      simp [Leaves, settle]
      refine ⟨_, results_row_cell Try.results29 _ _ w.heap.size (w.heap.size + 1) 29 30 (rowOf 85 (nF noNod)) (.int .i64 (12 : Nat)) _ _ rfl p6 Try.underlying29 rfl (infoNod' _) rfl q6 Try.underlying30 rfl, ?_⟩
      exact ⟨by rw [hd.out.1, hd.out.2], a5.out.beside s6 (fun k hk => by rcases hk with rfl | rfl <;> omega)⟩

set_option maxRecDepth 8000 in
theorem decode_list (L : List UInt8) (w : World) :
    Calls Try.prog 18 #[.string (bs L)] w fun e w' => e = .returned (.tuple #[.agg (rowOf 85 (nF (decV L))), .int .i64 (decE L : Nat)]) ∧ Below w.heap.size w w' := by
  have p0 : Hid (RowAt ((w.alloc (.cells (rowOf 85 (nF noNod)) 29)).alloc (.cells #[.string (bs L)] 64)) w.heap.size 29 (rowOf 85 (nF noNod))) := (RowAt.new _ _ _).alloc _
  have h0 : Hid (RdAt ((w.alloc (.cells (rowOf 85 (nF noNod)) 29)).alloc (.cells #[.string (bs L)] 64)) (w.heap.size + 1) L) := by
    have := RowAt.new (w.alloc (.cells (rowOf 85 (nF noNod)) 29)) 64 #[.string (bs L)]
    rw [World.size_alloc] at this
    exact this
  have b0 := Lib.hid (((Below.refl _ w).alloc (Nat.le_refl _) (.cells (rowOf 85 (nF noNod)) 29)).alloc (by simp) (.cells #[.string (bs L)] 64))
  have K := Lib.hid (decoded_any (w.heap.size + 1) L _ h0)
  go_enter Try.func18, Try.ntmps18
  go_wp2_with (refine wpList_new rfl (run_allocNod rfl _) ?_)
  refine K.out.mono ?_
  rintro e w2 ⟨rfl, a2⟩
  have p2 := Lib.hid (a2.row p0.out (by omega))
  have b2 := Lib.hid (b0.out.trans (a2.under (by omega) b0.out.size))
  clear p0 h0 b0 K a2
  go_wp2_with (refine wpList_store_row rfl 29 _ _ rfl w.heap.size (rowOf 85 (nF (decV L))) rfl rfl 29 _ p2.out (infoNod' _) (by simp only [rowOf_size]) (nF_all' _) ?_)
  refine bodyPost_ret (v := .tuple #[.agg (rowOf 85 (nF (decV L))), .int .i64 (decE L : Nat)]) ?_ rfl ⟨rfl, below_setRow' b2.out (Nat.le_refl _) _⟩
  exact results_row_one Try.results18 _ _ w.heap.size 29 (rowOf 85 (nF (decV L))) (0, 0) _ rfl (p2.out.setRow _) Try.underlying29 rfl (infoNod' _)
theorem decode_any (s : ByteArray) (w : World) :
    Calls Try.prog 18 #[.string s] w fun e w' => e = .returned (.tuple #[.agg (rowOf 85 (nF (decV s.data.toList))), .int .i64 (decE s.data.toList : Nat)]) ∧ Below w.heap.size w w' := by
  have := decode_list s.data.toList w
  rwa [bs_data] at this

end Go.Proofs.Ytapebaoajknepaa
