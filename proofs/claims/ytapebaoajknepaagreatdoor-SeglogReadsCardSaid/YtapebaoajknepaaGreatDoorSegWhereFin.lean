/-
  A row of pages beside a log; what it holds.
-/
import Derived.Test.YtapebaoajknepaaGreatDoorAll8
import Derived.Laws.Tables
namespace Go.Proofs.YtapebaoajknepaaGreatDoor
open Go.RowKit
set_option linter.unusedVariables false

theorem cellL_addr {i : Nat} {A B : Nat → Int × Int} (h : ∀ j, j < i → A j = B j) : cellL (i * 2) (addrV A) = cellL (i * 2) (addrV B) := cellL_congr fun m hm => by
  unfold addrV
  rw [h (m / 2) (by omega)]
/-- A log's blocks are rows, and none of pages. -/
theorem Lg.typed {B : Nat} {w : World} {lp : Nat} {L : Lay} {S : St} {hv : Value} {G : Sg} (h : Lg B w lp L S hv G) {k : Nat} (hk : footG lp L hv k) : ∃ c t, w.heap[k]? = some (.cells c t (0, 0)) ∧ t ≠ 34 := by
  rcases hk with rfl | rfl | rfl | rfl | ⟨i, hi, rfl⟩ | e
  · exact ⟨_, _, h.log, by decide⟩
  · exact ⟨_, _, h.ch.pow, by decide⟩
  · exact ⟨_, _, h.ch.chip, by decide⟩
  · exact ⟨_, _, h.ch.segs, by decide⟩
  · exact ⟨_, _, h.ch.pages i hi, by decide⟩
  · rcases h.ch.hist.2 with ⟨h1, _⟩ | ⟨g, cap, cur, h1, _, hg, _⟩
    · rw [h1] at e
      cases e
    · rw [h1] at e
      obtain rfl : g = k := by simpa [Value.ownBlock] using e
      exact ⟨_, _, hg, by decide⟩
theorem Lg.not_where {B : Nat} {w : World} {lp : Nat} {L : Lay} {S : St} {hv : Value} {G : Sg} (h : Lg B w lp L S hv G) {b n k : Nat} {v : Value} {xs : List Value} (ho : w.ownsRow b 34 2 v n xs) (e : v.ownBlock = some k) : ¬ footG lp L hv k := fun hk => by
  obtain ⟨c, t, h1, h2⟩ := h.typed hk
  rcases ho.2 with ⟨h3, _⟩ | ⟨g, cap, cur, h3, _, hg, _⟩
  · rw [h3] at e
    cases e
  · rw [h3] at e
    obtain rfl : g = k := by simpa [Value.ownBlock] using e
    rw [h1] at hg
    cases hg
    exact h2 rfl
theorem Lg.beside {F : Nat → Prop} {B : Nat} {w w' : World} {lp : Nat} {L : Lay} {S : St} {hv : Value} {G : Sg} (h : Lg B w lp L S hv G) (hs : Beside F w w') (hF : ∀ k, footG lp L hv k → ¬ F k) : Lg B w' lp L S hv G := by
  have ne : ∀ k, Go.Proofs.YtapebaoajknepaaGreatDoor.foot L hv k → ¬ F k := fun k hk => hF k (.inr hk)
  exact ⟨⟨h.ch.pow.beside hs (ne _ (.inl rfl)), h.ch.chip.beside hs (ne _ (.inr (.inl rfl))), h.ch.segs.beside hs (ne _ (.inr (.inr (.inl rfl)))), fun i hi => (h.ch.pages i hi).beside hs (ne _ (.inr (.inr (.inr (.inl ⟨i, hi, rfl⟩))))), own_beside h.ch.hist hs (fun k e => ne k (.inr (.inr (.inr (.inr e))))), h.ch.inj, h.ch.far, h.ch.low, h.ch.room, h.ch.byte, h.ch.tall⟩, h.log.beside hs (hF _ (.inl rfl)), h.lo, h.up, h.wide, h.opn⟩
theorem Lg.grown {B : Nat} {w w' : World} {lp : Nat} {L : Lay} {S : St} {hv : Value} {G : Sg} (h : Lg B w lp L S hv G) {b n : Nat} {v : Value} {xs : List Value} (ho : w.ownsRow b 34 2 v n xs) (hg : w.grownBy w' v.ownBlock) : Lg B w' lp L S hv G :=
  h.beside (F := fun k => v.ownBlock = some k) ((Beside.refl _ w).grown hg (fun k e => .inl e)) (fun k hk e => h.not_where ho e hk)
theorem own_after {w w' : World} {b n : Nat} {t : TypeId} {z : Nat} {v : Value} {xs : List Value} (h : w.ownsRow b t z v n xs) (hb : Below w.heap.size w w') : w'.ownsRow b t z v n xs := own_cel (m := 0) h (Cel.of_below hb)
theorem own_goes {B : Nat} {w w' : World} {lp : Nat} {L : Lay} {S : St} {hv hv' : Value} {G : Sg} (h : Lg B w lp L S hv G) (g : GoesG lp L hv w hv' w') {b n : Nat} {v : Value} {xs : List Value} (ho : w.ownsRow b 34 2 v n xs) : w'.ownsRow b 34 2 v n xs :=
  own_beside ho g.side (fun k e => h.not_where ho e)

/-- The text that is appended. -/
def cut229 (s : ByteArray) : ByteArray := s.extract 0 (min s.size 229)
theorem cut229_size (s : ByteArray) : (cut229 s).size ≤ 229 := by
  unfold cut229
  rw [ByteArray.size_extract]
  omega
/-- The first i pages hold the first i texts. -/
def Pgs (L : Lay) (S : St) (A : Nat → Int × Int) (T : Nat → ByteArray) (i : Nat) : Prop := ∀ j, j < i → ∃ s f : Nat, A j = ((s : Int), (f : Int)) ∧ s < L.n ∧ f < L.m ∧ S.page s f = bs (pageL (1 + j % 3) (j + 1) (cut229 (T j)).data.toList)
theorem Pgs.next {L : Lay} {S : St} {A : Nat → Int × Int} {T : Nat → ByteArray} {i s : Nat} (h : Pgs L S A T i) (hs : s < L.n) (hf : firstB L S s < L.m) (hb : isB (S.page s (firstB L S s)) = false) :
    Pgs L (appS L S (1 + i % 3) (i + 1) s (cut229 (T i))) (fun j => if j = i then ((s : Int), (firstB L S s : Int)) else A j) T (i + 1) := fun j hj => by
  by_cases e : j = i
  · subst e
    exact ⟨s, firstB L S s, if_pos rfl, hs, hf, by rw [appS_page, if_pos ⟨rfl, rfl⟩]⟩
  · obtain ⟨s', f', e1, e2, e3, e4⟩ := h j (by omega)
    refine ⟨s', f', (if_neg e).trans e1, e2, e3, ?_⟩
    rw [appS_page, if_neg, e4]
    rintro ⟨rfl, rfl⟩
    rw [e4, put_isB (cut229_size _)] at hb
    cases hb
/-- What is read behind the erasure. -/
theorem Pgs.reads {L : Lay} {S : St} {A : Nat → Int × Int} {T : Nat → ByteArray} {i k : Nat} (h : Pgs L S A T i) (hm : L.m ≤ 16) (hi : i ≤ 40) : ∀ j, j < i →
    ((A j).1 = (k : Int) → rdE L.n L.m (lerS S k) (A j).1 (A j).2 = 3 ∧ rdV L.n L.m (lerS S k) (A j).1 (A j).2 = .agg #[.int .u8 0, .int .u64 0, .string ⟨#[]⟩]) ∧ ((A j).1 ≠ (k : Int) → rdE L.n L.m (lerS S k) (A j).1 (A j).2 = 0 ∧ rdV L.n L.m (lerS S k) (A j).1 (A j).2 = .agg #[.int .u8 ((1 + j % 3 : Nat) : Int), .int .u64 ((j + 1 : Nat) : Int), .string (cut229 (T j))]) := fun j hj => by
  obtain ⟨s, f, e1, e2, e3, e4⟩ := h j hj
  rw [e1]
  refine ⟨fun hk => ?_, fun hk => ?_⟩
  · have hk' : s = k := by
      have : (s : Int) = (k : Int) := hk
      omega
    have hB : isB ((lerS S k).page s f) = false := by rw [lerS_page S k s f (by omega), if_pos hk']; exact isB_empty
    refine ⟨rd_none e2 e3 hB, ?_⟩
    unfold rdV
    rw [if_neg]
    rintro ⟨_, h2⟩
    rw [show ((s : Int)).toNat = s from Int.toNat_natCast s, show ((f : Int)).toNat = f from Int.toNat_natCast f, hB] at h2
    cases h2
  · have hk' : ¬ s = k := fun h2 => hk (by show (s : Int) = (k : Int); omega)
    exact rd_page e2 e3 (by rw [lerS_page S k s f (by omega), if_neg hk']; exact e4) (by omega) (by omega) (by omega) (cut229_size _)

theorem sz_txt : (Tryz.prog.info? 9).map (·.size) = some 1 := by kernel_rfl
theorem el_txts : Tryz.prog.elem 22 = 9 := by kernel_rfl
theorem at_txt {w0 : World} {ad : Option Addr} {n c i : Nat} {F : Nat → Value} (h : SeesV w0 ad n F) (hi : i < n) {o : Oper} {a : Act} {x y : Operand} (ho : o.op = .indexAddr 22 x y) (hx : a.eval x = .slice ad n c) {z : Int} (hy : a.eval y = .int .i64 z) (hz : z = (i : Int)) (w : World) :
    (execOp a.eval o).run Tryz.prog w = .ok (.value (.pointer (some (elV ad i)))) w := by
  have := run_index_v Tryz.underlying22 el_txts sz_txt (k := 1) (n := n) (by rw [Nat.mul_one]; exact h) (by decide) hi ho hx hy hz w
  rwa [Nat.mul_one] at this
theorem get_txt {w : World} {ad : Option Addr} {m : Nat} {s : ByteArray} (hc : w.cell? (elV ad m) = some (.string s)) {o : Oper} {a : Act} {x : Operand} (ho : o.op = .load 9 x) (hx : a.eval x = .pointer (some (elV ad m))) :
    (execOp a.eval o).run Tryz.prog w = .ok (.value (.string s)) w := by
  unfold execOp
  simp only [ho, hx, Instr.loadAt, Instr.sureAddr, Sem.run_bind, Sem.run_pure, Result.andThen_ok, run_loadVar_one w _ _ hc Tryz.underlying9 rfl]
theorem run_allocAddr {o : Oper} {a : Act} (ho : o.op = .alloc 34) {w : World} {p : Nat} (hp : w.heap.size = p) : (execOp a.eval o).run Tryz.prog w = .ok (.value (.pointer (some ⟨p, 0, none⟩))) (w.alloc (.cells #[.int .i64 0, .int .i64 0] 34)) := by
  subst hp
  unfold execOp
  rw [ho]
  kernel_rfl
theorem wp_made {P : Program} {o : Oper} {a : Act} {w w' : World} {K : Act → World → Prop} {Q : Exit → Act → World → Prop} {v : Value} (hr : (execOp a.eval o).run P w = .ok (.value v) w') (h : K (a.put o.dst v) w') : o.wp P a w K Q := by
  unfold Oper.wp
  simp only [hr, Oper.upon]
  exact h
theorem wp_called {P : Program} {o : Oper} {a : Act} {w : World} {K : Act → World → Prop} {Q : Exit → Act → World → Prop} {f : FuncId} {args : Array Value} (hr : (execOp a.eval o).run P w = .ok (.enter f args) w) (h : Calls P f args w fun e w' => ∃ v, e = .returned v ∧ K (a.put o.dst v) w') : o.wp P a w K Q := by
  unfold Oper.wp
  simp only [hr, Oper.upon]
  refine h.mono ?_
  rintro e w' ⟨v, rfl, h⟩
  exact h
/-- The new variable is stored to. -/
theorem Lg.stored {B : Nat} {w : World} {lp : Nat} {L : Lay} {S : St} {hv : Value} {G : Sg} (h : Lg B w lp L S hv G) {p : Nat} {cs : Array Value} (hp : RowAt w p 34 cs) (cs' : Array Value) : Lg B (w.setRow p cs') lp L S hv G :=
  h.beside (F := fun k => k = p) ((Beside.refl (fun k => k = p) w).setRow (p := p) (.inl rfl) cs') (fun k hk e => by
    obtain ⟨c, t, h1, h2⟩ := h.typed hk
    rw [e] at h1
    unfold RowAt at hp
    rw [hp] at h1
    cases h1
    exact h2 rfl)
theorem own_stored {w : World} {b n : Nat} {t : TypeId} {z : Nat} {v : Value} {xs : List Value} (h : w.ownsRow b t z v n xs) {p : Nat} (hp : v.ownBlock ≠ some p) (cs' : Array Value) : (w.setRow p cs').ownsRow b t z v n xs :=
  own_beside h (F := fun k => k = p) ((Beside.refl (fun k => k = p) w).setRow (p := p) (.inl rfl) cs') (fun k e e2 => hp (by rw [e, e2]))

end Go.Proofs.YtapebaoajknepaaGreatDoor
