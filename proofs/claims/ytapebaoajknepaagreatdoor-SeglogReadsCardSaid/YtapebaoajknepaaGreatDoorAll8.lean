/-
  Texts 8 of 8, merged.
-/
import Derived.Test.YtapebaoajknepaaGreatDoorAll7
import Derived.Great.BuildSlice
import Derived.Laws.MakeOwn
import Derived.ProofKit
import Derived.OpenShut
import Derived.Test.YtapebaoajknepaaGreatDoorRows
import Derived.LaidMore
import Derived.Lay
import Derived.LaidOnce
import Derived.WideShapes
import Derived.Stop.Joined
import Derived.KernelRfl
/-
  The frames of a log as they are handed out; plain lists.
-/
namespace Go.Proofs.YtapebaoajknepaaGreatDoor
open Go.RowKit
set_option linter.unusedVariables false

theorem SeqK.congr {K : Nat → Prop} {C : World → Prop} {P : Program} {g : Nat} {lb : Array Value} {N : Nat} {xs ys : Nat → Array Value} {w0 : World} (h : SeqK K C P g lb N xs w0) (e : ∀ k, k < N → xs k = ys k) : SeqK K C P g lb N ys w0 := by
  intro l J W hW hJ hC hY h0
  exact h l J W hW hJ hC (fun k W1 hj hk => by rw [e k hk]; exact hY k W1 hj hk) h0

/-- The frame of a page that has one: its kind, number, text. -/
def frK (S : St) (p : Nat × Nat) : Nat := kindL (S.page p.1 p.2).data.toList
def frN (S : St) (p : Nat × Nat) : Nat := seqL (S.page p.1 p.2).data.toList
def frT (S : St) (p : Nat × Nat) : ByteArray := bs (textL (S.page p.1 p.2).data.toList)
theorem pgL_mem (S : St) (u : Nat) : ∀ t x, x ∈ pgL S u t ↔ x < t ∧ fB S u x = true
  | 0, x => by simp [pgL]
  | t + 1, x => by
    show x ∈ pgL S u t ++ _ ↔ _
    rw [List.mem_append, pgL_mem S u t x]
    by_cases h : fB S u t = true
    · rw [if_pos h, List.mem_singleton]
      constructor
      · rintro (⟨h1, h2⟩ | rfl)
        · exact ⟨by omega, h2⟩
        · exact ⟨by omega, h⟩
      · rintro ⟨h1, h2⟩
        by_cases e : x = t
        · exact .inr e
        · exact .inl ⟨by omega, h2⟩
    · rw [if_neg h]
      constructor
      · rintro (⟨h1, h2⟩ | h1)
        · exact ⟨by omega, h2⟩
        · cases h1
      · rintro ⟨h1, h2⟩
        refine .inl ⟨?_, h2⟩
        by_cases e : x = t
        · subst e; exact absurd h2 h
        · omega
theorem frL_mem (S : St) (m : Nat) : ∀ u p, p ∈ frL S m u ↔ p.1 < u ∧ p.2 < m ∧ fB S p.1 p.2 = true
  | 0, p => by simp [frL]
  | u + 1, p => by
    show p ∈ frL S m u ++ (pgL S u m).map (fun j => (u, j)) ↔ _
    rw [List.mem_append, frL_mem S m u p, List.mem_map]
    constructor
    · rintro (⟨h1, h2, h3⟩ | ⟨j, h1, rfl⟩)
      · exact ⟨by omega, h2, h3⟩
      · exact ⟨Nat.lt_succ_self u, (pgL_mem S u m j).1 h1⟩
    · rintro ⟨h1, h2, h3⟩
      by_cases e : p.1 = u
      · refine .inr ⟨p.2, (pgL_mem S u m p.2).2 ⟨h2, by rw [← e]; exact h3⟩, ?_⟩
        rw [← e]
      · exact .inl ⟨by omega, h2, h3⟩
theorem getD_in {α : Type} {l : List α} {k : Nat} (d : α) (h : k < l.length) : l.getD k d ∈ l := by
  rw [List.getD_eq_getElem?_getD, List.getElem?_eq_getElem h]
  exact List.getElem_mem h
theorem fr_got {S : St} {p : Nat × Nat} (h : fB S p.1 p.2 = true) : gotV (S.page p.1 p.2).data.toList = .agg #[.int .u8 (frK S p : Nat), .int .u64 (frN S p : Nat), .string (frT S p)] := by
  unfold fB at h
  rw [Bool.and_eq_true] at h
  unfold gotV
  rw [if_pos h.2]
  rfl
theorem frames_fr (B : Nat) (lp : Nat) (L : Lay) (S : St) (hv : Value) (s : Nat) (K : Nat → Prop) (w0 : World)
    (h : Hid (RowAt w0 s 28 #[.pointer (some ⟨lp, 0, none⟩)])) (hK : Hid (K s)) (F : Nat → Nat × Nat) (hF : F = fun k => (frL S L.m L.n).getD k (0, 0)) :
    SeqK K (CF B lp L S hv) Tryz.prog 29 #[.pointer (some ⟨s, 0, none⟩)] (frL S L.m L.n).length (fun k => #[.agg #[.int .i64 ((F k).1 : Nat), .int .i64 ((F k).2 : Nat)], .agg #[.int .u8 (frK S (F k) : Nat), .int .u64 (frN S (F k) : Nat), .string (frT S (F k))]]) w0 := by
  subst hF
  refine (frames_seq B lp L S hv s K w0 h hK).congr fun k hk => ?_
  have := (frL_mem S L.m L.n _).1 (getD_in (0, 0) hk)
  rw [fr_got this.2.2]

/-- Of the first k of a list, those that p names. -/
theorem take_yes {α : Type} {l : List α} {p : α → Bool} {k : Nat} (d : α) (hk : k < l.length) (h : p (l.getD k d) = true) :
    ((l.take (k + 1)).filter p).length = ((l.take k).filter p).length + 1 ∧ (l.filter p).getD ((l.take k).filter p).length d = l.getD k d := by
  have e : l.getD k d = l[k] := by rw [List.getD_eq_getElem?_getD, List.getElem?_eq_getElem hk]; rfl
  rw [e] at h ⊢
  refine ⟨by rw [List.take_succ_eq_append_getElem hk, List.filter_append, List.length_append]; simp [h], ?_⟩
  conv => lhs; rw [← List.take_append_drop k l, List.filter_append, List.drop_eq_getElem_cons hk, List.filter_cons]
  simp [h, List.getD_eq_getElem?_getD]
theorem take_no {α : Type} {l : List α} {p : α → Bool} {k : Nat} (d : α) (hk : k < l.length) (h : p (l.getD k d) = false) : ((l.take (k + 1)).filter p).length = ((l.take k).filter p).length := by
  have e : l.getD k d = l[k] := by rw [List.getD_eq_getElem?_getD, List.getElem?_eq_getElem hk]; rfl
  rw [e] at h
  rw [List.take_succ_eq_append_getElem hk, List.filter_append, List.length_append]
  simp [h]

end Go.Proofs.YtapebaoajknepaaGreatDoor
/-
  Contract: All.
-/
namespace Go.Proofs.YtapebaoajknepaaGreatDoor
open Go.RowKit
set_option linter.unusedVariables false

theorem row_new' (w : World) (o1 : Obj) (t : TypeId) (cs : Array Value) : RowAt ((w.alloc o1).alloc (.cells cs t)) (w.heap.size + 1) t cs := by
  have := RowAt.new (w.alloc o1) t cs
  rwa [World.size_alloc] at this
theorem setRow_alloc2 (w : World) (o1 : Obj) (t : TypeId) (cs ds : Array Value) : ((w.alloc o1).alloc (.cells cs t)).setRow (w.heap.size + 1) ds = (w.alloc o1).alloc (.cells ds t) := by
  have := World.setRow_alloc_new (w.alloc o1) cs ds t
  rwa [World.size_alloc] at this
/-- Where the frames of a kind are. -/
def allL (L : Lay) (S : St) (kd : Nat) : List (Nat × Nat) := (frL S L.m L.n).filter fun p => ((frK S p : Int) == (kd : Int))

end Go.Proofs.YtapebaoajknepaaGreatDoor
/-
  Contract: Mount.
-/
namespace Go.Proofs.YtapebaoajknepaaGreatDoor
open Go.RowKit
set_option linter.unusedVariables false

/-- The greatest number of the first k frames. -/
def mxN (S : St) (F : Nat → Nat × Nat) : Nat → Nat
  | 0 => 0
  | k + 1 => max (mxN S F k) (frN S (F k))
def mountN (L : Lay) (S : St) : Nat := mxN S (fun k => (frL S L.m L.n).getD k (0, 0)) (frL S L.m L.n).length
def freshG (n : Nat) : Sg := { seq := n, op := -1, worn := fun _ => false }
theorem mxN_mono (S : St) (F : Nat → Nat × Nat) : ∀ d k, mxN S F k ≤ mxN S F (k + d)
  | 0, k => Nat.le_refl _
  | d + 1, k => Nat.le_trans (mxN_mono S F d k) (Nat.le_max_left _ _)

def logN (cp q : Nat) : Nat → Value := logV cp (freshG q)

set_option maxHeartbeats 4000000 in
set_option maxRecDepth 8000 in
theorem mount_any (B : Nat) (L : Lay) (S : St) (hv : Value) (w : World) (h : Hid (Ch B w L S hv)) (hup : S.up = true) (hwd : Hid (∀ i j, (S.page i j).size ≤ 256)) (hkr : Hid (KRow w)) (hB : B ≤ w.heap.size) (hmx : Hid (mountN L S < 18446744073709551615)) :
    Calls Tryz.prog 7 #[.pointer (some ⟨L.cp, 0, none⟩)] w fun e w' => ∃ lp, e = .returned (.tuple #[.pointer (some ⟨lp, 0, none⟩), .int .i64 0]) ∧ w.heap.size ≤ lp ∧ Hid (Lg B w' lp L S hv (freshG (mountN L S + 1))) ∧ Below w.heap.size w w' := by
  obtain ⟨F, hF⟩ : ∃ F : Nat → Nat × Nat, Hid (F = fun k => (frL S L.m L.n).getD k (0, 0)) := ⟨_, rfl⟩
  obtain ⟨N, hN⟩ : ∃ N, Hid ((frL S L.m L.n).length = N) := ⟨_, rfl⟩
  obtain ⟨mx, hmxe⟩ : ∃ mx : Nat → Nat, Hid (mx = mxN S F) := ⟨_, rfl⟩
  have hM : Hid (mountN L S = mx N) := by unfold Hid mountN; rw [hmxe.out, hF.out, hN.out]
  rw [hM.out] at hmx ⊢
  have hm0 : Hid (mx 0 = 0) := by unfold Hid; rw [hmxe.out]; rfl
  have hms : Hid (∀ k, mx (k + 1) = max (mx k) (frN S (F k))) := fun k => by rw [hmxe.out]; rfl
  have hml : Hid (∀ k, k ≤ N → mx k < 18446744073709551615) := fun k hk => by
    have h1 := hmx.out
    have h2 := mxN_mono S F (N - k) k
    rw [show k + (N - k) = N by omega, ← hmxe.out] at h2
    omega
  have FR := fun (lp s : Nat) (K : Nat → Prop) (w0 : World) (x1 : Hid (RowAt w0 s 28 #[.pointer (some ⟨lp, 0, none⟩)])) (x2 : Hid (K s)) => frames_fr B lp L S hv s K w0 x1 x2 F hF.out
  rw [hN.out] at FR
  replace FR := Lib.hid FR
  clear hM hmxe hN hF
  have r00 : Hid (readV L.n L.m S 0 0 = #[.string (S.page 0 0), .bool (isB (S.page 0 0)), .int .i64 0]) := by
    unfold Hid readV
    rw [if_neg (by rw [hup]; decide), if_neg (by rw [show (inB 0 L.n && inB 0 L.m) = true from by rw [show (0 : Int) = ((0 : Nat) : Int) from rfl, inB_nat 0 _ h.out.room.1, inB_nat 0 _ h.out.room.2.2.1]; rfl]; simp)]
    rfl
  have RD := read_any B w L S hv h 0 0
  rw [r00.out] at RD
  replace RD := Lib.hid RD
  generalize S.page 0 0 = pg at *
  generalize isB pg = pb at *
  clear r00
  refine (callsIn_wide (n := 1)).1 (callsIn_of_wp_marks Tryz.func7 rfl trivial (wpIn_wide.2 ?_) rfl)
  simp only [Tryz.ntmps7, List.size_toArray, List.length_cons, List.length_nil, Nat.reduceAdd, Nat.reduceSub, Array.replicate_succ, Array.replicate_zero, List.push_toArray, List.append_toArray, List.nil_append, List.cons_append]
  go_wp2_with fail
  refine RD.out.mono ?_
  rintro e w1 ⟨rfl, b1⟩
  have h1 := Lib.hid (h.out.after b1)
  clear RD
  obtain ⟨lp, hlp⟩ : ∃ lp, Hid (lp = w1.heap.size) := ⟨_, rfl⟩
  have bA : Below w1.heap.size w1 (w1.alloc (.cells (rowOf 67 (logN L.cp 0)) 67)) := (Below.refl _ _).alloc (Nat.le_refl _) _
  have b2 : Below w1.heap.size w1 ((w1.alloc (.cells (rowOf 67 (logN L.cp 0)) 67)).alloc (.cells #[.pointer (some ⟨lp, 0, none⟩)] 28)) := bA.alloc bA.size _
  have x2 := (RowAt.new w1 67 (rowOf 67 (logN L.cp 0))).alloc (.cells #[.pointer (some ⟨lp, 0, none⟩)] 28)
  have v2 := row_new' w1 (.cells (rowOf 67 (logN L.cp 0)) 67) 28 #[.pointer (some ⟨lp, 0, none⟩)]
  rw [← hlp.out] at x2 v2
  have z2 : ((w1.alloc (.cells (rowOf 67 (logN L.cp 0)) 67)).alloc (.cells #[.pointer (some ⟨lp, 0, none⟩)] 28)).heap.size = lp + 2 := by rw [World.size_alloc, World.size_alloc, ← hlp.out]
  go_wp2_with (refine wpList_buildTo rfl 67 _ rfl _ rfl (rowOf 67 (logN L.cp 0)) (by kernel_rfl) (Hid.out ?_))
  unfold Hid
  have FA := Lib.hid (frames_any lp ((w1.alloc (.cells (rowOf 67 (logN L.cp 0)) 67)).alloc (.cells #[.pointer (some ⟨lp, 0, none⟩)] 28)))
  have hlp' := hlp.out.symm
  have hrz : (rowOf 67 (logN L.cp 0)).size = 67 := rowOf_size _ _
  have cv := v2.one 0 rfl
  replace x2 := Lib.hid x2
  replace v2 := Lib.hid v2
  obtain ⟨row0, hrow⟩ : ∃ row0, Hid (rowOf 67 (logN L.cp 0) = row0) := ⟨_, rfl⟩
  rw [hrow.out] at x2 v2 b2 FA cv hrz z2 ⊢
  clear bA
  go_wp2_with fail
  generalize (w1.alloc (.cells row0 67)).alloc (.cells #[.pointer (some ⟨lp, 0, none⟩)] 28) = w2 at *
  refine FA.out.mono ?_
  rintro e w3 ⟨rfl, c1, z3, b3⟩
  have b12 := b1.trans (b2.mono b1.size)
  have b13 : Below w.heap.size w w3 := b12.trans (b3.mono b12.size)
  have lpw : w.heap.size ≤ lp := by have := b1.size; have := hlp.out; omega
  have x3 := x2.out.below b3 x2.out.lt
  rw [← hrow.out] at x3
  have L3 : Lg B w3 lp L S hv (freshG (mx 0)) := ⟨(h1.out.after b2).after b3, by rw [hm0.out]; exact x3, by omega, hup, hwd.out, .inl rfl⟩
  have v3 := Lib.hid (v2.out.below b3 v2.out.lt)
  rw [z2] at c1 ⊢
  have hz3 : Hid (lp + 2 < w3.heap.size) := by unfold Hid; omega
  have hK1 : Hid (Below w.heap.size w w3) := b13
  have I3 : Hid (Lg B w3 lp L S hv (freshG (mx 0)) ∧ RowAt w3 (lp + 1) 28 #[.pointer (some ⟨lp, 0, none⟩)] ∧ Below w.heap.size w w3) := ⟨L3, v3.out, b13⟩
  have SQ := FR.out lp (lp + 2) (fun j => j ≠ lp) w3 c1 (Lib.hid (by show lp + 2 ≠ lp; omega))
  clear FA x2 v2 b2 z2 z3 b3 b12 b13 x3 L3 v3 FR c1 b1 h1 cv hlp' hK1 hrz h
  go_wp2
  refine wp_rangeFunc_k (K := fun j => j ≠ lp) (C := CF B lp L S hv) (w0 := w3) rfl (enters_of Tryz.func29 (by kernel_rfl) rfl) SQ (Below.refl _ _) (fun _ => rfl)
    (fun k W => Lg B W lp L S hv (freshG (mx k)) ∧ RowAt W (lp + 1) 28 #[.pointer (some ⟨lp, 0, none⟩)] ∧ Below w.heap.size w W) (fun k X Y h c => ⟨h.1.cel c, h.2.1.cel c, h.2.2.trans (c.below (by have := hz3.out; omega) (by have := h.2.2.size; omega))⟩) (fun k X hX => ⟨hkr.out.below hX.2.2 hkr.out.1 hX.2.2.size, _, hX.1⟩) I3.out
    (fun k a1 W => (∃ p, a1 = { tmps := #[.pointer (some ⟨L.cp, 0, none⟩), undef, .pointer none, .int .i64 0, .string pg, .bool pb, .int .i64 0, .pointer (some ⟨lp + 1, 0, none⟩), undef, .pointer (some ⟨p, 0, none⟩), .pointer (some ⟨L.cp, 0, none⟩), .bool false, .tuple #[.string pg, .bool pb, .int .i64 0], .pointer (some ⟨L.cp, 0, none⟩), .tuple #[.string pg, .bool pb, .int .i64 0], .string pg, .bool pb, .int .i64 0, .int .i64 0, .bool false, undef, .pointer (some ⟨L.cp, 0, none⟩), .agg row0, .pointer (some ⟨lp, 0, none⟩), .pointer (some ⟨lp, 0, none⟩), .func (.func 29) #[] #[.pointer (some ⟨lp + 2, 0, none⟩)], .agg #[.int .i64 ((F k).1 : Nat), .int .i64 ((F k).2 : Nat)], .agg #[.int .u8 (frK S (F k) : Nat), .int .u64 (frN S (F k) : Nat), .string (frT S (F k))], undef, undef, undef, undef, undef, undef, undef, undef, undef, undef, undef, undef, undef, undef, undef, undef, undef, undef], defers := [] } ∧ RowAt W p 41 #[.int .u8 (frK S (F k) : Nat), .int .u64 (frN S (F k) : Nat), .string (frT S (F k))]) ∧ Lg B W lp L S hv (freshG (mx k)) ∧ RowAt W (lp + 1) 28 #[.pointer (some ⟨lp, 0, none⟩)] ∧ Below w.heap.size w W)
    (fun k a1 X Y h c => ⟨by obtain ⟨p, e, hp⟩ := h.1; exact ⟨p, e, hp.cel c⟩, h.2.1.cel c, h.2.2.1.cel c, h.2.2.2.trans (c.below (by have := hz3.out; omega) (by have := h.2.2.2.size; omega))⟩) ?assign ?body ?done
  case assign =>
    intro l k W Kk hI hk hKk
    simp only [List.zip_toArray, List.zip_cons_cons, List.zip_nil_right, List.foldl_toArray, List.foldl_cons, List.foldl_nil, List.setIfInBounds_toArray, List.set_cons_succ, List.set_cons_zero]
    have hK' := Lib.hid hKk
    have b2 : Below W.heap.size W (W.alloc (.cells #[.int .u8 (frK S (F k) : Nat), .int .u64 (frN S (F k) : Nat), .string (frT S (F k))] 41)) := (Below.refl _ _).alloc (Nat.le_refl _) _
    have I2 : Hid (Lg B (W.alloc (.cells #[.int .u8 (frK S (F k) : Nat), .int .u64 (frN S (F k) : Nat), .string (frT S (F k))] 41)) lp L S hv (freshG (mx k)) ∧ RowAt (W.alloc (.cells #[.int .u8 (frK S (F k) : Nat), .int .u64 (frN S (F k) : Nat), .string (frT S (F k))] 41)) (lp + 1) 28 #[.pointer (some ⟨lp, 0, none⟩)] ∧ Below w.heap.size w (W.alloc (.cells #[.int .u8 (frK S (F k) : Nat), .int .u64 (frN S (F k) : Nat), .string (frT S (F k))] 41))) := ⟨hI.1.after b2, hI.2.1.below b2 hI.2.1.lt, hI.2.2.trans (b2.mono hI.2.2.size)⟩
    have q2 := Lib.hid (RowAt.new W 41 #[.int .u8 (frK S (F k) : Nat), .int .u64 (frN S (F k) : Nat), .string (frT S (F k))])
    have o2 : Hid (OuterK (fun j => j ≠ lp) W (W.alloc (.cells #[.int .u8 (frK S (F k) : Nat), .int .u64 (frN S (F k) : Nat), .string (frT S (F k))] 41))) := OuterK.of_below b2
    clear hI hKk b2
    generalize F k = fk at *
    generalize frK S fk = k1 at *
    generalize frN S fk = k2 at *
    generalize frT S fk = k3 at *
    generalize fk.1 = i1 at *
    generalize fk.2 = i2 at *
    refine wpIn_round_list' l (by kernel_rfl) (fun ⟨_, _, h⟩ => h) ?_
    go_wp2_with (refine wpList_store_row rfl 41 _ _ rfl W.heap.size #[.int .u8 (k1 : Nat), .int .u64 (k2 : Nat), .string k3] rfl rfl 41 _ (RowAt.new _ _ _) (size_frame _ rfl) rfl (by simp [Value.oneCell']) ?_; rw [World.setRow_alloc_new])
    exact hK'.out _ _ ⟨⟨_, rfl, q2.out⟩, I2.out⟩ o2.out
  case body =>
    rintro l k a1 W ⟨⟨p, rfl, hp⟩, hI, hv1, hlow⟩ hk
    have hs := hms.out k
    have hl1 := hml.out k (by omega)
    have hl2 := hml.out (k + 1) (by omega)
    have bd : Below W.heap.size W W.drew := (Below.refl _ W).drew
    have hp3 := Lib.hid (hp.below bd hp.lt)
    have h3 := Lib.hid (hI.after bd)
    have v3 := Lib.hid (hv1.below bd hv1.lt)
    have lw3 := Lib.hid (hlow.trans (bd.mono hlow.size))
    have od : Hid (OuterK (fun j => j ≠ lp) W W.drew) := OuterK.of_below bd
    clear hI hv1 hlow bd hp
    generalize F k = fk at *
    generalize frK S fk = k1 at *
    generalize frN S fk = k2 at *
    generalize frT S fk = k3 at *
    generalize fk.1 = i1 at *
    generalize fk.2 = i2 at *
    generalize mx k = m1 at *
    refine wpIn_block (wpIn_round_tail' l 10 (by kernel_rfl) roundPostK_block (by kernel_rfl) (by kernel_rfl) ?_)
    change wpStill _ _ (World.drew _) (fun a' => wpList _ _ _ _ a' (World.drew _)) _ _
    generalize W.drew = w4 at *
    have cv := v3.out.one 0 rfl
    have cl := h3.out.l1
    have fl := h3.out.log.free 1
    have cp := hp3.out.one 1 rfl
    change w4.cell? ⟨lp, 1, none⟩ = some (.int .u64 (m1 : Nat)) at cl
    have rs := h3.out.log.set 1 (.int .u64 ((mx (k + 1) : Nat) : Int))
    have ap := (Apart.refl lp w4).setCell h3.out.log (i := 1) (.int .u64 ((mx (k + 1) : Nat) : Int))
    rw [logV_seq] at rs
    have TR := h3.out.turn (G' := freshG (mx (k + 1))) ap rs (.inl rfl)
    have h5 := Lib.hid TR.1
    have v5 := Lib.hid (ap.row v3.out (by omega))
    have o5 : Hid (OuterK (fun j => j ≠ lp) w4 (w4.setCell ⟨lp, 1, none⟩ (.int .u64 ((mx (k + 1) : Nat) : Int)))) := OuterK.setCell h3.out.log 1 _ (fun h => h rfl)
    have lw5 : Hid (Below w.heap.size w (w4.setCell ⟨lp, 1, none⟩ (.int .u64 ((mx (k + 1) : Nat) : Int)))) := lw3.out.setCell (p := ⟨lp, 1, none⟩) lpw _
    have em : Hid (((mx (k + 1) : Nat) : Int) = max (m1 : Int) (k2 : Int)) := by unfold Hid; rw [hs]; omega
    rw [em.out] at h5 v5 o5 lw5
    clear TR rs ap h3 v3 hp3 lw3 hs
    simp only [List.take_succ_cons, List.take_zero, List.drop_succ_cons, List.drop_zero]
    refine wpStill_of_quiet _ _ ?_
    repeat (first | go_big_quiet_skip | (go_big_quiet_want; go_big_quiet_op; go_big_quiet_on))
    refine wpQuiet_nil ?_
    go_wp2
    exact ⟨rfl, ⟨h5.out, v5.out, lw5.out⟩, od.out.trans o5.out⟩
  case done =>
    rintro D W hD ⟨hI, hv1, hlow⟩ hKd
    have hl2 := hml.out N (Nat.le_refl _)
    have cv := hv1.one 0 rfl
    have cl := hI.l1
    have fl := hI.log.free 1
    change W.cell? ⟨lp, 1, none⟩ = some (.int .u64 (mx N : Nat)) at cl
    have rs := hI.log.set 1 (.int .u64 ((mx N + 1 : Nat) : Int))
    have ap := (Apart.refl lp W).setCell hI.log (i := 1) (.int .u64 ((mx N + 1 : Nat) : Int))
    rw [logV_seq] at rs
    have TR := hI.turn (G' := freshG (mx N + 1)) ap rs (.inl rfl)
    have h5 := Lib.hid TR.1
    have v5 := ap.row hv1 (by omega)
    have lw5 : Hid (Below w.heap.size w (W.setCell ⟨lp, 1, none⟩ (.int .u64 ((mx N + 1 : Nat) : Int)))) := hlow.setCell (p := ⟨lp, 1, none⟩) lpw _
    have cv5 := v5.one 0 rfl
    have hKd5 : Hid ((W.setCell ⟨lp, 1, none⟩ (.int .u64 ((mx N + 1 : Nat) : Int))).heap[D]? = some (.deferred (some []))) := by
      unfold Hid
      rw [Below.heap_setCell _ _ _ _ (fun e => ?_)]
      · exact hKd
      · have e' : D = lp := e
        subst e'
        have := hI.log
        unfold RowAt at this
        rw [this] at hKd
        cases hKd
    have em : (((mx N + 1 : Nat) : Int)) = (mx N : Int) + 1 := by omega
    have hWs : w.heap.size ≤ W.heap.size := hlow.size
    rw [em] at h5 lw5 hKd5 cv5
    generalize hmN : mx N = m1 at *
    replace hmN := Lib.hid hmN
    have sq : (m1 : Int) < 18446744073709551615 := by omega
    clear TR rs ap hI hv1 hlow hKd v5 em
    go_wp2
    refine ⟨by simp, .inl ⟨_, _, rfl, run_takeDeferred hKd5.out, ?_⟩⟩
    refine ⟨_, results_tmp2 rfl _ _ _, ?_⟩
    have hzz : (W.setCell ⟨lp, 1, none⟩ (.int .u64 ((m1 : Int) + 1))).heap.size = W.heap.size := by simp [World.setCell]
    have cD : Cel (w.heap.size) (W.setCell ⟨lp, 1, none⟩ (.int .u64 ((m1 : Int) + 1))) ((W.setCell ⟨lp, 1, none⟩ (.int .u64 ((m1 : Int) + 1))).putObj D (.deferred none)) := Cel.put _ (by have := hz3.out; omega) hKd5.out rfl
    exact ⟨lp, rfl, lpw, by rw [hmN.out]; exact h5.out.cel cD, lw5.out.trans (cD.below (Nat.le_refl _) (by rw [hzz]; omega))⟩

end Go.Proofs.YtapebaoajknepaaGreatDoor
/-
  Contract: Room.
-/
namespace Go.Proofs.YtapebaoajknepaaGreatDoor
open Go.RowKit
set_option linter.unusedVariables false

/-- How many pages can be appended, of the first t segments. -/
def roomN (L : Lay) (S : St) (G : Sg) : Nat → Nat
  | 0 => 0
  | t + 1 => roomN L S G t + (if (openB G t || freeB L S G t) = true then (blL S t L.m).length else 0)
theorem roomN_le (L : Lay) (S : St) (G : Sg) (hm : L.m ≤ 16) : ∀ t, roomN L S G t ≤ t * 16
  | 0 => by simp [roomN]
  | t + 1 => by
    show roomN L S G t + _ ≤ _
    have := roomN_le L S G hm t
    have := blL_length S t L.m
    split <;> omega

set_option maxHeartbeats 2000000 in
set_option maxRecDepth 8000 in
theorem lroom_any (B lp : Nat) (L : Lay) (S : St) (hv : Value) (G : Sg) (w : World) (h : Hid (Lg B w lp L S hv G)) :
    Calls Tryz.prog 12 #[.pointer (some ⟨lp, 0, none⟩)] w fun e w' => e = .returned (.int .i64 (roomN L S G L.n : Nat)) ∧ Below w.heap.size w w' := by
  have K := Lib.hid (classes_any lp w)
  have um := Lib.hid Tryz.underlying76
  have uk := Lib.hid Tryz.underlying78
  go_enter Tryz.func12, Tryz.ntmps12
  go_wp2_with fail
  refine K.out.mono ?_
  rintro e w1 ⟨lb, ib, mb, rfl, hc, b1⟩
  have h1 := Lib.hid (h.out.after b1)
  have c0 := h1.out.l0
  have SG := Lib.hid (segs_any B w1 L S hv (Lib.hid h1.out.ch))
  clear K
  go_wp2_with fail
  refine SG.out.mono ?_
  rintro e w2 ⟨rfl, rfl⟩
  have hn := h1.out.ch.room.2.1
  have hm := h1.out.ch.room.2.2.2
  clear SG c0
  go_wp2
  go_loopw [3, 13] (fun v3 v13 wr => ∃ i : Nat, i ≤ L.n ∧ v13 = .int .i64 (i : Int) ∧ v3 = .int .i64 ((roomN L S G i : Nat) : Int) ∧ Hid (Below w2.heap.size w2 wr)) (fun v3 v13 _ => L.n - (intOf v13).toNat)
  case atStart => exact ⟨0, Nat.zero_le _, rfl, rfl, Below.refl _ _⟩
  case round =>
    obtain ⟨i, hi, rfl, rfl, hb⟩ := hrel
    have h2 := Lib.hid (h1.out.after hb.out)
    have hc2 := Lib.hid (hc.out.after hb.out)
    by_cases hin : i < L.n
    · have l0 : (i : Int) < (L.n : Int) := by omega
      have O := Lib.hid (isOpen_any B lp L S hv G i hin lb ib mb wr h2 hc2)
      have m2 := Lib.hid hc2.out.mp
      obtain ⟨R, hR⟩ : ∃ R, Hid (roomN L S G i = R) := ⟨_, rfl⟩
      obtain ⟨N, hN⟩ : ∃ N, Hid ((blL S i L.m).length = N) := ⟨_, rfl⟩
      have hRl : R ≤ 1024 := by have := roomN_le L S G hm i; have := hR.out; omega
      have hNl : N ≤ 16 := by have := blL_length S i L.m; have := hN.out; omega
      have hR1 : Hid (roomN L S G (i + 1) = R + (if (openB G i || freeB L S G i) = true then N else 0)) := by
        unfold Hid
        show roomN L S G i + (if (openB G i || freeB L S G i) = true then (blL S i L.m).length else 0) = _
        rw [hR.out, hN.out]
      have FR : Hid (∀ w', _) := fun w' => (fun hC : Below wr.heap.size wr w' => isFree_any B lp L S hv G i hin lb ib mb w' (Lib.hid (h2.out.after hC)) (Lib.hid (hc2.out.after hC)))
      have LF : Hid (∀ w', _) := fun w' => (fun hC : Below wr.heap.size wr w' => left_any B lp L S hv G i hin w' (Lib.hid (h2.out.after hC)))
      rw [hR.out]
      rw [hN.out] at LF
      generalize openB G i = ob at *
      generalize freeB L S G i = fb at *
      clear h2
      go_wp2_with (refine wpList_known rfl (op_mget um.out uk.out m2.out (find1 lb ib) rfl rfl rfl) ?_)
      refine O.out.mono ?_
      rintro e w3 ⟨rfl, b3⟩
      have m3 := Lib.hid (block_kept b3 m2.out)
      clear O m2
      cases ob
      · have F3 := Lib.hid (FR.out w3 b3)
        go_wp2_with (refine wpList_wknown rfl (op_mget um.out uk.out m3.out (find0 lb ib) rfl rfl rfl) ?_)
        refine F3.out.mono ?_
        rintro e w4 ⟨rfl, b4⟩
        have b5 := b3.trans (b4.mono b3.size)
        clear F3 FR m3 b4
        cases fb
        · have hb5 := Lib.hid (hb.out.trans (b5.mono hb.out.size))
          clear LF b3 b5 hb hc2
          go_wp2
          go_roundw
          case rel => exact ⟨i + 1, by omega, by go_num, by rw [hR1.out]; rfl, hb5⟩
          case measure => simp [intOf]; omega
        · have L4 := Lib.hid (LF.out w4 b5)
          clear LF b3
          go_wp2_with fail
          refine L4.out.mono ?_
          rintro e w6 ⟨rfl, b6⟩
          have b7 := b5.trans (b6.mono b5.size)
          have hb5 := Lib.hid (hb.out.trans (b7.mono hb.out.size))
          clear L4 b5 b6 b7 hb hc2
          go_wp2
          go_roundw
          case rel => exact ⟨i + 1, by omega, by go_num, by rw [hR1.out]; go_num, hb5⟩
          case measure => simp [intOf]; omega
      · have L4 := Lib.hid (LF.out w3 b3)
        clear LF FR m3
        go_wp2_with fail
        refine L4.out.mono ?_
        rintro e w6 ⟨rfl, b6⟩
        have b7 := b3.trans (b6.mono b3.size)
        have hb5 := Lib.hid (hb.out.trans (b7.mono hb.out.size))
        clear L4 b3 b6 b7 hb hc2
        go_wp2
        go_roundw
        case rel => exact ⟨i + 1, by omega, by go_num, by rw [hR1.out]; go_num, hb5⟩
        case measure => simp [intOf]; omega
    · have et : i = L.n := by omega
      subst et
      have l0 : ¬ (L.n : Int) < (L.n : Int) := by omega
      have hbe := Lib.hid (b1.trans (hb.out.mono b1.size))
      clear h2 hc2 hb
      go_wp2
      go_ret
      exact ⟨rfl, hbe.out⟩

end Go.Proofs.YtapebaoajknepaaGreatDoor
/-
  Plain mathematics of a log that is filled one page behind the other: which page comes next, how many are left, which number comes next, how many frames there are.
-/
namespace Go.Proofs.YtapebaoajknepaaGreatDoor
open Go.RowKit
set_option linter.unusedVariables false

theorem blL_from {S : St} {s c : Nat} : ∀ t, (∀ p, p < t → isB (S.page s p) = decide (p < c)) → (blL S s t).length = t - c ∧ (c < t → (blL S s t).getD 0 0 = c)
  | 0, _ => ⟨by simp [blL], fun h => by omega⟩
  | t + 1, h => by
    obtain ⟨h1, h2⟩ := blL_from t (fun p hp => h p (by omega))
    have ht := h t (Nat.lt_succ_self t)
    by_cases hc : t < c
    · rw [decide_eq_true hc] at ht
      rw [blL_none ht]
      exact ⟨by omega, fun h => by omega⟩
    · rw [decide_eq_false hc] at ht
      have e : blL S s (t + 1) = blL S s t ++ [t] := by
        show blL S s t ++ _ = _
        rw [if_neg (by rw [ht]; decide)]
      rw [e]
      refine ⟨by rw [List.length_append, h1]; simp; omega, fun _ => ?_⟩
      by_cases hc2 : c < t
      · have := h2 hc2
        rw [List.getD_eq_getElem?_getD] at this ⊢
        rw [List.getElem?_append_left (by omega)]
        exact this
      · have e0 : blL S s t = [] := List.eq_nil_of_length_eq_zero (by omega)
        rw [e0]
        show t = c
        omega
theorem blL_less {S : St} {s : Nat} (h : isB (S.page s 0) = true) : ∀ t, (blL S s (t + 1)).length ≤ t
  | 0 => by rw [blL_none h]; simp [blL]
  | t + 1 => by
    have := blL_less h t
    show (blL S s (t + 1) ++ _).length ≤ _
    rw [List.length_append]
    split
    · simp; omega
    · simp; omega
theorem sgL_from {p : Nat → Bool} {c : Nat} : ∀ t, (∀ s, s < t → p s = decide (c ≤ s)) → (sgL p t).length = t - c ∧ (c < t → (sgL p t).getD 0 0 = c)
  | 0, _ => ⟨by simp [sgL], fun h => by omega⟩
  | t + 1, h => by
    obtain ⟨h1, h2⟩ := sgL_from t (fun s hs => h s (by omega))
    have ht := h t (Nat.lt_succ_self t)
    by_cases hc : c ≤ t
    · rw [decide_eq_true hc] at ht
      have e : sgL p (t + 1) = sgL p t ++ [t] := by
        show sgL p t ++ _ = _
        rw [if_pos ht]
      rw [e]
      refine ⟨by rw [List.length_append, h1]; simp; omega, fun _ => ?_⟩
      by_cases hc2 : c < t
      · have := h2 hc2
        rw [List.getD_eq_getElem?_getD] at this ⊢
        rw [List.getElem?_append_left (by omega)]
        exact this
      · have e0 : sgL p t = [] := List.eq_nil_of_length_eq_zero (by omega)
        rw [e0]
        show t = c
        omega
    · rw [decide_eq_false hc] at ht
      rw [sgL_none ht]
      exact ⟨by omega, fun h => by omega⟩
theorem leastF_zero {wear f : Nat → Nat} (h : ∀ s, wear s = 0) : ∀ i, leastF wear f i = f 0
  | 0 => rfl
  | i + 1 => by
    show (if _ then _ else _) = _
    rw [if_neg (by rw [h, h]; omega), leastF_zero h i]

/-- Filled up to page cp of segment cs, from segment b on; those below b are used. -/
structure Bk (L : Lay) (S : St) (G : Sg) (b cs cp : Nat) : Prop where
  ord : b ≤ cs ∧ cs ≤ L.n ∧ cp ≤ L.m ∧ (cs = L.n → cp = 0) ∧ 0 < L.m
  op : G.op = if cp = 0 then -1 else (cs : Int)
  worn : ∀ s, s < L.n → G.worn s = false
  wear : ∀ s, S.wear s = 0
  blank : ∀ s p, s < L.n → p < L.m → b ≤ s → isB (S.page s p) = (decide (s < cs) || (decide (s = cs) && decide (p < cp)))
  old : ∀ s, s < b → isB (S.page s 0) = true

section
variable {L : Lay} {S : St} {G : Sg} {b cs cp : Nat}
theorem Bk.left (h : Bk L S G b cs cp) {s : Nat} (hs : s < L.n) (hb : b ≤ s) : (blL S s L.m).length = L.m - (if s < cs then L.m else if s = cs then cp else 0) ∧ ((if s < cs then L.m else if s = cs then cp else 0) < L.m → firstB L S s = (if s < cs then L.m else if s = cs then cp else 0)) := by
  refine blL_from (c := if s < cs then L.m else if s = cs then cp else 0) L.m fun p hp => ?_
  rw [h.blank s p hs hp hb]
  by_cases h1 : s < cs
  · rw [if_pos h1, decide_eq_true h1, decide_eq_true hp]
    rfl
  · rw [if_neg h1, decide_eq_false h1, Bool.false_or]
    by_cases h2 : s = cs
    · rw [if_pos h2, decide_eq_true h2, Bool.true_and]
    · rw [if_neg h2, decide_eq_false h2, Bool.false_and]
      rfl
theorem Bk.free (h : Bk L S G b cs cp) {s : Nat} (hs : s < L.n) : freeB L S G s = decide ((if cp = 0 then cs else cs + 1) ≤ s) := by
  unfold freeB
  rw [h.worn s hs, Bool.not_false, Bool.true_and]
  have ho := h.ord
  by_cases hb : b ≤ s
  · rw [(h.left hs hb).1]
    by_cases h1 : s < cs
    · rw [if_pos h1, decide_eq_false (by split <;> omega), beq_eq_false_iff_ne]
      omega
    · rw [if_neg h1]
      by_cases h2 : s = cs
      · rw [if_pos h2]
        by_cases h3 : cp = 0
        · rw [if_pos h3, decide_eq_true (by omega), beq_iff_eq]
          omega
        · rw [if_neg h3, decide_eq_false (by omega), beq_eq_false_iff_ne]
          omega
      · rw [if_neg h2, decide_eq_true (by split <;> omega), beq_iff_eq]
        omega
  · have h1 := blL_less (h.old s (by omega)) (L.m - 1)
    rw [show L.m - 1 + 1 = L.m by omega] at h1
    rw [decide_eq_false (by split <;> omega), beq_eq_false_iff_ne]
    omega
theorem Bk.frees (h : Bk L S G b cs cp) : (freesL L S G).length = L.n - (if cp = 0 then cs else cs + 1) ∧ ((if cp = 0 then cs else cs + 1) < L.n → newOp L S G = (if cp = 0 then cs else cs + 1)) := by
  have h1 := sgL_from (p := freeB L S G) (c := if cp = 0 then cs else cs + 1) L.n (fun s hs => h.free hs)
  refine ⟨h1.1, fun hc => ?_⟩
  unfold newOp
  rw [leastF_zero h.wear]
  exact h1.2 hc
theorem Bk.needs (h : Bk L S G b cs cp) : needsB L S G = (decide (cp = 0) || decide (cp = L.m)) := by
  have ho := h.ord
  unfold needsB
  rw [h.op]
  by_cases h1 : cp = 0
  · rw [if_pos h1, decide_eq_true h1]
    rfl
  · rw [if_neg h1, decide_eq_false h1, Bool.false_or]
    have hn : cs < L.n := by omega
    have e1 : ((cs : Int) == -1) = false := by rw [beq_eq_false_iff_ne]; omega
    rw [e1, Bool.false_or, Int.toNat_natCast, (h.left hn ho.1).1, if_neg (by omega), if_pos rfl]
    by_cases h2 : cp = L.m
    · rw [decide_eq_true h2, beq_iff_eq]
      omega
    · rw [decide_eq_false h2, beq_eq_false_iff_ne]
      omega
/-- The page that comes next is in the segment that is being filled. -/
theorem Bk.go_on (h : Bk L S G b cs cp) {r : Int} (hn : cs < L.n) (hp : cp < L.m) (hr : 0 < cp ∨ max r 0 < ((L.n - cs : Nat) : Int)) : nextS L S G r = some cs ∧ firstB L S cs = cp := by
  have ho := h.ord
  have hf := (h.left hn ho.1).2
  rw [if_neg (by omega), if_pos rfl] at hf
  refine ⟨?_, hf hp⟩
  unfold nextS
  rw [h.needs]
  by_cases h0 : cp = 0
  · obtain ⟨f1, f2⟩ := h.frees
    rw [if_pos h0] at f1 f2
    rw [decide_eq_true h0, Bool.true_or, if_pos rfl]
    unfold fullB
    rw [f1, decide_eq_false (by omega), if_neg (by decide), f2 hn]
  · rw [decide_eq_false h0, decide_eq_false (by omega), if_neg (by decide), h.op, if_neg h0, Int.toNat_natCast]
/-- It is in the next one. -/
theorem Bk.next (h : Bk L S G b cs cp) {r : Int} (hp : cp = L.m) (hr : max r 0 < ((L.n - (cs + 1) : Nat) : Int)) : nextS L S G r = some (cs + 1) ∧ firstB L S (cs + 1) = 0 := by
  have ho := h.ord
  have h0 : ¬ cp = 0 := by omega
  have hf := (h.left (s := cs + 1) (by omega) (by omega)).2
  rw [if_neg (by omega), if_neg (by omega)] at hf
  refine ⟨?_, hf (by omega)⟩
  obtain ⟨f1, f2⟩ := h.frees
  rw [if_neg h0] at f1 f2
  unfold nextS
  rw [h.needs, decide_eq_true hp, Bool.or_true, if_pos rfl]
  unfold fullB
  rw [f1, decide_eq_false (by omega), if_neg (by decide), f2 (by omega)]
/-- There is none. -/
theorem Bk.none (h : Bk L S G b cs cp) {r : Int} (hp : cp = 0 ∧ ((L.n - cs : Nat) : Int) ≤ max r 0 ∨ cp = L.m ∧ ((L.n - (cs + 1) : Nat) : Int) ≤ max r 0) : nextS L S G r = Option.none := by
  have ho := h.ord
  obtain ⟨f1, f2⟩ := h.frees
  unfold nextS
  rw [h.needs]
  rcases hp with ⟨h0, hr⟩ | ⟨h0, hr⟩
  · rw [if_pos h0] at f1
    rw [decide_eq_true h0, Bool.true_or, if_pos rfl]
    unfold fullB
    rw [f1, decide_eq_true (by omega), if_pos rfl]
  · rw [if_neg (by omega)] at f1
    rw [decide_eq_true h0, Bool.or_true, if_pos rfl]
    unfold fullB
    rw [f1, decide_eq_true (by omega), if_pos rfl]

theorem isB_empty : isB ⟨#[]⟩ = false := by
  unfold isB
  rw [ByteArray.toList_eq]
  rfl
theorem isB_size {s : ByteArray} (h : 0 < s.size) : isB s = true := by
  unfold isB
  cases hl : s.toList with
  | nil =>
    exfalso
    have : s.data.toList.length = s.size := by rw [Array.length_toList]; rfl
    rw [← ByteArray.toList_eq, hl] at this
    simp at this
    omega
  | cons a l => rfl
theorem put_isB {k n : Nat} {t : ByteArray} (ht : t.size ≤ 229) : isB (bs (pageL k n t.data.toList)) = true := isB_size (by rw [bs_size, pageL_length (by rw [ba_sizeL]; omega)]; decide)
theorem appS_page (L : Lay) (S : St) (k n s : Nat) (t : ByteArray) (i j : Nat) : (appS L S k n s t).page i j = if i = s ∧ j = firstB L S s then bs (pageL k n t.data.toList) else S.page i j := page_upd _ _ _ _ _ _
theorem Bk.step (h : Bk L S G b cs cp) {k n : Nat} {t : ByteArray} (ht : t.size ≤ 229) (hn : cs < L.n) (hp : cp < L.m) (hf : firstB L S cs = cp) : Bk L (appS L S k n cs t) (appG G cs) b cs (cp + 1) := by
  have ho := h.ord
  refine ⟨⟨ho.1, ho.2.1, by omega, fun e => by omega, ho.2.2.2.2⟩, by rw [if_neg (by omega)]; rfl, h.worn, h.wear, fun s p hs hpp hb => ?_, fun s hs => ?_⟩
  · rw [appS_page, hf]
    by_cases e : s = cs ∧ p = cp
    · rw [if_pos e, put_isB ht, decide_eq_true e.1, decide_eq_true (show p < cp + 1 by have := e.2; omega)]
      simp
    · rw [if_neg e, h.blank s p hs hpp hb]
      by_cases h1 : s = cs
      · have : (p < cp) ↔ (p < cp + 1) := by omega
        simp only [h1, this]
      · simp [h1]
  · rw [appS_page]
    split
    · exact put_isB ht
    · exact h.old s hs
theorem Bk.turn (h : Bk L S G b cs cp) {k n : Nat} {t : ByteArray} (ht : t.size ≤ 229) (hn : cs + 1 < L.n) (hp : cp = L.m) (hf : firstB L S (cs + 1) = 0) : Bk L (appS L S k n (cs + 1) t) (appG G (cs + 1)) b (cs + 1) 1 := by
  have ho := h.ord
  refine ⟨⟨by omega, by omega, by omega, fun e => by omega, ho.2.2.2.2⟩, rfl, h.worn, h.wear, fun s p hs hpp hb => ?_, fun s hs => ?_⟩
  · rw [appS_page, hf]
    by_cases e : s = cs + 1 ∧ p = 0
    · rw [if_pos e, put_isB ht, decide_eq_true e.1, decide_eq_true (show p < 1 by have := e.2; omega)]
      simp
    · rw [if_neg e, h.blank s p hs hpp hb]
      by_cases h1 : s = cs
      · rw [decide_eq_true h1, decide_eq_true (show p < cp by omega), decide_eq_true (show s < cs + 1 by omega)]
        simp
      · rw [decide_eq_false h1, Bool.false_and, Bool.or_false]
        by_cases h2 : s = cs + 1
        · rw [decide_eq_false (show ¬ s < cs by omega), decide_eq_false (show ¬ s < cs + 1 by omega), decide_eq_true h2, decide_eq_false (show ¬ p < 1 by omega)]
          rfl
        · rw [decide_eq_false h2, Bool.false_and, Bool.or_false]
          by_cases h3 : s < cs
          · rw [decide_eq_true h3, decide_eq_true (by omega)]
          · rw [decide_eq_false h3, decide_eq_false (by omega)]
  · rw [appS_page]
    split
    · exact put_isB ht
    · exact h.old s hs

theorem Bk.room0 (h : Bk L S G b cs cp) : ∀ t, t ≤ cs → t ≤ L.n → roomN L S G t = 0
  | 0, _, _ => rfl
  | t + 1, ht, htn => by
    have ho := h.ord
    have ih := h.room0 t (by omega) (by omega)
    show roomN L S G t + _ = 0
    rw [ih, Nat.zero_add, if_neg]
    rw [h.free (by omega), decide_eq_false (by split <;> omega), Bool.or_false]
    unfold openB
    rw [h.op, beq_iff_eq]
    split <;> omega
theorem Bk.room1 (h : Bk L S G b cs cp) (hn : cs < L.n) : ∀ d, cs + 1 + d ≤ L.n → roomN L S G (cs + 1 + d) = (L.m - cp) + d * L.m
  | 0, hd => by
    have ho := h.ord
    show roomN L S G cs + _ = _
    rw [h.room0 cs (Nat.le_refl _) (by omega), (h.left hn ho.1).1, if_neg (show ¬ cs < cs by omega), if_pos rfl, if_pos]
    · omega
    · rw [h.free hn]
      unfold openB
      rw [h.op, Bool.or_eq_true, beq_iff_eq, decide_eq_true_eq]
      by_cases h0 : cp = 0
      · rw [if_pos h0, if_pos h0]; omega
      · rw [if_neg h0, if_neg h0]; exact .inl rfl
  | d + 1, hd => by
    have ho := h.ord
    have ih := h.room1 hn d (by omega)
    show roomN L S G (cs + 1 + d) + (if (openB G (cs + 1 + d) || freeB L S G (cs + 1 + d)) = true then (blL S (cs + 1 + d) L.m).length else 0) = _
    rw [ih, (h.left (s := cs + 1 + d) (by omega) (by omega)).1, if_neg (show ¬ cs + 1 + d < cs by omega), if_neg (show ¬ cs + 1 + d = cs by omega), if_pos, Nat.succ_mul]
    · omega
    · rw [h.free (by omega), decide_eq_true (by split <;> omega), Bool.or_true]
end

/-! The numbers. -/
theorem mxN_le {S : St} {F : Nat → Nat × Nat} {x : Nat} : ∀ k, mxN S F k ≤ x ↔ ∀ j, j < k → frN S (F j) ≤ x
  | 0 => ⟨fun _ j hj => by omega, fun _ => Nat.zero_le _⟩
  | k + 1 => by
    show max (mxN S F k) (frN S (F k)) ≤ x ↔ _
    rw [Nat.max_le, mxN_le k]
    constructor
    · rintro ⟨h1, h2⟩ j hj
      by_cases e : j = k
      · subst e; exact h2
      · exact h1 j (by omega)
    · exact fun h => ⟨fun j hj => h j (by omega), h k (Nat.lt_succ_self k)⟩
theorem mountN_le {L : Lay} {S : St} {x : Nat} : mountN L S ≤ x ↔ ∀ i j, i < L.n → j < L.m → fB S i j = true → frN S (i, j) ≤ x := by
  unfold mountN
  rw [mxN_le]
  constructor
  · intro h i j hi hj hf
    obtain ⟨q, hq, e⟩ := List.getElem_of_mem ((frL_mem S L.m L.n (i, j)).2 ⟨hi, hj, hf⟩)
    have := h q hq
    rw [List.getD_eq_getElem?_getD, List.getElem?_eq_getElem hq, Option.getD_some, e] at this
    exact this
  · intro h q hq
    have := (frL_mem S L.m L.n _).1 (getD_in (0, 0) hq)
    exact h _ _ this.1 this.2.1 this.2.2

theorem bs_data' (l : List UInt8) : (bs l).data.toList = l := by simp [bs]
/-- The page that was put is a frame. -/
theorem app_fB {L : Lay} {S : St} {k n s : Nat} {t : ByteArray} (h0 : k ≠ 0) (hk : k < 256) (hn : n < 18446744073709551616) (ht : t.size ≤ 229) (i j : Nat) :
    fB (appS L S k n s t) i j = (decide (i = s ∧ j = firstB L S s) || fB S i j) ∧ (i = s ∧ j = firstB L S s → frN (appS L S k n s t) (i, j) = n ∧ frK (appS L S k n s t) (i, j) = k ∧ frT (appS L S k n s t) (i, j) = t) ∧ (¬ (i = s ∧ j = firstB L S s) → frN (appS L S k n s t) (i, j) = frN S (i, j) ∧ frK (appS L S k n s t) (i, j) = frK S (i, j)) := by
  have hl : t.data.toList.length ≤ 229 := by rw [ba_sizeL]; exact ht
  refine ⟨?_, fun e => ?_, fun e => ?_⟩
  · unfold fB
    rw [appS_page]
    by_cases e : i = s ∧ j = firstB L S s
    · rw [if_pos e, put_isB ht, bs_data', okB_page k n _ h0 hk hn hl, decide_eq_true e]
      rfl
    · rw [if_neg e, decide_eq_false e, Bool.false_or]
  · unfold frN frK frT
    show seqL ((appS L S k n s t).page i j).data.toList = n ∧ kindL ((appS L S k n s t).page i j).data.toList = k ∧ bs (textL ((appS L S k n s t).page i j).data.toList) = t
    rw [appS_page, if_pos e, bs_data', seqL_page k n _ hn, kindL_page k n _ hk, textL_page k n _ hl]
    exact ⟨rfl, rfl, by rw [bs_data]⟩
  · unfold frN frK
    show seqL ((appS L S k n s t).page i j).data.toList = seqL (S.page i j).data.toList ∧ kindL ((appS L S k n s t).page i j).data.toList = kindL (S.page i j).data.toList
    rw [appS_page, if_neg e]
    exact ⟨rfl, rfl⟩

/-- What holds of a log at all times: its number is one more than the greatest; it had so many acts at most. -/
structure LI (L : Lay) (S : St) (G : Sg) (t : Nat) : Prop where
  sq : G.seq = mountN L S + 1
  sqb : G.seq ≤ t + 1
  low : LowT S t
  left : S.left ≤ 0
theorem LI.app {L : Lay} {S : St} {G : Sg} {t : Nat} (h : LI L S G t) (ht : t ≤ 100000) {k s : Nat} {x : ByteArray} (h0 : k ≠ 0) (hk : k < 256) (hx : x.size ≤ 229) (hs : s < L.n) (hf : firstB L S s < L.m) (hb : isB (S.page s (firstB L S s)) = false) : LI L (appS L S k G.seq s x) (appG G s) (t + 1) := by
  have hn : G.seq < 18446744073709551616 := by have := h.sqb; omega
  have hl := (h.low.prog1 (S := S) true s (firstB L S s) (bs (pageL k G.seq x.data.toList)))
  refine ⟨?_, ?_, hl, by show S.left - 1 ≤ 0; have := h.left; omega⟩
  · show G.seq + 1 = _
    congr 1
    refine Nat.le_antisymm ?_ ?_
    · have := (mountN_le (L := L) (S := appS L S k G.seq s x)).1 (Nat.le_refl _) s (firstB L S s) hs hf (by rw [(app_fB h0 hk hn hx _ _).1, decide_eq_true ⟨rfl, rfl⟩]; rfl)
      rwa [((app_fB h0 hk hn hx _ _).2.1 ⟨rfl, rfl⟩).1] at this
    · rw [mountN_le]
      intro i j hi hj hfb
      by_cases e : i = s ∧ j = firstB L S s
      · rw [((app_fB h0 hk hn hx _ _).2.1 e).1]
        exact Nat.le_refl _
      · rw [(app_fB h0 hk hn hx _ _).1, decide_eq_false e, Bool.false_or] at hfb
        rw [((app_fB h0 hk hn hx _ _).2.2 e).1]
        have := (mountN_le (L := L) (S := S)).1 (Nat.le_refl _) i j hi hj hfb
        have := h.sq
        omega
  · show G.seq + 1 ≤ t + 1 + 1
    have := h.sqb
    omega

/-! How many there are. -/
def c1 (q : Nat → Bool) : Nat → Nat
  | 0 => 0
  | t + 1 => c1 q t + (if q t = true then 1 else 0)
def c2 (q : Nat → Nat → Bool) (m : Nat) : Nat → Nat
  | 0 => 0
  | u + 1 => c2 q m u + c1 (q u) m
theorem c1_pg (S : St) (u : Nat) (P : Nat × Nat → Bool) : ∀ t, (((pgL S u t).map fun j => (u, j)).filter P).length = c1 (fun j => fB S u j && P (u, j)) t
  | 0 => rfl
  | t + 1 => by
    show (((pgL S u t ++ _).map _).filter P).length = c1 _ t + _
    rw [List.map_append, List.filter_append, List.length_append, c1_pg S u P t]
    congr 1
    show (((if fB S u t = true then [t] else []).map fun j => (u, j)).filter P).length = if (fB S u t && P (u, t)) = true then 1 else 0
    cases fB S u t
    · rfl
    · rw [if_pos rfl, Bool.true_and]
      cases h2 : P (u, t) <;> simp [h2]
theorem c2_fr (S : St) (m : Nat) (P : Nat × Nat → Bool) : ∀ u, ((frL S m u).filter P).length = c2 (fun i j => fB S i j && P (i, j)) m u
  | 0 => rfl
  | u + 1 => by
    show ((frL S m u ++ _).filter P).length = c2 _ m u + _
    rw [List.filter_append, List.length_append, c2_fr S m P u, c1_pg]
theorem c1_same {q q' : Nat → Bool} : ∀ t, (∀ j, j < t → q' j = q j) → c1 q' t = c1 q t
  | 0, _ => rfl
  | t + 1, h => by
    show c1 q' t + _ = c1 q t + _
    rw [c1_same t (fun j hj => h j (by omega)), h t (Nat.lt_succ_self t)]
theorem c1_more {q q' : Nat → Bool} {f : Nat} (hq : q f = false) (hq' : q' f = true) : ∀ t, f < t → (∀ j, j < t → j ≠ f → q' j = q j) → c1 q' t = c1 q t + 1
  | 0, h, _ => by omega
  | t + 1, hf, h => by
    show c1 q' t + _ = c1 q t + _ + 1
    by_cases e : f = t
    · subst e
      rw [c1_same f (fun j hj => h j (by omega) (by omega)), hq, hq']
      simp
    · rw [c1_more hq hq' t (by omega) (fun j hj hn => h j (by omega) hn), h t (Nat.lt_succ_self t) (Ne.symm e)]
      omega
theorem c2_more {q q' : Nat → Nat → Bool} {m s f : Nat} (hq : q s f = false) (hq' : q' s f = true) (hf : f < m) (h : ∀ i j, ¬ (i = s ∧ j = f) → q' i j = q i j) : ∀ u, c2 q' m u = c2 q m u + (if s < u then 1 else 0)
  | 0 => by simp [c2]
  | u + 1 => by
    show c2 q' m u + _ = c2 q m u + _ + _
    rw [c2_more hq hq' hf h u]
    by_cases e : s = u
    · subst e
      rw [c1_more hq hq' m hf (fun j _ hn => h s j (fun e => hn e.2)), if_neg (by omega), if_pos (by omega)]
      omega
    · rw [c1_same m (fun j _ => h u j (fun x => e x.1.symm))]
      by_cases e2 : s < u
      · rw [if_pos e2, if_pos (by omega)]; omega
      · rw [if_neg e2, if_neg (by omega)]; omega
theorem all_app {L : Lay} {S : St} {k n s : Nat} {x : ByteArray} (h0 : k ≠ 0) (hk : k < 256) (hn : n < 18446744073709551616) (hx : x.size ≤ 229) (hs : s < L.n) (hf : firstB L S s < L.m) (hb : isB (S.page s (firstB L S s)) = false) :
    (allL L (appS L S k n s x) k).length = (allL L S k).length + 1 := by
  unfold allL
  rw [c2_fr, c2_fr, c2_more (s := s) (f := firstB L S s) ?_ ?_ hf ?_, if_pos hs]
  · unfold fB
    rw [hb]
    rfl
  · rw [(app_fB h0 hk hn hx _ _).1, ((app_fB h0 hk hn hx _ _).2.1 ⟨rfl, rfl⟩).2.1, decide_eq_true ⟨rfl, rfl⟩]
    simp
  · intro i j e
    rw [(app_fB h0 hk hn hx _ _).1, ((app_fB h0 hk hn hx _ _).2.2 e).2, decide_eq_false e, Bool.false_or]

/-! A new chip, and its log. -/
theorem fresh_page {up : Bool} {left : Int} {keep junk : Nat} {r : Int} {bd : Nat → Bool} (i j : Nat) : (newS up left keep junk r bd).page i j = ⟨#[]⟩ := rfl
theorem fresh_fB {S : St} (h : ∀ i j, S.page i j = ⟨#[]⟩) (i j : Nat) : fB S i j = false := by
  unfold fB
  rw [h, isB_empty]
  rfl
theorem fresh_mount {L : Lay} {S : St} (h : ∀ i j, S.page i j = ⟨#[]⟩) : mountN L S = 0 := Nat.le_zero.1 (mountN_le.2 fun i j _ _ e => by rw [fresh_fB h] at e; cases e)
theorem fresh_all {L : Lay} {S : St} (h : ∀ i j, S.page i j = ⟨#[]⟩) (kd : Nat) : allL L S kd = [] := by
  unfold allL
  rw [List.filter_eq_nil_iff]
  intro p hp
  have := (frL_mem S L.m L.n p).1 hp
  rw [fresh_fB h] at this
  cases this.2.2
theorem newS_low (r : Int) (bd : Nat → Bool) : LowT (newS true 0 0 0 r bd) 0 := ⟨Nat.le_refl _, Nat.le_refl _, fun _ => Nat.le_refl _, Nat.le_refl _, by show -((0 : Nat) : Int) ≤ (0 : Int); omega, by show (0 : Int) < 9223372036854775808; decide⟩
theorem LI.fresh {L : Lay} (r : Int) (bd : Nat → Bool) : LI L (newS true 0 0 0 r bd) (freshG (mountN L (newS true 0 0 0 r bd) + 1)) 0 :=
  ⟨rfl, by show mountN L _ + 1 ≤ 1; rw [fresh_mount (fun _ _ => rfl)]; exact Nat.le_refl _, newS_low r bd, by show (0 : Int) ≤ 0; decide⟩
theorem Bk.fresh {L : Lay} (hm : 0 < L.m) (r : Int) (bd : Nat → Bool) (q : Nat) : Bk L (newS true 0 0 0 r bd) (freshG q) 0 0 0 :=
  ⟨⟨Nat.le_refl _, Nat.zero_le _, Nat.zero_le _, fun _ => rfl, hm⟩, rfl, fun _ _ => rfl, fun _ => rfl, fun s p _ _ _ => by
    rw [fresh_page, isB_empty]
    simp, fun s hs => by omega⟩

end Go.Proofs.YtapebaoajknepaaGreatDoor
/-
  Slices of numbers that may be below zero.
-/
namespace Go.Proofs.YtapebaoajknepaaGreatDoor
open Go.RowKit
set_option linter.unusedVariables false

def intV (f : Nat → Int) : Nat → Value := fun j => .int .i64 (f j)
abbrev SeesZ (w : World) (a : Option Addr) (n : Nat) (f : Nat → Int) : Prop := SeesV w a n (intV f)

theorem at_intsV {w0 : World} {ad : Option Addr} {n c i : Nat} {F : Nat → Value} (h : SeesV w0 ad n F) (hi : i < n) {o : Oper} {a : Act} {x y : Operand} (ho : o.op = .indexAddr 46 x y) (hx : a.eval x = .slice ad n c) {z : Int} (hy : a.eval y = .int .i64 z) (hz : z = (i : Int)) (w : World) :
    (execOp a.eval o).run Tryz.prog w = .ok (.value (.pointer (some (elV ad i)))) w := by
  have := run_index_v Tryz.underlying46 el_ints sz_int (k := 1) (n := n) (by rw [Nat.mul_one]; exact h) (by decide) hi ho hx hy hz w
  rwa [Nat.mul_one] at this

end Go.Proofs.YtapebaoajknepaaGreatDoor
/-
  Rows of zero values, made.
-/
namespace Go.Proofs.YtapebaoajknepaaGreatDoor
open Go.RowKit
set_option linter.unusedVariables false

theorem made_row {z : Array Value} {n : Nat} {F : Nat → Value} (h : ∀ j, j < n → z[j % z.size]! = F j) : madeCells z n = rowOf n F := by
  unfold madeCells rowOf
  apply Array.ext'
  rw [Array.toList_map, Array.toList_range]
  exact List.map_congr_left fun j hj => h j (by simpa using hj)

section
variable {P : Program} {S T : TypeId} {z : Value} {k bytes : Nat} {F : Nat → Value} {m : Nat}
theorem run_make_row (hu : P.underlying S = some (.slice T)) (hi : (P.info? T).map (fun i => (i.zero, i.size, i.bytes)) = some (some z, k, bytes)) (hF : ∀ j, j < m * k → z.cells[j % z.cells.size]! = F j) (hm : m ≤ 1000000) (hk : k ≤ 10) (hby : bytes ≤ 1000)
    {o : Oper} {a : Act} {l c : Operand} (ho : o.op = .makeSlice S l c) (hl : a.eval l = .int .i64 (m : Int)) (hc : a.eval c = .int .i64 (m : Int)) (w : World) :
    (execOp a.eval o).run P w = .ok (.value (.slice (some ⟨w.heap.size, 0, none⟩) m m)) (w.alloc (.cells (rowOf (m * k) F) T)) := by
  obtain ⟨i0, hi, hz0, hz1, hz2⟩ := info_parts hi
  have h1 := run_makeSlice (P := P) w S T i0 z hu hi hz0 .i64 .i64 (m : Int) (m : Int) (by omega) (by omega) (by
    rw [hz1, Int.toNat_natCast]
    have := Nat.mul_le_mul hm hk
    omega) (by
    rw [hz2]
    have : ((bytes * m : Nat) : Int) ≤ ((1000 * 1000000 : Nat) : Int) := by exact_mod_cast Nat.mul_le_mul hby hm
    rw [← Int.natCast_mul]
    omega) (by omega)
  rw [hz1] at h1
  simp only [Int.toNat_natCast] at h1
  rw [made_row hF] at h1
  unfold execOp
  simp only [ho, hl, hc, Sem.run_bind, Sem.run_pure, h1, Result.andThen_ok]
theorem wpList_make_row {ops : Array Oper} {rest : List Oper} {o : Oper} {a : Act} {w : World} {Q : Exit → Act → World → Prop} (hu : P.underlying S = some (.slice T)) (hi : (P.info? T).map (fun i => (i.zero, i.size, i.bytes)) = some (some z, k, bytes)) (hF : ∀ j, j < m * k → z.cells[j % z.cells.size]! = F j) (hm : m ≤ 1000000) (hk : k ≤ 10) (hby : bytes ≤ 1000)
    (hgd : o.guard = none) {l c : Operand} (ho : o.op = .makeSlice S l c) (hl : a.eval l = .int .i64 (m : Int)) (hc : a.eval c = .int .i64 (m : Int))
    (h : wpList P ops Q rest (a.put o.dst (.slice (some ⟨w.heap.size, 0, none⟩) m m)) (w.alloc (.cells (rowOf (m * k) F) T))) : wpList P ops Q (o :: rest) a w :=
  wpList_plain hgd fun _ hK => by
    unfold Oper.wp
    simp only [run_make_row hu hi hF hm hk hby ho hl hc, Oper.upon]
    exact hK _ _ h
end

end Go.Proofs.YtapebaoajknepaaGreatDoor
/-
  Contract: New.
-/
namespace Go.Proofs.YtapebaoajknepaaGreatDoor
open Go.RowKit
set_option linter.unusedVariables false

/-- Whether a number is 1 to most. -/
def inW (z most : Int) : Bool := decide (1 ≤ z) && decide (z ≤ most)
theorem inW_get {z : Int} {most : Nat} (h : inW z most = true) : ∃ n : Nat, z = n ∧ 1 ≤ n ∧ n ≤ most := by
  unfold inW at h
  rw [Bool.and_eq_true, decide_eq_true_eq, decide_eq_true_eq] at h
  exact ⟨z.toNat, by omega, by omega, by omega⟩
/-- Whether there may be such a chip. -/
def newB (n m r : Int) : Bool := inW n 64 && inW m 16 && decide (0 ≤ r)

set_option maxRecDepth 8000 in
theorem within_any (w : World) (z most : Int) : Calls Tryz.prog 14 #[.int .i64 z, .int .i64 most] w fun e w' => e = .returned (.bool (inW z most)) ∧ w' = w := by
  unfold inW
  cases h1 : decide (1 ≤ z) with
  | false =>
    have h1' : decide (z ≥ 1) = false := h1
    go_enter Tryz.func14, Tryz.ntmps14
    go_wp2
    go_ret
    exact ⟨rfl, rfl⟩
  | true =>
    have h1' : decide (z ≥ 1) = true := h1
    cases h2 : decide (z ≤ most) with
    | false =>
      go_enter Tryz.func14, Tryz.ntmps14
      go_wp2
      go_ret
      exact ⟨rfl, rfl⟩
    | true =>
      go_enter Tryz.func14, Tryz.ntmps14
      go_wp2
      go_ret
      exact ⟨rfl, rfl⟩

set_option maxRecDepth 8000 in
theorem new_nil (w : World) (n m r : Int) (v : Value) : Calls Tryz.prog 5 #[.pointer none, .int .i64 n, .int .i64 m, .int .i64 r, v] w fun e w' => e = .returned (.pointer none) ∧ w' = w := by
  go_enter Tryz.func5, Tryz.ntmps5
  go_wp2
  go_ret
  exact ⟨rfl, rfl⟩

set_option maxHeartbeats 1000000 in
set_option maxRecDepth 8000 in
theorem new_no (w : World) (pp : Nat) (n m r : Int) (v : Value) (h : newB n m r = false) : Calls Tryz.prog 5 #[.pointer (some ⟨pp, 0, none⟩), .int .i64 n, .int .i64 m, .int .i64 r, v] w fun e w' => e = .returned (.pointer none) ∧ w' = w := by
  unfold newB at h
  have W1 := Lib.hid (within_any w n 64)
  have W2 := Lib.hid (within_any w m 16)
  cases h1 : inW n 64 with
  | false =>
    rw [h1] at W1
    go_enter Tryz.func5, Tryz.ntmps5
    go_wp2_with fail
    refine W1.out.mono ?_
    rintro e w1 ⟨rfl, rfl⟩
    go_wp2
    go_ret
    exact ⟨rfl, rfl⟩
  | true =>
    rw [h1] at W1
    cases h2 : inW m 16 with
    | false =>
      rw [h2] at W2
      clear h
      go_enter Tryz.func5, Tryz.ntmps5
      go_wp2_with fail
      refine W1.out.mono ?_
      rintro e w1 ⟨rfl, rfl⟩
      go_wp2_with fail
      refine W2.out.mono ?_
      rintro e w2 ⟨rfl, rfl⟩
      go_wp2
      go_ret
      exact ⟨rfl, rfl⟩
    | true =>
      rw [h2] at W2
      rw [h1, h2] at h
      have hr : r < 0 := by simp at h; exact h
      clear h
      go_enter Tryz.func5, Tryz.ntmps5
      go_wp2_with fail
      refine W1.out.mono ?_
      rintro e w1 ⟨rfl, rfl⟩
      go_wp2_with fail
      refine W2.out.mono ?_
      rintro e w2 ⟨rfl, rfl⟩
      go_wp2
      go_ret
      exact ⟨rfl, rfl⟩

theorem infoSeg : (Tryz.prog.info? 59).map (fun i => (i.zero, i.size, i.bytes)) = some (some (.agg #[.slice none 0 0, .int .i64 0, .bool false]), 3, 40) := by kernel_rfl
/-- Segments of which the first i have their pages. -/
def segN (tp : Nat → Nat) (m i : Nat) : Nat → Value := fun j => if j % 3 = 0 then (if j / 3 < i then .slice (some ⟨tp (j / 3), 0, none⟩) m m else .slice none 0 0) else if j % 3 = 1 then .int .i64 0 else .bool false
theorem segN_zero (tp : Nat → Nat) (m n : Nat) : ∀ j, j < n → (Value.agg #[.slice none 0 0, .int .i64 0, .bool false]).cells[j % (Value.agg #[.slice none 0 0, .int .i64 0, .bool false]).cells.size]! = segN tp m 0 j := by
  intro j _
  show (#[Value.slice none 0 0, .int .i64 0, .bool false] : Array Value)[j % 3]! = _
  unfold segN
  have h3 : j % 3 < 3 := Nat.mod_lt _ (by decide)
  generalize hq : j % 3 = q at *
  match q, h3 with
  | 0, _ => simp
  | 1, _ => simp
  | 2, _ => simp
theorem segN_step (tp : Nat → Nat) (m n i q : Nat) : (rowOf n (segN tp m i)).setIfInBounds (i * 3) (.slice (some ⟨q, 0, none⟩) m m) = rowOf n (segN (fun j => if j = i then q else tp j) m (i + 1)) := by
  rw [rowOf_set]
  refine rowOf_congr fun j hj => ?_
  by_cases c : j = i * 3
  · subst c
    rw [if_pos rfl]
    unfold segN
    rw [if_pos (by omega), if_pos (by omega), show i * 3 / 3 = i by omega]
    simp
  · rw [if_neg c]
    unfold segN
    by_cases c0 : j % 3 = 0
    · rw [if_pos c0, if_pos c0]
      have hne : j / 3 ≠ i := by omega
      dsimp only
      by_cases c1 : j / 3 < i
      · rw [if_pos c1, if_pos (by omega), if_neg hne]
      · rw [if_neg c1, if_neg (by omega)]
    · rw [if_neg c0, if_neg c0]

/-- Which segments are bad, of the first k numbers. -/
def badN (n : Nat) (f : Nat → Int) : Nat → Nat → Bool
  | 0 => fun _ => false
  | k + 1 => if inB (f k) n = true then updB (badN n f k) (f k).toNat else badN n f k

/-- A row just made, from block B on. -/
def heldq (B : Nat) (t : TypeId) (n : Nat) (cs : Array Value) : Pred := fun v w => ∃ q, v = .slice (some ⟨q, 0, none⟩) n n ∧ B ≤ q ∧ RowAt w q t cs
theorem steady_heldq (B : Nat) (t : TypeId) (n : Nat) (cs : Array Value) : ∀ v w w', Below w.heap.size w w' → heldq B t n cs v w → heldq B t n cs v w' := fun v w w' hb ⟨q, h1, h2, h3⟩ => ⟨q, h1, h2, h3.below hb h3.lt⟩
theorem grows_heldq {P : Program} {ops : Array Oper} {C : World → Prop} {R : List Pred} {o : Oper} {a : Act} {w : World} {B : Nat} {t : TypeId} {n : Nat} {cs : Array Value} (hR : Steady R) (hCs : ∀ w w', Below w.heap.size w w' → C w → C w') (hC : C w) (hB : B ≤ w.heap.size) (hw : Region.wanted o (yielded ops a.tmps) = true)
    (hv : (execOp a.eval o).run P w = .ok (.value (.slice (some ⟨w.heap.size, 0, none⟩) n n)) (w.alloc (.cells cs t))) : growsAt P ops o a w fun v w' => C w' ∧ heldq B t n cs v w' ∧ Keeps R w w' :=
  have b : Below w.heap.size w (w.alloc (.cells cs t)) := (Below.refl _ _).alloc (Nat.le_refl _) _
  grows_new hw hv ⟨w.heap.size, rfl, hB, RowAt.new _ _ _⟩ (hCs _ _ b hC) fun i v h => hR i v _ _ b h

theorem strs_zero (n : Nat) : ∀ j, j < n → (Value.string ⟨#[]⟩).cells[j % (Value.string ⟨#[]⟩).cells.size]! = strV (fun _ => ⟨#[]⟩) j := by
  intro j _
  show (#[Value.string ⟨#[]⟩] : Array Value)[j % 1]! = _
  rw [Nat.mod_one]
  rfl
/-- What New comes to. -/
def NewEnd (B pp n m : Nat) (S : St) (w : World) (e : Ending) (w' : World) : Prop := ∃ L, e = .returned (.pointer (some ⟨L.cp, 0, none⟩)) ∧ L.pp = pp ∧ L.n = n ∧ L.m = m ∧ Hid (Ch B w' L S (.slice none 0 0)) ∧ Below w.heap.size w w'

/-- Half made: the first i segments have their pages. -/
structure Half (w0 : World) (sp cp pp n m : Nat) (r : Int) (i : Nat) (tp : Nat → Nat) (w : World) : Prop where
  below : Below w0.heap.size w0 w
  segs : RowAt w sp 59 (rowOf (n * 3) (segN tp m i))
  chip : RowAt w cp 55 #[.pointer (some ⟨pp, 0, none⟩), .slice (some ⟨sp, 0, none⟩) n n, .int .i64 r, .slice none 0 0, .int .i64 0, .int .i64 0]
  pages : ∀ j, j < i → RowAt w (tp j) 9 (rowOf m (strV fun _ => ⟨#[]⟩)) ∧ w0.heap.size ≤ tp j
  inj : ∀ j k, j < i → k < i → tp j = tp k → j = k
theorem Half.after {w0 : World} {sp cp pp n m : Nat} {r : Int} {i : Nat} {tp : Nat → Nat} {w w' : World} (hb : Below w.heap.size w w') (h : Half w0 sp cp pp n m r i tp w) : Half w0 sp cp pp n m r i tp w' :=
  ⟨h.below.trans (hb.mono h.below.size), h.segs.below hb h.segs.lt, h.chip.below hb h.chip.lt, fun j hj => ⟨(h.pages j hj).1.below hb (h.pages j hj).1.lt, (h.pages j hj).2⟩, h.inj⟩
theorem Half.step {w0 : World} {sp cp pp n m : Nat} {r : Int} {i : Nat} {tp : Nat → Nat} {w : World} (h : Half w0 sp cp pp n m r i tp w) {q : Nat} (hq : RowAt w q 9 (rowOf m (strV fun _ => ⟨#[]⟩))) (hw : w0.heap.size ≤ q) (hsp : w0.heap.size ≤ sp) (hn : ∀ j, j < i → tp j ≠ q) :
    Half w0 sp cp pp n m r (i + 1) (fun j => if j = i then q else tp j) (w.setCell ⟨sp, i * 3, none⟩ (.slice (some ⟨q, 0, none⟩) m m)) := by
  have hs := beside_set w sp (i * 3) (.slice (some ⟨q, 0, none⟩) m m)
  refine ⟨h.below.setCell hsp _, (h.segs.set (i * 3) _).congr (segN_step tp m (n * 3) i q), h.chip.beside hs (h.chip.apart h.segs (by decide)), fun j hj => ?_, fun j k hj hk e => ?_⟩
  · by_cases c : j = i
    · rw [if_pos c]
      exact ⟨hq.beside hs (hq.apart h.segs (by decide)), hw⟩
    · rw [if_neg c]
      exact ⟨(h.pages j (by omega)).1.beside hs ((h.pages j (by omega)).1.apart h.segs (by decide)), (h.pages j (by omega)).2⟩
  · by_cases c : j = i
    · by_cases d : k = i
      · omega
      · rw [if_pos c, if_neg d] at e
        exact absurd e.symm (hn k (by omega))
    · by_cases d : k = i
      · rw [if_neg c, if_pos d] at e
        exact absurd e (hn j (by omega))
      · rw [if_neg c, if_neg d] at e
        exact h.inj j k (by omega) (by omega) e

set_option maxHeartbeats 4000000 in
set_option maxRecDepth 8000 in
theorem new_yes (B pp n m : Nat) (r : Int) (up : Bool) (left : Int) (keep junk : Nat) (a : Option Addr) (nb cb : Nat) (f : Nat → Int) (w : World) (h : Hid (RowAt w pp 62 (pw up left keep junk))) (hf : Hid (SeesZ w a nb f)) (hB : B ≤ pp) (hj : Hid (junk < 256)) (hk : Hid ((keep : Int) < 9223372036854775808))
    (n1 : 1 ≤ n) (n2 : n ≤ 64) (m1 : 1 ≤ m) (m2 : m ≤ 16) (hr : 0 ≤ r) (hnb : nb ≤ 1000000) : Calls Tryz.prog 5 #[.pointer (some ⟨pp, 0, none⟩), .int .i64 (n : Nat), .int .i64 (m : Nat), .int .i64 r, .slice a nb cb] w (NewEnd B pp n m (newS up left keep junk r (badN n f nb)) w) := by
  have W1 := Lib.hid (within_any w (n : Int) 64)
  have W2 := Lib.hid (within_any w (m : Int) 16)
  have e1 : inW (n : Int) 64 = true := by unfold inW; rw [Bool.and_eq_true, decide_eq_true_eq, decide_eq_true_eq]; omega
  have e2 : inW (m : Int) 16 = true := by unfold inW; rw [Bool.and_eq_true, decide_eq_true_eq, decide_eq_true_eq]; omega
  rw [e1] at W1
  rw [e2] at W2
  have hr' : decide (r < 0) = false := decide_eq_false (by omega)
  have B0 : Hid (Below w.heap.size w ((w.alloc (.cells (rowOf (n * 3) (segN (fun _ => 0) m 0)) 59)).alloc (.cells #[.pointer (some ⟨pp, 0, none⟩), .slice (some ⟨w.heap.size, 0, none⟩) n n, .int .i64 r, .slice none 0 0, .int .i64 0, .int .i64 0] 55))) := allocs_below [.cells (rowOf (n * 3) (segN (fun _ => 0) m 0)) 59, .cells #[.pointer (some ⟨pp, 0, none⟩), .slice (some ⟨w.heap.size, 0, none⟩) n n, .int .i64 r, .slice none 0 0, .int .i64 0, .int .i64 0] 55] w
  have H0 : Hid (Half w w.heap.size (w.heap.size + 1) pp n m r 0 (fun _ => 0) ((w.alloc (.cells (rowOf (n * 3) (segN (fun _ => 0) m 0)) 59)).alloc (.cells #[.pointer (some ⟨pp, 0, none⟩), .slice (some ⟨w.heap.size, 0, none⟩) n n, .int .i64 r, .slice none 0 0, .int .i64 0, .int .i64 0] 55))) :=
    ⟨B0.out, allocs_row [.cells (rowOf (n * 3) (segN (fun _ => 0) m 0)) 59, .cells #[.pointer (some ⟨pp, 0, none⟩), .slice (some ⟨w.heap.size, 0, none⟩) n n, .int .i64 r, .slice none 0 0, .int .i64 0, .int .i64 0] 55] w 0 _ _ rfl, allocs_row [.cells (rowOf (n * 3) (segN (fun _ => 0) m 0)) 59, .cells #[.pointer (some ⟨pp, 0, none⟩), .slice (some ⟨w.heap.size, 0, none⟩) n n, .int .i64 r, .slice none 0 0, .int .i64 0, .int .i64 0] 55] w 1 _ _ rfl, fun j hj => by omega, fun j k hj => by omega⟩
  have m6 : Hid (m ≤ 1000000) := by unfold Hid; omega
  have n6 : Hid (n ≤ 1000000) := by unfold Hid; omega
  replace n1 := Lib.hid n1
  replace hnb := Lib.hid hnb
  have hB' := Lib.hid hB
  replace n2 := Lib.hid n2
  replace m1 := Lib.hid m1
  replace m2 := Lib.hid m2
  clear hr e1 e2 hB
  go_enter Tryz.func5, Tryz.ntmps5
  go_wp2_with fail
  refine W1.out.mono ?_
  rintro e w1 ⟨rfl, rfl⟩
  go_wp2_with fail
  refine W2.out.mono ?_
  rintro e w2 ⟨rfl, rfl⟩
  go_wp2_with (first | (refine wpList_make_row Tryz.underlying48 infoSeg (segN_zero (fun _ => 0) m (n * 3)) n6.out (by decide) (by decide) rfl rfl rfl rfl ?_))
  generalize (w2.alloc _).alloc _ = w3 at *
  generalize hsp : w2.heap.size = sp at *
  generalize hcp : sp + 1 = cp at *
  clear W1 W2 B0
  go_loopw [42] (fun v wr => ∃ (i : Nat) (tp : Nat → Nat), i ≤ n ∧ v = .int .i64 (i : Int) ∧ Hid (Half w2 sp cp pp n m r i tp wr)) (fun v _ => n - (intOf v).toNat)
  case atStart => exact ⟨0, _, Nat.zero_le _, rfl, H0⟩
  case round =>
    clear H0
    obtain ⟨i, tp, hi, rfl, H⟩ := hrel
    by_cases hlt : i < n
    · have lt : (i : Int) < (n : Int) := by omega
      have i6 : i ≤ 1000000 := by have := n6.out; omega
      have hlow : Hid (∀ j, j < i → tp j < wr.heap.size) := fun j hj => (H.out.pages j hj).1.lt
      have hCs : ∀ w w', Below w.heap.size w w' → (Half w2 sp cp pp n m r i tp w ∧ wr.heap.size ≤ w.heap.size) → (Half w2 sp cp pp n m r i tp w' ∧ wr.heap.size ≤ w'.heap.size) := fun w w' hb h => ⟨h.1.after hb, Nat.le_trans h.2 hb.size⟩
      replace hCs := Lib.hid hCs
      go_wp2_with fail
      refine wp_region_rely_tail 10 (fun w => Half w2 sp cp pp n m r i tp w ∧ wr.heap.size ≤ w.heap.size) [eqv (.pointer (some ⟨cp, 0, none⟩)), eqv (.pointer (some ⟨cp, 0, none⟩)), eqv (.pointer (some ⟨cp, 1, none⟩)), eqv (.slice (some ⟨sp, 0, none⟩) n n), eqv (.int .i64 (i : Int)), eqv (.int .i64 (m : Int)), heldq wr.heap.size 9 m (rowOf (m * 1) (strV fun _ => ⟨#[]⟩)), eqv (.pointer (some ⟨sp, i * 3, none⟩)), eqv (.pointer (some ⟨sp, i * 3, none⟩)), eqv (.pointer (some ⟨sp, i * 3, none⟩))] (by kernel_rfl) (by kernel_rfl) ⟨H.out.after ((Below.refl _ _).drew), Nat.le_refl _⟩
        (.cons (steady_eqv _) (.cons (steady_eqv _) (.cons (steady_eqv _) (.cons (steady_eqv _) (.cons (steady_eqv _) (.cons (steady_eqv _) (.cons (steady_heldq _ _ _ _) (.cons (steady_eqv _) (.cons (steady_eqv _) (.cons (steady_eqv _) .nil)))))))))) ?_
      intro R hR
      simp only [List.take_succ_cons, List.take_zero, List.drop_succ_cons, List.drop_zero]
      refine wpRely_cons (fun w' hC hf => ?_) (fun v0 => ?_)
      · (repeat (first | (obtain ⟨rfl, hf⟩ := hf) | (obtain ⟨⟨q, rfl, hql, hq⟩, hf⟩ := hf) | (obtain ⟨_, hf⟩ := hf)))
        have c1 := cell_of_row _ cp 1 _ _ (0, 0) hC.1.chip; exact grows_eqv (by rfl) hC (by go_simp)
      simp only [Act.put, List.setIfInBounds_toArray, List.set_cons_succ, List.set_cons_zero, List.nil_append]
      refine wpRely_cons (fun w' hC hf => ?_) (fun v1 => ?_)
      · (repeat (first | (obtain ⟨rfl, hf⟩ := hf) | (obtain ⟨⟨q, rfl, hql, hq⟩, hf⟩ := hf) | (obtain ⟨_, hf⟩ := hf)))
        have c1 := cell_of_row _ cp 1 _ _ (0, 0) hC.1.chip; exact grows_eqv (by rfl) hC (by go_simp)
      simp only [Act.put, List.setIfInBounds_toArray, List.set_cons_succ, List.set_cons_zero, List.nil_append, List.cons_append]
      refine wpRely_cons (fun w' hC hf => ?_) (fun v2 => ?_)
      · (repeat (first | (obtain ⟨rfl, hf⟩ := hf) | (obtain ⟨⟨q, rfl, hql, hq⟩, hf⟩ := hf) | (obtain ⟨_, hf⟩ := hf)))
        have c1 := cell_of_row _ cp 1 _ _ (0, 0) hC.1.chip; exact grows_eqv (by rfl) hC (by go_simp)
      simp only [Act.put, List.setIfInBounds_toArray, List.set_cons_succ, List.set_cons_zero, List.nil_append, List.cons_append]
      refine wpRely_cons (fun w' hC hf => ?_) (fun v3 => ?_)
      · (repeat (first | (obtain ⟨rfl, hf⟩ := hf) | (obtain ⟨⟨q, rfl, hql, hq⟩, hf⟩ := hf) | (obtain ⟨_, hf⟩ := hf)))
        have c1 := cell_of_row _ cp 1 _ _ (0, 0) hC.1.chip; exact grows_eqv (by rfl) hC (by go_simp)
      simp only [Act.put, List.setIfInBounds_toArray, List.set_cons_succ, List.set_cons_zero, List.nil_append, List.cons_append]
      refine wpRely_cons (fun w' hC hf => ?_) (fun v4 => ?_)
      · (repeat (first | (obtain ⟨rfl, hf⟩ := hf) | (obtain ⟨⟨q, rfl, hql, hq⟩, hf⟩ := hf) | (obtain ⟨_, hf⟩ := hf)))
        have c1 := cell_of_row _ cp 1 _ _ (0, 0) hC.1.chip; exact grows_eqv (by rfl) hC (by go_simp)
      simp only [Act.put, List.setIfInBounds_toArray, List.set_cons_succ, List.set_cons_zero, List.nil_append, List.cons_append]
      refine wpRely_cons (fun w' hC hf => ?_) (fun v5 => ?_)
      · (repeat (first | (obtain ⟨rfl, hf⟩ := hf) | (obtain ⟨⟨q, rfl, hql, hq⟩, hf⟩ := hf) | (obtain ⟨_, hf⟩ := hf)))
        have c1 := cell_of_row _ cp 1 _ _ (0, 0) hC.1.chip; exact grows_eqv (by rfl) hC (by go_simp)
      simp only [Act.put, List.setIfInBounds_toArray, List.set_cons_succ, List.set_cons_zero, List.nil_append, List.cons_append]
      refine wpRely_cons (fun w' hC hf => ?_) (fun v6 => ?_)
      · (repeat (first | (obtain ⟨rfl, hf⟩ := hf) | (obtain ⟨⟨q, rfl, hql, hq⟩, hf⟩ := hf) | (obtain ⟨_, hf⟩ := hf)))
        exact grows_heldq hR hCs hC hC.2 (by rfl) (run_make_row Tryz.underlying22 infoStr (strs_zero _) m6.out (by decide) (by decide) rfl rfl rfl _)
      simp only [Act.put, List.setIfInBounds_toArray, List.set_cons_succ, List.set_cons_zero, List.nil_append, List.cons_append]
      refine wpRely_cons (fun w' hC hf => ?_) (fun v7 => ?_)
      · (repeat (first | (obtain ⟨rfl, hf⟩ := hf) | (obtain ⟨⟨q, rfl, hql, hq⟩, hf⟩ := hf) | (obtain ⟨_, hf⟩ := hf)))
        have c1 := cell_of_row _ cp 1 _ _ (0, 0) hC.1.chip; exact grows_eqv (by rfl) hC (by go_simp)
      simp only [Act.put, List.setIfInBounds_toArray, List.set_cons_succ, List.set_cons_zero, List.nil_append, List.cons_append]
      refine wpRely_cons (fun w' hC hf => ?_) (fun v8 => ?_)
      · (repeat (first | (obtain ⟨rfl, hf⟩ := hf) | (obtain ⟨⟨q, rfl, hql, hq⟩, hf⟩ := hf) | (obtain ⟨_, hf⟩ := hf)))
        have c1 := cell_of_row _ cp 1 _ _ (0, 0) hC.1.chip; exact grows_eqv (by rfl) hC (by go_simp)
      simp only [Act.put, List.setIfInBounds_toArray, List.set_cons_succ, List.set_cons_zero, List.nil_append, List.cons_append]
      refine wpRely_cons (fun w' hC hf => ?_) (fun v9 => ?_)
      · (repeat (first | (obtain ⟨rfl, hf⟩ := hf) | (obtain ⟨⟨q, rfl, hql, hq⟩, hf⟩ := hf) | (obtain ⟨_, hf⟩ := hf)))
        have c1 := cell_of_row _ cp 1 _ _ (0, 0) hC.1.chip; exact grows_eqv (by rfl) hC (by go_simp)
      simp only [Act.put, List.setIfInBounds_toArray, List.set_cons_succ, List.set_cons_zero, List.nil_append, List.cons_append]
      refine wpRely_nil fun w9 hC hf => ?_
      obtain ⟨_, _, _, _, _, _, ⟨q, rfl, hql, hq⟩, _, _, rfl, _⟩ := hf
      rw [Nat.mul_one] at hq
      have H9 := Lib.hid (hC.1.step hq (Nat.le_trans H.out.below.size hql) (Nat.le_of_eq hsp) (fun j hj e => by have := hlow.out j hj; omega))
      have cs := hC.1.segs.cell (i * 3) (by omega)
      have fs := hC.1.segs.free (i * 3)
      have us : segN tp m i (i * 3) = .slice none 0 0 := by unfold segN; rw [if_pos (by omega), if_neg (by omega)]
      rw [us] at cs
      clear us hCs hlow H hC hR
      go_wp2
      go_roundw
      case rel => exact ⟨i + 1, _, by omega, by go_num, H9⟩
      case measure => simp [intOf]; omega
    · have lt : ¬ (i : Int) < (n : Int) := by omega
      have hin : i = n := by omega
      subst hin
      clear hlt lt hi hr'
      obtain ⟨L, hL⟩ : ∃ L : Lay, L = { pp := pp, cp := cp, sp := sp, tp := tp, n := i, m := m } := ⟨_, rfl⟩
      have C0 : Hid (Ch B wr L (newS up left keep junk r (badN i f 0)) (.slice none 0 0)) := by
        subst hL
        have hp := h.out.lt
        refine ⟨h.out.below H.out.below h.out.lt, H.out.chip, H.out.segs.congr (rowOf_congr fun j hj2 => ?_), fun j hj2 => (H.out.pages j hj2).1, World.ownsRow_nil _ _ _ _, H.out.inj, fun j hj2 e => (by cases e), ⟨hB'.out, ?_, ?_, fun j hj2 => ?_⟩, ⟨n1.out, n2.out, m1.out, m2.out⟩, hj.out, hk.out⟩
        · unfold segN segV
          by_cases c0 : j % 3 = 0
          · rw [if_pos c0, if_pos c0, if_pos (by omega)]
          · rw [if_neg c0, if_neg c0]
            by_cases c1 : j % 3 = 1
            · rw [if_pos c1, if_pos c1]
              rfl
            · rw [if_neg c1, if_neg c1]
              rfl
        · have := hB'.out
          show B ≤ cp
          omega
        · have := hB'.out
          show B ≤ sp
          omega
        · have := (H.out.pages j hj2).2
          have := hB'.out
          show B ≤ tp j
          omega
      have eL : Hid (L.pp = pp ∧ L.n = i ∧ L.m = m ∧ L.cp = cp ∧ w2.heap.size ≤ L.sp) := by subst hL; exact ⟨rfl, rfl, rfl, rfl, Nat.le_of_eq hsp⟩
      have bl := H.out.below
      clear H hL
      go_wp2_with fail
      clear h n6 m6 n1 n2 m1 m2 hj hk hB'
      go_loopw [58] (fun v wr => ∃ k : Nat, k ≤ nb ∧ v = .int .i64 (k : Int) ∧ Hid (Ch B wr L (newS up left keep junk r (badN i f k)) (.slice none 0 0)) ∧ Below w2.heap.size w2 wr) (fun v _ => nb - (intOf v).toNat)
      case atStart => exact ⟨0, Nat.zero_le _, rfl, C0, bl⟩
      case round =>
        clear C0 bl
        obtain ⟨k, hkn, rfl, C, hbl⟩ := hrel
        by_cases hlt2 : k < nb
        · have lt2 : (k : Int) < (nb : Int) := by omega
          have k6 : k ≤ 1000000 := by have := hnb.out; omega
          have sf := Lib.hid (hf.out.after hbl)
          have gk := Lib.hid (SeesV.cell sf.out hlt2)
          change Hid (wr.cell? _ = some (.int .i64 (f k))) at gk
          have HG := Lib.hid (hasSeg_any B wr L _ _ C (f k))
          have eB : Hid (badN i f (k + 1) = if inB (f k) i = true then updB (badN i f k) (f k).toNat else badN i f k) := rfl
          rw [eL.out.2.1, eL.out.2.2.2.1] at HG
          cases hin : inB (f k) i with
          | false =>
            rw [hin] at HG
            rw [hin, if_neg (by decide)] at eB
            generalize f k = z at *
            go_wp2_with (first | (refine wpList_known rfl (at_intsV sf.out hlt2 rfl rfl rfl rfl _) ?_) | (refine wpList_known rfl (get_int gk.out rfl rfl) ?_))
            refine HG.out.mono ?_
            rintro e w5 ⟨rfl, rfl⟩
            clear sf gk HG
            go_wp2
            go_roundw
            case rel => exact ⟨k + 1, by omega, by go_num, by rw [eB.out]; exact C, hbl⟩
            case measure => simp [intOf]; omega
          | true =>
            rw [hin] at HG
            rw [hin, if_pos rfl] at eB
            obtain ⟨j, ej, hji⟩ := inB_get hin
            rw [ej] at gk HG eB
            rw [show ((j : Nat) : Int).toNat = j from rfl] at eB
            go_wp2_with (first | (refine wpList_known rfl (at_intsV sf.out hlt2 rfl rfl rfl rfl _) ?_) | (refine wpList_known rfl (get_int gk.out rfl rfl) ?_))
            refine HG.out.mono ?_
            rintro e w5 ⟨rfl, rfl⟩
            have c1 := C.out.c1
            rw [eL.out.2.1, eL.out.2.2.2.1] at c1
            have c2 := C.out.s2 (i := j) (by rw [eL.out.2.1]; exact hji)
            have f2 := C.out.segs.free (j * 3 + 2)
            have j1 : (j : Int) < (i : Int) := by omega
            have hsp2 := eL.out.2.2.2.2
            obtain ⟨h9, g9⟩ := C.out.seg (beside_set w5 L.sp (j * 3 + 2) (.bool true)) ((C.out.segs.set (j * 3 + 2) _).congr (segV_bad L _ _ j _))
            have C9 : Hid (Ch B (w5.setCell ⟨L.sp, j * 3 + 2, none⟩ (.bool true)) L (newS up left keep junk r (badN i f (k + 1))) (.slice none 0 0)) := by rw [eB.out]; exact h9
            clear sf gk HG h9 g9 eB C ej hin
            go_wp2
            go_roundw
            case rel => exact ⟨k + 1, by omega, by go_num, C9, hbl.setCell hsp2 _⟩
            case measure => simp [intOf]; omega
        · have lt2 : ¬ (k : Int) < (nb : Int) := by omega
          have ek : k = nb := by omega
          subst ek
          go_wp2
          go_ret
          have e4 := eL.out.2.2.2.1
          exact ⟨L, by subst e4; rfl, eL.out.1, eL.out.2.1, eL.out.2.2.1, C, hbl⟩

end Go.Proofs.YtapebaoajknepaaGreatDoor
/-
  Contract: shown: that a new chip has room.
-/
namespace Go.Proofs.YtapebaoajknepaaGreatDoor
open Go.RowKit
set_option linter.unusedVariables false

theorem rd_page {S : St} {n m s f k N : Nat} {t : ByteArray} (hs : s < n) (hf : f < m) (hp : S.page s f = bs (pageL k N t.data.toList)) (h0 : k ≠ 0) (hk : k < 256) (hN : N < 18446744073709551616) (ht : t.size ≤ 229) :
    rdE n m S s f = 0 ∧ rdV n m S s f = .agg #[.int .u8 (k : Int), .int .u64 (N : Int), .string t] := by
  have hl : t.data.toList.length ≤ 229 := by rw [ba_sizeL]; exact ht
  have hfb : fB S s f = true := by
    unfold fB
    rw [hp, put_isB ht, bs_data', okB_page k N _ h0 hk hN hl]
    rfl
  obtain ⟨e1, e2⟩ := rdE_yes hs hf hfb
  refine ⟨e1, ?_⟩
  rw [e2, hp, bs_data', (got_page k N _ h0 hk hN hl).1, bs_data]
theorem rd_none {S : St} {n m s f : Nat} (hs : s < n) (hf : f < m) (hp : isB (S.page s f) = false) : rdE n m S s f = 3 := by
  have hin : (inB (s : Int) n && inB (f : Int) m) = true := by rw [inB_nat s n hs, inB_nat f m hf]; rfl
  unfold rdE
  rw [if_neg (by rw [hin]; decide)]
  show (if isB (S.page s f) = false then (3 : Int) else _) = 3
  rw [if_pos hp]
theorem LI.lowS {L : Lay} {S : St} {G : Sg} {t : Nat} (h : LI L S G t) (ht : t ≤ 100000) : Low S := h.low.low (by omega)
theorem LI.seqlt {L : Lay} {S : St} {G : Sg} {t : Nat} (h : LI L S G t) (ht : t ≤ 100000) : G.seq < 18446744073709551615 := by have := h.sqb; omega
theorem LI.leftne {L : Lay} {S : St} {G : Sg} {t : Nat} (h : LI L S G t) : S.left ≠ 1 := by have := h.left; omega

set_option maxHeartbeats 4000000 in
set_option maxRecDepth 8000 in
theorem shown13_any (w : World) (hkr : Hid (KRow w)) : Calls Tryz.prog 4 #[] w fun e w' => e = .returned (.bool true) ∧ Below w.heap.size w w' := by
  have NP := Lib.hid (newPower_any w)
  go_enter Tryz.func4, Tryz.ntmps4
  go_wp2_with fail
  refine NP.out.mono ?_
  rintro e w1 ⟨rfl, r1, b1⟩
  have NW := Lib.hid (new_yes w.heap.size w.heap.size 3 4 9 true 0 0 0 none 0 0 (fun _ => 0) w1 r1 (Lib.hid (SeesV.nil _ _ _)) (Nat.le_refl _) (Lib.hid (by decide)) (Lib.hid (by decide)) (by decide) (by decide) (by decide) (by decide) (by decide) (by decide))
  clear NP r1
  go_wp2_with fail
  refine NW.out.mono ?_
  rintro e w2 ⟨L, rfl, _, hn, hm, C2, b2⟩
  have b3 := b1.trans (b2.mono b1.size)
  clear NW b1 b2
  generalize badN 3 (fun _ => 0) 0 = bd at *
  have k3 : Hid (KRow w2) := hkr.out.below b3 hkr.out.1 b3.size
  have mt := fresh_mount (L := L) (S := newS true 0 0 0 9 bd) (fun _ _ => rfl)
  have LI0 := LI.fresh (L := L) 9 bd
  have BK0 := Bk.fresh (L := L) (by rw [hm]; decide) 9 bd (mountN L (newS true 0 0 0 9 bd) + 1)
  have MT := Lib.hid (mount_any w.heap.size L _ _ w2 C2 rfl (Lib.hid (fun _ _ => by show (ByteArray.mk #[]).size ≤ 256; decide)) k3 b3.size (Lib.hid (by rw [mt]; decide)))
  rw [mt] at LI0 BK0 MT
  generalize newS true 0 0 0 9 bd = S at *
  replace hn := Lib.hid hn
  replace hm := Lib.hid hm
  clear C2 mt
  go_wp2_with fail
  refine MT.out.mono ?_
  rintro e w4 ⟨lp, rfl, hlp, C4, b4⟩
  have b5 := b3.trans (b4.mono b3.size)
  have k5 : Hid (KRow w4) := hkr.out.below b5 hkr.out.1 b5.size
  have RM := lroom_any w.heap.size lp L S _ _ w4 C4
  have e12 : roomN L S (freshG (0 + 1)) L.n = 12 := by
    have := BK0.room1 (by rw [hn.out]; decide) 2 (by rw [hn.out]; decide)
    rw [hm.out] at this
    rw [hn.out]
    exact this
  rw [e12] at RM
  replace RM := Lib.hid RM
  clear MT b3 b4 e12 k3
  go_wp2_with fail
  refine RM.out.mono ?_
  rintro e w5 ⟨rfl, b6⟩
  have C5 := Lib.hid (C4.out.after b6)
  have b7 := b5.trans (b6.mono b5.size)
  have OP := Lib.hid (lopen_any w.heap.size w5 lp L S _ _ C5)
  clear RM C4 b5 b6 k5
  go_wp2_with fail
  refine OP.out.mono ?_
  rintro e w6 ⟨rfl, rfl⟩
  have k7 : Hid (KRow w6) := hkr.out.below b7 hkr.out.1 b7.size
  have hn0 : 0 < L.n := by rw [hn.out]; decide
  have hm0 : 0 < L.m := by rw [hm.out]; decide
  have nx := BK0.go_on (r := 0) hn0 hm0 (.inr (by rw [hn.out]; decide))
  have AP := app_yes w.heap.size lp L S _ _ 1 (by decide) ⟨#[120]⟩ 0 (Lib.hid (LI0.seqlt (by decide))) w6 C5 k7 (by decide) (by decide) 0 nx.1 (LI0.lowS (by decide)) LI0.leftne
  have BK1 := BK0.step (k := 1) (n := 0 + 1) (t := ⟨#[120]⟩) (by decide) hn0 hm0 nx.2
  have pg : (appS L S 1 (0 + 1) 0 ⟨#[120]⟩).page 0 0 = bs (pageL 1 (0 + 1) [120]) := by rw [appS_page, nx.2]; exact if_pos ⟨rfl, rfl⟩
  rw [nx.2] at AP
  change Calls _ _ _ _ (fun e w' => _ ∧ ∃ hv', Hid (Lg _ w' lp L (appS L S 1 (0 + 1) 0 ⟨#[120]⟩) hv' (appG (freshG (0 + 1)) 0)) ∧ _) at AP
  generalize appS L S 1 (0 + 1) 0 ⟨#[120]⟩ = S1 at *
  generalize appG (freshG (0 + 1)) 0 = G1 at *
  replace AP := Lib.hid AP
  replace BK1 := Lib.hid BK1
  clear OP nx LI0 BK0
  go_wp2_with fail
  refine AP.out.mono ?_
  rintro e w7 ⟨rfl, hv7, C7, g7⟩
  have b8 := b7.trans (g7.under C5.out b7.size)
  have bA := b8.alloc b8.size (.cells #[.int .i64 0, .int .i64 0] 34)
  have rA := Lib.hid (RowAt.new w7 34 #[.int .i64 0, .int .i64 0])
  have cA := Lib.hid (C7.out.after ((Below.refl _ w7).alloc (Nat.le_refl _) (.cells #[.int .i64 0, .int .i64 0] 34)))
  have kA : Hid (KRow (w7.alloc (.cells #[.int .i64 0, .int .i64 0] 34))) := hkr.out.below bA hkr.out.1 bA.size
  have RD := lread_any w.heap.size _ lp L S1 hv7 G1 cA kA ((0 : Nat) : Int) ((0 : Nat) : Int)
  have RP := rd_page (S := S1) (n := L.n) (m := L.m) (s := 0) (f := 0) (k := 1) (N := 0 + 1) (t := ⟨#[120]⟩) hn0 hm0 pg (by decide) (by decide) (by decide) (by decide)
  rw [RP.1, RP.2] at RD
  replace RD := Lib.hid RD
  clear AP RP C5 C7 g7 b7 b8 k7 pg
  go_wp2_with (first | (refine wpList_store_row rfl 34 _ _ rfl w7.heap.size #[.int .i64 0, .int .i64 0] rfl rfl 34 _ (RowAt.new _ _ _) (size_addr _ rfl) rfl (by simp [Value.oneCell']) ?_; rw [World.setRow_alloc_new]; generalize w7.alloc (.cells #[.int .i64 0, .int .i64 0] 34) = w8 at *) | (refine wpList_load_row rfl 34 _ rfl w7.heap.size rfl 34 _ (0, 0) _ rA.out Tryz.underlying34 rfl (size_addr _ rfl) ?_))
  refine RD.out.mono ?_
  rintro e w9 ⟨rfl, b9⟩
  have b10 := bA.trans (b9.mono bA.size)
  have bB := b10.alloc b10.size (.cells #[.int .u8 1, .int .u64 1, .string ⟨#[120]⟩] 41)
  have rB := Lib.hid (RowAt.new w9 41 #[.int .u8 1, .int .u64 1, .string ⟨#[120]⟩])
  have cB := Lib.hid ((cA.out.after b9).after ((Below.refl _ w9).alloc (Nat.le_refl _) (.cells #[.int .u8 1, .int .u64 1, .string ⟨#[120]⟩] 41)))
  have RM2 := lroom_any w.heap.size lp L S1 hv7 G1 _ cB
  have e11 : roomN L S1 G1 L.n = 11 := by
    have := BK1.out.room1 hn0 2 (by rw [hn.out]; decide)
    rw [hm.out] at this
    rw [hn.out]
    exact this
  rw [e11] at RM2
  replace RM2 := Lib.hid RM2
  have f1 := rB.out.one 1 rfl
  have f2 := rB.out.one 2 rfl
  clear RD cA kA rA bA b9 b10 e11 BK1 hn0 hm0
  go_wp2_with (first | (refine wpList_store_row rfl 41 _ _ rfl w9.heap.size #[.int .u8 1, .int .u64 1, .string ⟨#[120]⟩] rfl rfl 41 _ (RowAt.new _ _ _) (size_frame _ rfl) rfl (by simp [Value.oneCell']) ?_; rw [World.setRow_alloc_new]; generalize w9.alloc (.cells #[.int .u8 1, .int .u64 1, .string ⟨#[120]⟩] 41) = w10 at *))
  refine RM2.out.mono ?_
  rintro e w11 ⟨rfl, b11⟩
  have b12 := bB.trans (b11.mono bB.size)
  clear RM2 rB cB f1 f2 bB b11
  go_wp2
  go_ret
  exact ⟨rfl, b12⟩

end Go.Proofs.YtapebaoajknepaaGreatDoor
/-
  What the laws of layer 13 share.
-/
namespace Go.Proofs.YtapebaoajknepaaGreatDoor
open Go.RowKit
set_option linter.unusedVariables false

/-- The next page, wherever it is. -/
theorem Bk.put {L : Lay} {S : St} {G : Sg} {b cs cp : Nat} (h : Bk L S G b cs cp) {r : Int} (hc : (cp < L.m ∧ cs < L.n ∧ (0 < cp ∨ max r 0 < ((L.n - cs : Nat) : Int))) ∨ (cp = L.m ∧ max r 0 < ((L.n - (cs + 1) : Nat) : Int))) :
    ∃ s, nextS L S G r = some s ∧ s < L.n ∧ firstB L S s < L.m ∧ isB (S.page s (firstB L S s)) = false ∧ ((s = cs ∧ firstB L S s = cp ∧ cp < L.m) ∨ (s = cs + 1 ∧ firstB L S s = 0 ∧ cp = L.m)) ∧ ∀ k n t, t.size ≤ 229 → Bk L (appS L S k n s t) (appG G s) b s (firstB L S s + 1) := by
  have ho := h.ord
  rcases hc with ⟨h1, h2, h3⟩ | ⟨h1, h2⟩
  · obtain ⟨e1, e2⟩ := h.go_on h2 h1 h3
    refine ⟨cs, e1, h2, by omega, ?_, .inl ⟨rfl, e2, h1⟩, fun k n t ht => ?_⟩
    · rw [e2, h.blank cs cp h2 h1 ho.1, decide_eq_false (by omega), decide_eq_false (Nat.lt_irrefl cp)]
      simp
    · have := h.step (k := k) (n := n) ht h2 h1 e2
      rwa [← e2] at this
  · obtain ⟨e1, e2⟩ := h.next h1 h2
    have hn : cs + 1 < L.n := by omega
    refine ⟨cs + 1, e1, hn, by omega, ?_, .inr ⟨rfl, e2, h1⟩, fun k n t ht => ?_⟩
    · rw [e2, h.blank (cs + 1) 0 hn ho.2.2.2.2 (by omega), decide_eq_false (by omega), decide_eq_false (by omega)]
      simp
    · have := h.turn (k := k) (n := n) ht hn h1 e2
      rwa [e2]
theorem sgL_congr {p q : Nat → Bool} : ∀ t, (∀ s, s < t → p s = q s) → sgL p t = sgL q t
  | 0, _ => rfl
  | t + 1, h => by
    show sgL p t ++ _ = sgL q t ++ _
    rw [sgL_congr t (fun s hs => h s (by omega)), h t (Nat.lt_succ_self t)]
theorem badN_none (n : Nat) (f : Nat → Int) : badN n f 0 = fun _ => false := rfl
theorem clr_page (S : St) (i k a b : Nat) : ((erS (cntE (actS S true (S.left - 1))) i k).page a b) = if a = i then clr k (S.page i) b else S.page a b := by
  show (updP S.page i (clr k (S.page i))) a b = _
  unfold updP
  by_cases e : a = i
  · rw [if_pos e, if_pos e]
  · rw [if_neg e, if_neg e]
theorem lerS_page (S : St) (i a b : Nat) (hb : b < 1000) : (lerS S i).page a b = if a = i then ⟨#[]⟩ else S.page a b := by
  unfold lerS
  rw [clr_page]
  split
  · unfold clr
    rw [if_pos (by omega)]
  · rfl
theorem lerS_wear (S : St) (i a : Nat) : (lerS S i).wear a = if a = i then S.wear i + 1 else S.wear a := rfl

/-- Each segment is blank, or full; how often each was erased. -/
structure Er (L : Lay) (S : St) (G : Sg) (wk : Nat → Nat) (bk : Nat → Bool) : Prop where
  blank : ∀ s p, s < L.n → p < L.m → isB (S.page s p) = !bk s
  wear : ∀ s, S.wear s = wk s
  worn : ∀ s, s < L.n → G.worn s = false
  op : G.op = -1 ∨ ∃ s, s < L.n ∧ G.op = (s : Int) ∧ bk s = false
section
variable {L : Lay} {S : St} {G : Sg} {wk : Nat → Nat} {bk : Nat → Bool}
theorem Er.of_bk {cs : Nat} (h : Bk L S G 0 cs L.m) (hn : cs + 1 = L.n) : Er L S G (fun _ => 0) (fun _ => false) := by
  have ho := h.ord
  refine ⟨fun s p hs hp => ?_, h.wear, h.worn, ?_⟩
  · rw [h.blank s p hs hp (Nat.zero_le _)]
    by_cases e : s < cs
    · rw [decide_eq_true e]; rfl
    · rw [decide_eq_false e, decide_eq_true (show s = cs by omega), decide_eq_true hp]; rfl
  · rw [h.op, if_neg (by omega)]
    exact .inr ⟨cs, by omega, rfl, rfl⟩
theorem Er.left (h : Er L S G wk bk) {s : Nat} (hs : s < L.n) : (blL S s L.m).length = (if bk s = true then L.m else 0) ∧ (bk s = true → 0 < L.m → firstB L S s = 0) := by
  cases hb : bk s
  · have := blL_from (S := S) (s := s) (c := L.m) L.m (fun p hp => by rw [h.blank s p hs hp, hb, decide_eq_true hp]; rfl)
    exact ⟨by rw [this.1]; simp, fun e => by cases e⟩
  · have := blL_from (S := S) (s := s) (c := 0) L.m (fun p hp => by rw [h.blank s p hs hp, hb, decide_eq_false (Nat.not_lt_zero p)]; rfl)
    exact ⟨by rw [this.1]; simp, fun _ hm => this.2 hm⟩
theorem Er.free (h : Er L S G wk bk) (hm : 0 < L.m) {s : Nat} (hs : s < L.n) : freeB L S G s = bk s := by
  unfold freeB
  rw [h.worn s hs, (h.left hs).1]
  cases hb : bk s
  · rw [if_neg (by decide), Bool.not_false, Bool.true_and, beq_eq_false_iff_ne]
    omega
  · rw [if_pos rfl, Bool.not_false, Bool.true_and, beq_iff_eq]
theorem Er.frees (h : Er L S G wk bk) (hm : 0 < L.m) : freesL L S G = sgL bk L.n := sgL_congr L.n (fun s hs => h.free hm hs)
theorem Er.needs (h : Er L S G wk bk) : needsB L S G = true := by
  unfold needsB
  rcases h.op with e | ⟨s, hs, e, hb⟩
  · rw [e]; rfl
  · rw [e, Int.toNat_natCast, (h.left hs).1, hb, Bool.or_eq_true]
    exact .inr rfl
theorem Er.put (h : Er L S G wk bk) (hm : 0 < L.m) (hl : 0 < (sgL bk L.n).length) : nextS L S G 0 = some (newOp L S G) := by
  unfold nextS
  rw [h.needs, if_pos rfl]
  unfold fullB
  rw [h.frees hm, decide_eq_false (by omega), if_neg (by decide)]
theorem Er.erase (h : Er L S G wk bk) (hm : L.m ≤ 16) {i : Nat} (hi : i < L.n) : Er L (lerS S i) (closeG G i) (fun a => if a = i then wk i + 1 else wk a) (fun a => if a = i then true else bk a) := by
  refine ⟨fun s p hs hp => ?_, fun s => ?_, h.worn, ?_⟩
  · rw [lerS_page S i s p (by omega)]
    by_cases e : s = i
    · rw [if_pos e, if_pos e, isB_empty]; rfl
    · rw [if_neg e, if_neg e, h.blank s p hs hp]
  · rw [lerS_wear, h.wear, h.wear]
  · unfold closeG
    by_cases e : (i : Int) = G.op
    · rw [if_pos e]; exact .inl rfl
    · rw [if_neg e]
      rcases h.op with e2 | ⟨s, hs, e2, hb⟩
      · exact .inl e2
      · exact .inr ⟨s, hs, e2, by rw [if_neg (by omega)]; exact hb⟩
theorem LowT.ler {t : Nat} (h : LowT S t) (i : Nat) : LowT (lerS S i) (t + 1) := h.erase1 true i _
end

theorem Er.congr {L : Lay} {S : St} {G : Sg} {wk wk' : Nat → Nat} {bk bk' : Nat → Bool} (h : Er L S G wk bk) (h1 : ∀ a, wk a = wk' a) (h2 : ∀ a, bk a = bk' a) : Er L S G wk' bk' := by
  have e1 : wk = wk' := funext h1
  have e2 : bk = bk' := funext h2
  rw [← e1, ← e2]
  exact h
theorem Er.worn_no {L : Lay} {S : St} {G : Sg} {wk : Nat → Nat} {bk : Nat → Bool} (h : Er L S G wk bk) {r : Nat} (rb : S.rated = (r : Int) ∧ S.bad = fun _ => false) {i : Nat} (hw : wk i < r) : wornB S i = false := by
  unfold wornB
  rw [rb.1, rb.2, h.wear, decide_eq_false (by omega)]
  rfl

theorem new_two (k o nn : Nat) (hk : k < 4) (ho : o = (k + 1) % 4) (wear : Nat → Nat) (hw : ∀ a, wear a = if a = o then 1 else if a = k then nn + 1 else 0) :
    ∃ wt : Nat, leastF wear (fun j => (sgL (fun a => decide (a = o) || decide (a = k)) 4).getD j 0) ((sgL (fun a => decide (a = o) || decide (a = k)) 4).length - 1) = wt ∧ (nn = 0 → (((k : Int) < (o : Int) ∧ (wt : Int) = (k : Int)) ∨ ((o : Int) ≤ (k : Int) ∧ (wt : Int) = (o : Int)))) ∧ (nn ≠ 0 → wt = o) ∧ wt < 4 ∧ (wt = o ∨ wt = k) := by
  subst ho
  have : k = 0 ∨ k = 1 ∨ k = 2 ∨ k = 3 := by omega
  rcases this with rfl | rfl | rfl | rfl
  · refine ⟨if 1 < nn + 1 then 1 else 0, ?_, ?_, ?_, ?_, ?_⟩
    · show (if wear 1 < wear 0 then 1 else 0) = _
      rw [hw 1, hw 0]
      rfl
    all_goals (split <;> omega)
  · refine ⟨if 1 < nn + 1 then 2 else 1, ?_, ?_, ?_, ?_, ?_⟩
    · show (if wear 2 < wear 1 then 2 else 1) = _
      rw [hw 2, hw 1]
      rfl
    all_goals (split <;> omega)
  · refine ⟨if 1 < nn + 1 then 3 else 2, ?_, ?_, ?_, ?_, ?_⟩
    · show (if wear 3 < wear 2 then 3 else 2) = _
      rw [hw 3, hw 2]
      rfl
    all_goals (split <;> omega)
  · refine ⟨if nn + 1 < 1 then 3 else 0, ?_, ?_, ?_, ?_, ?_⟩
    · show (if wear 3 < wear 0 then 3 else 0) = _
      rw [hw 3, hw 0]
      rfl
    all_goals (split <;> omega)

/-- How many segments are free, open, used, retired. -/
theorem counts_all {L : Lay} {S : St} {G : Sg} (ho : ∀ s, s < L.n → G.op = (s : Int) → freeB L S G s = false ∧ G.worn s = false) : ∀ t, t ≤ L.n → (sgL (freeB L S G) t).length + (if 0 ≤ G.op ∧ G.op < (t : Int) then 1 else 0) + (sgL (usedB L S G) t).length + (sgL G.worn t).length = t
  | 0, _ => by rw [if_neg (by omega)]; rfl
  | t + 1, ht => by
    have ih := counts_all ho t (by omega)
    have e : ∀ p : Nat → Bool, (sgL p (t + 1)).length = (sgL p t).length + (if p t = true then 1 else 0) := fun p => by
      show (sgL p t ++ _).length = _
      rw [List.length_append]
      cases p t <;> rfl
    rw [e, e, e]
    by_cases h1 : G.op = (t : Int)
    · obtain ⟨h2, h3⟩ := ho t (by omega) h1
      have h4 : usedB L S G t = false := by unfold usedB openB; rw [h1, h2]; simp
      have hp : (if 0 ≤ G.op ∧ G.op < ((t + 1 : Nat) : Int) then 1 else 0) = 1 := if_pos (by omega)
      have hi : (if 0 ≤ G.op ∧ G.op < (t : Int) then 1 else 0) = 0 := if_neg (by omega)
      rw [hi] at ih
      rw [h2, h3, h4, hp]
      simp
      omega
    · have h2 : (if 0 ≤ G.op ∧ G.op < ((t + 1 : Nat) : Int) then 1 else 0) = (if 0 ≤ G.op ∧ G.op < (t : Int) then 1 else 0) := by
        by_cases h3 : 0 ≤ G.op ∧ G.op < (t : Int)
        · rw [if_pos h3, if_pos (by omega)]
        · rw [if_neg h3, if_neg (by omega)]
      rw [h2]
      have h3 : openB G t = false := by unfold openB; rw [beq_eq_false_iff_ne]; omega
      have h4 : usedB L S G t = (!freeB L S G t && !G.worn t) := by unfold usedB; rw [h3]; simp
      have h5 : freeB L S G t = true → G.worn t = false := fun h => by unfold freeB at h; simp at h; exact h.1
      rw [h4]
      generalize (if 0 ≤ G.op ∧ G.op < (t : Int) then 1 else 0) = x at *
      cases hf : freeB L S G t <;> cases hw : G.worn t
      · simp; omega
      · simp; omega
      · simp; omega
      · rw [hf, hw] at h5
        exact absurd (h5 rfl) (by decide)

end Go.Proofs.YtapebaoajknepaaGreatDoor
/-
  Arrays of words, or of bytes, that came in, laid open.
-/
namespace Go.Proofs.YtapebaoajknepaaGreatDoor
open Go.ChangeShapes Go.WideShapes Go.ChangeAt Go.RowKit

/-- The number in a cell. -/
def natOf (v : Option Value) : Nat := match v with | some (.int _ n) => n.toNat | _ => 0

theorem wf_u32 {n : Int} (h : (Lit.int .u32 n).wf = true) : 0 ≤ n ∧ n < 4294967296 := by
  simp [Lit.wf, IntKind.min, IntKind.max, IntKind.signed, IntKind.bits] at h
  omega
theorem wf_u8 {n : Int} (h : (Lit.int .u8 n).wf = true) : 0 ≤ n ∧ n < 256 := by
  simp [Lit.wf, IntKind.min, IntKind.max, IntKind.signed, IntKind.bits] at h
  omega
theorem wf_u16 {n : Int} (h : (Lit.int .u16 n).wf = true) : 0 ≤ n ∧ n < 65536 := by
  simp [Lit.wf, IntKind.min, IntKind.max, IntKind.signed, IntKind.bits] at h
  omega

theorem open_cells {P : Program} {H : Type} {enc : TypeId × Value → H} {W : World} {base : Nat} {sp : Nat → Bool} {held : Bool} {t e : TypeId} {n : Nat} {k : IntKind} {v : Value} {d : DataW H} {ps : List MemPlace} {r : Reach} {b0 : Nat}
    (ht : P.underlying t = some (.array n e)) (he : P.underlying e = some (.int k)) (hc : P.cellsOf e = 1) (hn : P.cellsOf t = n) (hv : Value.okWide P W r b0 t v) (h : DataW.Trod enc P W base sp held t v d ps) :
    ∃ cs : Array Value, v = .agg cs ∧ cs.size = n ∧ ∀ i, i < n → ∃ x : Int, cs[i]? = some (.int k x) ∧ (Lit.int k x).wf = true := by
  unfold Value.okWide at hv
  rw [ht] at hv
  obtain ⟨cs, rfl, hs, _⟩ := hv
  obtain ⟨fuel, hf⟩ := h
  obtain ⟨xs, m1, rfl, _, _, hx, hel⟩ := DataW.trod_array ht hf
  refine ⟨cs, rfl, by omega, fun i hi => ?_⟩
  have h0 := hel i hi
  rw [List.getElem?_eq_getElem (by omega), hc, Nat.mul_one] at h0
  obtain ⟨x, e1, _, hw⟩ := DataW.trod_int he h0
  refine ⟨x, ?_, hw⟩
  have : ((cs.toList.drop i).take 1)[0]? = some (.int k x) := by
    have e2 : (Value.agg cs).cells.toList = cs.toList := rfl
    rw [e2] at e1
    rw [e1]
    rfl
  rw [← Array.getElem?_toList]
  simpa using this

theorem open_words {P : Program} {H : Type} {enc : TypeId × Value → H} {W : World} {base : Nat} {sp : Nat → Bool} {held : Bool} {t e : TypeId} {n : Nat} {v : Value} {d : DataW H} {ps : List MemPlace} {r : Reach} {b0 : Nat}
    (ht : P.underlying t = some (.array n e)) (he : P.underlying e = some (.int .u32)) (hc : P.cellsOf e = 1) (hn : P.cellsOf t = n) (hv : Value.okWide P W r b0 t v) (h : DataW.Trod enc P W base sp held t v d ps) :
    ∃ f, Words f ∧ v = .agg (rowOf n (w32 f)) := by
  obtain ⟨cs, rfl, hs, hx⟩ := open_cells ht he hc hn hv h
  refine ⟨fun i => natOf cs[i]?, fun i => ?_, ?_⟩
  · by_cases hi : i < n
    · obtain ⟨x, hx1, hw⟩ := hx i hi
      have := wf_u32 hw
      simp only [hx1, natOf]
      omega
    · show natOf cs[i]? < _
      rw [Array.getElem?_eq_none (by omega)]
      decide
  · congr 1
    apply Array.ext
    · rw [rowOf_size, hs]
    · intro i h1 h2
      obtain ⟨x, hx1, hw⟩ := hx i (by omega)
      have hb := wf_u32 hw
      have hr := rowOf_get n (w32 fun i => natOf cs[i]?) i (by omega)
      rw [Array.getElem?_eq_getElem h2] at hr
      rw [Option.some.inj hr]
      rw [Array.getElem?_eq_getElem h1] at hx1
      rw [Option.some.inj hx1]
      unfold w32
      simp only [Array.getElem?_eq_getElem h1, Option.some.inj hx1, natOf]
      congr 1
      omega

theorem open_bytes {P : Program} {H : Type} {enc : TypeId × Value → H} {W : World} {base : Nat} {sp : Nat → Bool} {held : Bool} {t e : TypeId} {n : Nat} {v : Value} {d : DataW H} {ps : List MemPlace} {r : Reach} {b0 : Nat}
    (ht : P.underlying t = some (.array n e)) (he : P.underlying e = some (.int .u8)) (hc : P.cellsOf e = 1) (hn : P.cellsOf t = n) (hv : Value.okWide P W r b0 t v) (h : DataW.Trod enc P W base sp held t v d ps) :
    ∃ f, Bytes f ∧ v = .agg (rowOf n (w8 f)) := by
  obtain ⟨cs, rfl, hs, hx⟩ := open_cells ht he hc hn hv h
  refine ⟨fun i => natOf cs[i]?, fun i => ?_, ?_⟩
  · by_cases hi : i < n
    · obtain ⟨x, hx1, hw⟩ := hx i hi
      have := wf_u8 hw
      simp only [hx1, natOf]
      omega
    · show natOf cs[i]? < _
      rw [Array.getElem?_eq_none (by omega)]
      decide
  · congr 1
    apply Array.ext
    · rw [rowOf_size, hs]
    · intro i h1 h2
      obtain ⟨x, hx1, hw⟩ := hx i (by omega)
      have hb := wf_u8 hw
      have hr := rowOf_get n (w8 fun i => natOf cs[i]?) i (by omega)
      rw [Array.getElem?_eq_getElem h2] at hr
      rw [Option.some.inj hr]
      rw [Array.getElem?_eq_getElem h1] at hx1
      rw [Option.some.inj hx1]
      unfold w8
      simp only [Array.getElem?_eq_getElem h1, Option.some.inj hx1, natOf]
      congr 1
      omega

end Go.Proofs.YtapebaoajknepaaGreatDoor
/-
  What the listed variables give: the numbers K lie in theirs; a world that holds them meets the condition; a frame that came in, laid open.
-/
namespace Go.Proofs.YtapebaoajknepaaGreatDoor
open Go.ChangeShapes Go.WideShapes Go.ChangeAt Go.RowKit
set_option linter.unusedVariables false

theorem gRounds : Tryz.prog.globalNamed "oblivion/sha.rounds" = some 0 := by kernel_rfl
theorem tRounds : (Tryz.prog.globals[0]?).map (·.type) = some 164 := by kernel_rfl
theorem kRounds {H : Type} : (Rows.laid_oblivion_sha_rounds : DataW H) = .agg (kList.map fun k => .lit (.int .u32 ((k : Nat) : Int))) := rfl

/-- The list of the rows. -/
def listed : List (String × DataW Unit) := [("oblivion/sha.rounds", Rows.laid_oblivion_sha_rounds), ("unicode/utf8.acceptRanges", Rows.laid_unicode_utf8_acceptRanges), ("unicode/utf8.first", Rows.laid_unicode_utf8_first)]

set_option maxRecDepth 100000 in
theorem door_met (os : Os) (args : Array Value) : laidMetH Tryz.prog listed ((World.laidAll Tryz.prog os listed).forCall (fun _ _ => 0) ⟨#[], args, []⟩).memory := by
  rw [MakeChecks.laidMetH_plain _ _ _ (by kernel_rfl)]
  exact laidMet_laidAll _ (by kernel_rfl) (by kernel_rfl)

set_option maxRecDepth 100000 in
theorem door_shaped (os : Os) : (World.laidAll Tryz.prog os listed).Shaped Tryz.prog := World.shaped_of_ZipB (by kernel_rfl) (by kernel_rfl)

theorem of_laid {W : World} (h : laidMetH Tryz.prog listed W) : KRow W := by
  rw [MakeChecks.laidMetH_plain _ _ _ (by kernel_rfl)] at h
  obtain ⟨ps, ⟨g0, t0, cs0, f0, p0, q0, hg0, ht0, hv0, hd0, _, _⟩, _, _⟩ := h
  obtain rfl := Option.some.inj (gRounds.symm.trans hg0)
  obtain rfl := Option.some.inj (tRounds.symm.trans ht0)
  obtain ⟨xs, m1, rfl, hx1, hlen, hn, hel⟩ := DataW.trod_array Tryz.underlying164 hd0
  have ce : Tryz.prog.cellsOf 136 = 1 := by kernel_rfl
  have key : ∀ i, i < 64 → W.cell? ⟨0, i, none⟩ = some (.int .u32 ((kN i : Nat) : Int)) := by
    intro i hi
    have h0 := hel i hi
    have hxi : i < xs.length := by omega
    rw [List.getElem?_eq_getElem hxi, ce, Nat.mul_one] at h0
    obtain ⟨k, e1, e2, _⟩ := DataW.trod_int Tryz.underlying136 h0
    rw [kRounds] at hx1
    simp only [Prod.mk.injEq, DataW.agg.injEq] at hx1
    have hk : (kList.map fun k => (DataW.lit (.int .u32 ((k : Nat) : Int)) : DataW Unit))[i]? = (xs.map (·.1))[i]? := by rw [hx1.1]
    have hki : i < kList.length := by have : kList.length = 64 := rfl; omega
    rw [List.getElem?_map, List.getElem?_map, List.getElem?_eq_getElem hxi, List.getElem?_eq_getElem hki, e2] at hk
    simp at hk
    rw [World.var?_cell hg0 hv0 i]
    have hc : cs0.toList[i]? = some (.int .u32 k) := by
      have : ((cs0.toList.drop i).take 1)[0]? = some (.int .u32 k) := by rw [e1]; rfl
      simpa using this
    rw [← Array.getElem?_toList, hc, ← hk]
    unfold kN
    rw [List.getD_eq_getElem?_getD, List.getElem?_eq_getElem hki]
    rfl
  exact ⟨Nat.lt_of_le_of_lt (Nat.zero_le _) (World.block_lt_of_cell? W _ (key 0 (by decide))), key⟩

set_option maxRecDepth 100000 in
/-- A frame that came in. -/
theorem open_frame {H : Type} {enc : TypeId × Value → H} {W : World} {base : Nat} {sp : Nat → Bool} {held : Bool} {v : Value} {d : DataW H} {ps : List MemPlace} {r : Reach} {b0 : Nat}
    (hv : Value.okWide Tryz.prog W r b0 41 v) (h : DataW.Trod enc Tryz.prog W base sp held 41 v d ps) :
    ∃ (k n : Nat) (t : ByteArray), k < 256 ∧ n < 18446744073709551616 ∧ v = .agg #[.int .u8 (k : Int), .int .u64 (n : Int), .string t] := by
  have h1 : Tryz.prog.cellsOf 5 = 1 := by kernel_rfl
  have h2 : Tryz.prog.cellsOf 37 = 1 := by kernel_rfl
  have h3 : Tryz.prog.cellsOf 9 = 1 := by kernel_rfl
  obtain ⟨cs, rfl, hs⟩ := okWide_struct Tryz.underlying41 hv
  have hs3 : cs.size = 3 := hs.trans (by kernel_rfl)
  obtain ⟨fuel, hf⟩ := h
  obtain ⟨xs, m1, _, _, _, hx, hel2⟩ := DataW.trod_struct Tryz.underlying41 hf
  have hx3 : xs.length = 3 := hx
  have ec : (Value.agg cs).cells.toList = cs.toList := rfl
  rw [ec] at hel2
  have a0 : DataW.trod enc Tryz.prog W base sp held m1 5 ((cs.toList.drop 0).take (Tryz.prog.cellsOf 5)) = xs[0]? := hel2 0 _ rfl
  have a1 : DataW.trod enc Tryz.prog W base sp held m1 37 ((cs.toList.drop 1).take (Tryz.prog.cellsOf 37)) = xs[1]? := hel2 1 _ rfl
  have a2 : DataW.trod enc Tryz.prog W base sp held m1 9 ((cs.toList.drop 2).take (Tryz.prog.cellsOf 9)) = xs[2]? := hel2 2 _ rfl
  rw [List.getElem?_eq_getElem (by omega), h1] at a0
  rw [List.getElem?_eq_getElem (by omega), h2] at a1
  rw [List.getElem?_eq_getElem (by omega), h3] at a2
  obtain ⟨k, e0, _, w0⟩ := DataW.trod_int Tryz.underlying5 a0
  obtain ⟨n, e1, _, w1⟩ := DataW.trod_int Tryz.underlying37 a1
  obtain ⟨s, e2, _, _⟩ := DataW.trod_string Tryz.underlying9 a2
  have c0 : cs.toList[0]? = some (.int .u8 k) := by
    have : ((cs.toList.drop 0).take 1)[0]? = some (.int .u8 k) := by rw [e0]; rfl
    simpa using this
  have c1 : cs.toList[1]? = some (.int .u64 n) := by
    have : ((cs.toList.drop 1).take 1)[0]? = some (.int .u64 n) := by rw [e1]; rfl
    simpa using this
  have c2 : cs.toList[2]? = some (.string s) := by
    have : ((cs.toList.drop 2).take 1)[0]? = some (.string s) := by rw [e2]; rfl
    simpa using this
  have hk : 0 ≤ k ∧ k < 256 := wf_u8 w0
  have hn : 0 ≤ n ∧ n < 18446744073709551616 := by
    simp [Lit.wf, IntKind.min, IntKind.max, IntKind.signed, IntKind.bits] at w1
    omega
  refine ⟨k.toNat, n.toNat, s, by omega, by omega, ?_⟩
  rw [Int.toNat_of_nonneg hk.1, Int.toNat_of_nonneg hn.1]
  congr 1
  apply Array.ext
  · rw [hs3]; rfl
  · intro i h1 h2
    have hi : i < 3 := by omega
    apply Option.some.inj
    rw [← Array.getElem?_eq_getElem h1, ← Array.getElem?_eq_getElem h2, ← Array.getElem?_toList]
    match i, hi with
    | 0, _ => rw [c0]; rfl
    | 1, _ => rw [c1]; rfl
    | 2, _ => rw [c2]; rfl

end Go.Proofs.YtapebaoajknepaaGreatDoor
