/-
  Texts 4 of 6, merged.
-/
import Derived.Test.YtacekpjkgkkekaaDoorAll3
import Derived.OwnWalkIn
import Derived.TacticsInMore
import Derived.RangeFuncBox
import Derived.RangeFuncLeaves
import Derived.Maps.AppendAt
import Derived.Shelf.Abstract
import Derived.Laws.BitsAllLaws
import Derived.Laws.AppendOwn
import Derived.OwnWalk
import Derived.Laws.CopyRow
/-
  The iterator: it hands out the bytes of the stream, one behind the other.
-/
namespace Go.Proofs.YtacekpjkgkkekaaDoor
open Go.RowKit

/-- What the iterator has when k bytes have come: its cipher, its block, what it has captured. -/
structure ItI (s m p q : Nat) (key : Nat → Nat) (nonce fr to k : Nat) (w : World) : Prop where
  cip : Cip w p key
  blk : ∃ b, RowAt w q 23 (rowOf 16 (w8 b)) ∧ (0 < k → b = lockN key (cntN nonce ((fr + k - 1) / 16)))
  cap : Cap s key nonce fr to w
  hp : m ≤ p
  hq : m ≤ q
  hs : s + 3 < m

section
variable {s m p q nonce fr to k : Nat} {key : Nat → Nat} {A B : World}

theorem Cip.outer (h : Cip A p key) (k : Outer A B) : Cip B p key := by
  rcases h with ⟨x, h1, h2⟩ | h
  · exact .inl ⟨x, k.row h1 rfl, h2⟩
  · exact .inr (k.row h rfl)
theorem ItI.outer (h : ItI s m p q key nonce fr to k A) (o : Outer A B) : ItI s m p q key nonce fr to k B := by
  obtain ⟨b, hb, he⟩ := h.blk
  exact ⟨h.cip.outer o, ⟨b, o.row hb rfl, he⟩, h.cap.outer o, h.hp, h.hq, h.hs⟩
theorem ItI.after (h : ItI s m p q key nonce fr to k A) (hb : Below A.heap.size A B) : ItI s m p q key nonce fr to k B := h.outer (Outer.of_below hb)
theorem ItI.ne (h : ItI s m p q key nonce fr to k A) : p ≠ q := fun e => by
  obtain ⟨b, hb, _⟩ := h.blk
  subst e
  have hb' : A.heap[p]? = _ := hb
  rcases h.cip with ⟨x, h1, _⟩ | h1
  · have h1' : A.heap[p]? = _ := h1
    rw [hb'] at h1'
    injection h1' with h1'
    injection h1' with _ h2 _
    exact absurd h2 (by decide)
  · have h1' : A.heap[p]? = _ := h1
    rw [hb'] at h1'
    injection h1' with h1'
    injection h1' with _ h2 _
    exact absurd h2 (by decide)
theorem Cip.inner (h : Cip A p key) (hp : m ≤ p) (ha : Apart p A B) : Inner m A B := by
  rcases h with ⟨x, h1, _⟩ | h1
  · exact Inner.of_apart ha hp h1 rfl
  · exact Inner.of_apart ha hp h1 rfl
/-- A block was locked. -/
theorem ItI.locked (h : ItI s m p q key nonce fr to k A) (hm : Made B p key) (ha : Apart p A B) : ItI s m p q key nonce fr to k B := by
  obtain ⟨b, hb, he⟩ := h.blk
  exact ⟨.inr hm, ⟨b, ha.row hb h.ne.symm, he⟩, h.cap.inner (h.cip.inner h.hp ha) h.hs, h.hp, h.hq, h.hs⟩
/-- The block that was locked is laid. -/
theorem ItI.laid (h : ItI s m p q key nonce fr to k A) : ItI s m p q key nonce fr to (k + 1) (A.setRow q (rowOf 16 (w8 (lockN key (cntN nonce ((fr + k) / 16)))))) ∧
    RowAt (A.setRow q (rowOf 16 (w8 (lockN key (cntN nonce ((fr + k) / 16)))))) q 23 (rowOf 16 (w8 (lockN key (cntN nonce ((fr + k) / 16))))) ∧
    Inner m A (A.setRow q (rowOf 16 (w8 (lockN key (cntN nonce ((fr + k) / 16)))))) := by
  obtain ⟨b, hb, he⟩ := h.blk
  have hr := hb.setRow (rowOf 16 (w8 (lockN key (cntN nonce ((fr + k) / 16)))))
  have hi : Inner m A (A.setRow q (rowOf 16 (w8 (lockN key (cntN nonce ((fr + k) / 16)))))) := Inner.of_apart ((Apart.refl q A).setRow _) h.hq hb rfl
  refine ⟨⟨?_, ⟨_, hr, fun _ => by rw [show fr + (k + 1) - 1 = fr + k by omega]⟩, h.cap.inner hi h.hs, h.hp, h.hq, h.hs⟩, hr, hi⟩
  rcases h.cip with ⟨x, h1, h2⟩ | h1
  · exact .inl ⟨x, h1.setRowOther _ _ h.ne, h2⟩
  · exact .inr (RowAt.setRowOther h1 _ _ h.ne)
theorem ItI.kept (h : ItI s m p q key nonce fr to k A) (h0 : 0 < k) (hd : (fr + k) % 16 ≠ 0) : ItI s m p q key nonce fr to (k + 1) A ∧ RowAt A q 23 (rowOf 16 (w8 (lockN key (cntN nonce ((fr + k) / 16))))) := by
  obtain ⟨b, hb, he⟩ := h.blk
  have e : (fr + k - 1) / 16 = (fr + k) / 16 := by omega
  rw [he h0, e] at hb
  exact ⟨⟨h.cip, ⟨_, hb, fun _ => by rw [show fr + (k + 1) - 1 = fr + k by omega]⟩, h.cap, h.hp, h.hq, h.hs⟩, hb⟩
end

theorem wp_at_yield {P : Program} {ops : Array Oper} {Q : Exit → Act → World → Prop} {a : Act} {w : World} (h : (Code.region 8 ops false).wpIn Fence.wide 1 P Q a w) : (Code.region 8 ops false).wp P Q a w := wpIn_wide.1 h

set_option maxHeartbeats 2000000 in
set_option maxRecDepth 8000 in
theorem stream_seq (s : Nat) (key : Nat → Nat) (hk : Hid (Byt key)) (nonce fr to : Nat) (hn : Hid (nonce < 18446744073709551616)) (h1 : fr ≤ to) (h2 : to ≤ 5000) (w0 : World) (hs : s + 3 < w0.heap.size) (hc : Hid (Cap s key nonce fr to w0)) :
    SeqAll Tryd.prog 43 (capV s) (to - fr) (fun k => #[.int .u8 (streamN key nonce (fr + k) : Nat)]) w0 := by
  intro l J W hW hsz hJ hY h0
  have HY := Lib.hid hY
  have HJ := Lib.hid hJ
  have H0 := Lib.hid h0
  have cp : Hid (Cap s key nonce fr to W) := hc.out.inner hW hs
  clear hY hJ h0 hW hc
  show Calls _ _ #[.func (.yield l) #[] #[], .pointer (some ⟨s, 0, none⟩), .pointer (some ⟨s + 2, 0, none⟩), .pointer (some ⟨s + 3, 0, none⟩), .pointer (some ⟨s + 1, 0, none⟩)] W _
  have ld : Hid (RowAt W s 23 (rowOf 16 (w8 key))) := cp.out.key
  go_enter Tryd.func43, Tryd.ntmps43
  go_wp2_with (refine wpList_load_row rfl 23 _ rfl s rfl 23 (rowOf 16 (w8 key)) (0, 0) _ ld.out Tryd.underlying23 rfl (info_key _) ?_)
  refine (new_any key W).mono ?_
  rintro e w1 ⟨p, rfl, hp, hf, hb1⟩
  have j1 : Hid (J 0 (w1.alloc (.cells (rowOf 16 (w8 zeroN)) 23))) := HJ.out 0 _ _ (HJ.out 0 _ _ H0.out (Inner.of_below hb1)) (Inner.of_below ((Below.refl _ _).alloc (Nat.le_refl _) _))
  have i1 : Hid (ItI s W.heap.size p w1.heap.size key nonce fr to 0 (w1.alloc (.cells (rowOf 16 (w8 zeroN)) 23))) :=
    ⟨.inl (hf.below ((Below.refl _ _).alloc (Nat.le_refl _) _) hf.lt), ⟨zeroN, RowAt.new _ _ _, fun h => absurd h (by omega)⟩,
      (cp.out.outer (Outer.of_below hb1)).outer (Outer.of_below ((Below.refl _ _).alloc (Nat.le_refl _) _)), hp, hb1.size, by omega⟩
  have c1 : (w1.alloc (.cells (rowOf 16 (w8 zeroN)) 23)).cell? ⟨s + 2, 0, none⟩ = some (.int .i64 (fr : Int)) := cell_of_one i1.out.cap.fr
  clear hf hb1 H0 cp ld
  rw [z8_16] at j1 i1 c1
  generalize hq : w1.heap.size = q at *
  go_wp2
  clear hq
  generalize World.alloc w1 _ = w2 at *
  clear c1
  go_loopw [8] (fun i wr => ∃ k : Nat, k ≤ to - fr ∧ i = .int .i64 ((fr + k : Nat) : Int) ∧ Hid (J k wr) ∧ Hid (ItI s W.heap.size p q key nonce fr to k wr)) (fun i _ => to - (intOf i).toNat)
  case atStart => exact ⟨0, by omega, rfl, j1, i1⟩
  case round =>
    clear j1 i1
    obtain ⟨k, hkl, rfl, hj, hi⟩ := hrel
    obtain ⟨x, hx⟩ : ∃ x, x = fr + k := ⟨_, rfl⟩
    rw [← hx]
    replace hx := Lib.hid hx
    have ct := cell_of_one hi.out.cap.to
    by_cases hlt : k < to - fr
    · have cf := cell_of_one hi.out.cap.fr
      have cn := cell_of_one hi.out.cap.nonce
      have hx2 : (x : Int) < to := by have := hx.out; omega
      obtain ⟨c, hxc⟩ : ∃ c, x / 16 = c := ⟨_, rfl⟩
      obtain ⟨d, hxd⟩ : ∃ d, x % 16 = d := ⟨_, rfl⟩
      have ec : (x : Int) / 16 = (c : Int) := by omega
      have ed : (x : Int) % 16 = (d : Int) := by omega
      have hd16 : d < 16 := by omega
      have hc5 : c < 100000 := by have := hx.out; omega
      have hx5 : x < 5000 := by have := hx.out; omega
      replace hxc := Lib.hid hxc
      replace hxd := Lib.hid hxd
      have C := Lib.hid (fun w => counted_any nonce c hn hc5 w)
      by_cases hz : k = 0
      · have t1 : ((x : Int) == (fr : Int)) = true := by have := hx.out; simp; omega
        go_wp2_with fail
        refine (C.out wr).mono ?_
        rintro e w1 ⟨rfl, hb1⟩
        have j1 := Lib.hid (HJ.out k wr w1 hj.out (Inner.of_below hb1))
        have i1 := Lib.hid (hi.out.after hb1)
        clear hb1 C
        go_wp2_with fail
        refine (lock_any p key (cntN nonce c) hk (cnt_byt nonce c) w1 i1.out.cip).mono ?_
        rintro e w2 ⟨rfl, hm2, ha2⟩
        have j2 := Lib.hid (HJ.out k w1 w2 j1.out (i1.out.cip.inner i1.out.hp ha2))
        have i2 := Lib.hid (i1.out.locked hm2 ha2)
        clear hm2 ha2 j1 i1
        obtain ⟨b2, hb2, _⟩ := i2.out.blk
        have rb2 := Lib.hid hb2
        have L2 := i2.out.laid
        rw [← hx.out, hxc.out] at L2
        have iz := Lib.hid L2.1
        have rq := Lib.hid L2.2.1
        have jz := Lib.hid (HJ.out k w2 _ j2.out L2.2.2)
        clear L2 hb2 i2 j2
        go_wp2_with (refine wpList_store_row rfl 23 _ _ rfl q (rowOf 16 (w8 (lockN key (cntN nonce c)))) rfl rfl 23 _ rb2.out (info_key _) (by rw [rowOf_size, rowOf_size]) (rowOf_cells8 _ _) (Hid.out ?_))
        unfold Hid
        clear rb2
        generalize w2.setRow q (rowOf 16 (w8 (lockN key (cntN nonce c)))) = wz at *
        repeat (first | (with_reducible refine wp_at_yield ?_) | go_values | go_skip | go_guarded | go_step | go_upon | go_back)
        have cl := rq.out.cell d hd16
        rw [show w8 (lockN key (cntN nonce c)) d = .int .u8 ((streamN key nonce x : Nat) : Int) from by unfold w8 streamN; rw [hxc.out, hxd.out]] at cl
        obtain ⟨fn, tm, asg, bd, hy, hR⟩ := HY.out k wz jz.out hlt
        rw [← hx.out] at hy
        have hR' := Lib.hid hR
        clear hR
        try rw [ed]
        clear ed ec
        gi_wp2
        refine hR'.out.mono ?_
        rintro e w4 ⟨rfl, j4, o4⟩
        have it4 := Lib.hid (iz.out.outer o4)
        have j4' := Lib.hid j4
        clear hR' hy cl j4 o4 jz iz rq
        gi_wp2
        go_wp2
        go_roundw
        case rel => exact ⟨k + 1, by omega, by rw [← Nat.add_assoc, ← hx.out]; go_num, j4', it4⟩
        case measure => simp [intOf]; omega
      · have t1 : ((x : Int) == (fr : Int)) = false := by have := hx.out; simp; omega
        by_cases hd0 : d = 0
        · have t2 : ((x : Int) % 16 == 0) = true := by simp; omega
          subst hd0
          go_wp2_with fail
          refine (C.out wr).mono ?_
          rintro e w1 ⟨rfl, hb1⟩
          have j1 := Lib.hid (HJ.out k wr w1 hj.out (Inner.of_below hb1))
          have i1 := Lib.hid (hi.out.after hb1)
          clear hb1 C
          go_wp2_with fail
          refine (lock_any p key (cntN nonce c) hk (cnt_byt nonce c) w1 i1.out.cip).mono ?_
          rintro e w2 ⟨rfl, hm2, ha2⟩
          have j2 := Lib.hid (HJ.out k w1 w2 j1.out (i1.out.cip.inner i1.out.hp ha2))
          have i2 := Lib.hid (i1.out.locked hm2 ha2)
          clear hm2 ha2 j1 i1
          obtain ⟨b2, hb2, _⟩ := i2.out.blk
          have rb2 := Lib.hid hb2
          have L2 := i2.out.laid
          rw [← hx.out, hxc.out] at L2
          have iz := Lib.hid L2.1
          have rq := Lib.hid L2.2.1
          have jz := Lib.hid (HJ.out k w2 _ j2.out L2.2.2)
          clear L2 hb2 i2 j2
          go_wp2_with (refine wpList_store_row rfl 23 _ _ rfl q (rowOf 16 (w8 (lockN key (cntN nonce c)))) rfl rfl 23 _ rb2.out (info_key _) (by rw [rowOf_size, rowOf_size]) (rowOf_cells8 _ _) (Hid.out ?_))
          unfold Hid
          clear rb2
          generalize w2.setRow q (rowOf 16 (w8 (lockN key (cntN nonce c)))) = wz at *
          repeat (first | (with_reducible refine wp_at_yield ?_) | go_values | go_skip | go_guarded | go_step | go_upon | go_back)
          have cl := rq.out.cell 0 hd16
          rw [show w8 (lockN key (cntN nonce c)) 0 = .int .u8 ((streamN key nonce x : Nat) : Int) from by unfold w8 streamN; rw [hxc.out, hxd.out]] at cl
          obtain ⟨fn, tm, asg, bd, hy, hR⟩ := HY.out k wz jz.out hlt
          rw [← hx.out] at hy
          have hR' := Lib.hid hR
          clear hR
          try rw [ed]
          clear ed ec
          gi_wp2
          refine hR'.out.mono ?_
          rintro e w4 ⟨rfl, j4, o4⟩
          have it4 := Lib.hid (iz.out.outer o4)
          have j4' := Lib.hid j4
          clear hR' hy cl j4 o4 jz iz rq
          gi_wp2
          go_wp2
          go_roundw
          case rel => exact ⟨k + 1, by omega, by rw [← Nat.add_assoc, ← hx.out]; go_num, j4', it4⟩
          case measure => simp [intOf]; omega
        · have t2 : ((x : Int) % 16 == 0) = false := by simp; omega
          have L2 := hi.out.kept (by omega) (by have := hx.out; have := hxd.out; omega)
          rw [← hx.out, hxc.out] at L2
          have iz := Lib.hid L2.1
          have rq := Lib.hid L2.2
          have jz := hj
          clear L2 C
          repeat (first | (with_reducible refine wp_at_yield ?_) | go_values | go_skip | go_guarded | go_step | go_upon | go_back)
          have cl := rq.out.cell d hd16
          rw [show w8 (lockN key (cntN nonce c)) d = .int .u8 ((streamN key nonce x : Nat) : Int) from by unfold w8 streamN; rw [hxc.out, hxd.out]] at cl
          obtain ⟨fn, tm, asg, bd, hy, hR⟩ := HY.out k wr jz.out hlt
          rw [← hx.out] at hy
          have hR' := Lib.hid hR
          clear hR
          try rw [ed]
          clear ed ec
          gi_wp2
          refine hR'.out.mono ?_
          rintro e w4 ⟨rfl, j4, o4⟩
          have it4 := Lib.hid (iz.out.outer o4)
          have j4' := Lib.hid j4
          clear hR' hy cl j4 o4 jz iz rq
          gi_wp2
          go_wp2
          go_roundw
          case rel => exact ⟨k + 1, by omega, by rw [← Nat.add_assoc, ← hx.out]; go_num, j4', it4⟩
          case measure => simp [intOf]; omega
    · have hx2 : ¬ ((x : Int) < to) := by have := hx.out; omega
      have hke : k = to - fr := by omega
      subst hke
      go_wp2
      go_end0
      exact ⟨⟨_, rfl⟩, hj.out⟩

end Go.Proofs.YtacekpjkgkkekaaDoor
/-
  A row of bytes that a loop over an iterator collects.
-/
namespace Go.Proofs.YtacekpjkgkkekaaDoor
open Go.RowKit

/-- The variable at B holds a row that owns l; the blocks of ks lie as they lay; below n₀ all is as in w. -/
structure Col (n₀ B m : Nat) (ks : List (Nat × Obj)) (w : World) (l : List UInt8) (W : World) : Prop where
  row : ∃ g cap, Boxed W B 45 (.slice (some ⟨g, 0, none⟩) l.length cap) ∧ W.ownsRow n₀ 5 1 (.slice (some ⟨g, 0, none⟩) l.length cap) l.length (l.map bv)
  keep : ∀ j o, (j, o) ∈ ks → W.heap[j]? = some o ∧ looseO o = false ∧ o.isCells = true ∧ j < m
  low : Below n₀ w W
  base : w.heap.size = n₀
  hB : n₀ ≤ B
  hm : n₀ ≤ m

section
variable {n₀ B m : Nat} {ks : List (Nat × Obj)} {w W W' : World} {l : List UInt8}

theorem own_same {W W' : World} {v : Value} {n : Nat} {xs : List Value} (h : W.ownsRow n₀ 5 1 v n xs) (hb : ∀ (g : Nat) (cur : Array Value), W.heap[g]? = some (.cells cur 5 (0, 0)) → W'.heap[g]? = some (.cells cur 5 (0, 0))) :
    W'.ownsRow n₀ 5 1 v n xs := by
  refine ⟨h.1, ?_⟩
  rcases h.2 with hn | ⟨g, cap, cur, rfl, h1, hg, rest⟩
  · exact .inl hn
  · exact .inr ⟨g, cap, cur, rfl, h1, hb g cur hg, rest⟩

theorem Col.size (h : Col n₀ B m ks w l W) : n₀ ≤ W.heap.size := by rw [← h.base]; exact h.low.size
theorem Col.inner (h : Col n₀ B m ks w l W) (k : Inner m W W') : Col n₀ B m ks w l W' := by
  obtain ⟨g0, c0, hv, hr⟩ := h.row
  exact ⟨⟨g0, c0, k.block _ _ hv (.inr rfl), own_same hr fun g cur hg => k.block _ _ hg (.inr rfl)⟩,
    fun j o hj => ⟨k.block j o (h.keep j o hj).1 (.inl (h.keep j o hj).2.2.2), (h.keep j o hj).2⟩,
    h.low.trans ((k.mono h.hm).below h.size), h.base, h.hB, h.hm⟩
theorem putObj_cells {W : World} {j k : Nat} {o o' x : Obj} (hj : W.heap[j]? = some o) (ho : o.isCells = false) (hk : W.heap[k]? = some x) (hx : x.isCells = true) : (W.putObj j o').heap[k]? = some x := by
  refine (World.putObj_heap_other fun e => ?_).trans hk
  subst e
  rw [hj] at hk
  cases hk
  rw [ho] at hx
  cases hx
theorem Col.put (h : Col n₀ B m ks w l W) {j : Nat} {o : Obj} (o' : Obj) (hm : m ≤ j) (hj : W.heap[j]? = some o) (ho : o.isCells = false) : Col n₀ B m ks w l (W.putObj j o') := by
  obtain ⟨g0, c0, hv, hr⟩ := h.row
  exact ⟨⟨g0, c0, putObj_cells hj ho hv rfl, own_same hr fun g cur hg => putObj_cells hj ho hg rfl⟩,
    fun i x hi => ⟨putObj_cells hj ho (h.keep i x hi).1 (h.keep i x hi).2.2.1, (h.keep i x hi).2⟩,
    h.low.trans ⟨rfl, rfl, rfl, by rw [World.putObj_size]; exact Nat.le_refl _, fun k hk => World.putObj_heap_other (by have := h.hm; omega)⟩, h.base, h.hB, h.hm⟩
theorem Col.drew (h : Col n₀ B m ks w l W) : Col n₀ B m ks w l W.drew := h.inner (Inner.of_below (Below.refl _ _).drew)

/-- A byte appended, and the variable set. -/
theorem Col.append0 (h : Col n₀ B m ks w l W) {w1 : World} {v v' : Value} {b : UInt8} (hv : Boxed W B 45 v) (hr : W.ownsRow n₀ 5 1 v l.length (l.map bv))
    (hown : w1.ownsRow n₀ 5 1 v' (l.length + 1) (l.map bv ++ [bv b])) (hgrow : W.grownBy w1 v.ownBlock) :
    Col n₀ B m ks w (l ++ [b]) (w1.setCell ⟨B, 0, none⟩ v') ∧ Outer W (w1.setCell ⟨B, 0, none⟩ v') ∧ Boxed w1 B 45 v := by
  have hv1 : Boxed w1 B 45 v := hv.kept hgrow (hv.not_row (by decide) hr)
  have hv2 := hv1.set v'
  have hr2 := hown.kept (grownBy_setCell' w1 B v') (.inr (hv1.not_row (by decide) hown).symm)
  have hb2 : Below n₀ W (w1.setCell ⟨B, 0, none⟩ v') := by
    refine ((Below.refl n₀ W).grown hgrow h.size fun j ej => ?_).setCell (p := ⟨B, 0, none⟩) h.hB v'
    rcases hr.2 with ⟨rfl, _⟩ | ⟨g, cap, cur, rfl, hb, _, _⟩
    · simp [Value.ownBlock] at ej
    · obtain rfl : g = j := by simpa [Value.ownBlock] using ej
      exact hb
  have hout : Outer W (w1.setCell ⟨B, 0, none⟩ v') := by
    refine ⟨hb2.os, hb2.tape, hb2.output, hb2.size, fun j o hj ho => ?_⟩
    have hlt := (Array.getElem?_eq_some_iff.1 hj).1
    rw [Below.heap_setCell _ _ _ _ (fun e => ?_), hgrow.block j hlt (fun e => ?_)]
    · exact hj
    · rcases hr.2 with ⟨rfl, _⟩ | ⟨g, cap, cur, rfl, _, hg, _⟩
      · simp [Value.ownBlock] at e
      · obtain rfl : j = g := by simpa [Value.ownBlock] using e
        rw [hg] at hj
        cases hj
        cases ho
    · have e' : j = B := e
      subst e'
      have hv' : W.heap[j]? = _ := hv
      rw [hv'] at hj
      cases hj
      cases ho
  obtain ⟨g9, c9, rfl⟩ := ownsRow_succ hown
  refine ⟨⟨⟨g9, c9, by rw [List.length_append]; exact hv2, ?_⟩, fun j o hj => ⟨hout.block j o (h.keep j o hj).1 (h.keep j o hj).2.1, (h.keep j o hj).2⟩, h.low.trans hb2, h.base, h.hB, h.hm⟩, hout, hv1⟩
  rw [List.length_append, List.map_append]
  exact hr2
theorem Col.append (h : Col n₀ B m ks w l W) {w1 : World} {tmp : Obj} {v v' : Value} {b : UInt8} (hv : Boxed W B 45 v) (hr : W.ownsRow n₀ 5 1 v l.length (l.map bv))
    (hown : w1.ownsRow n₀ 5 1 v' (l.length + 1) (l.map bv ++ [bv b])) (hgrow : (W.alloc tmp).grownBy w1 v.ownBlock) :
    Col n₀ B m ks w (l ++ [b]) (w1.setCell ⟨B, 0, none⟩ v') ∧ Outer W (w1.setCell ⟨B, 0, none⟩ v') := by
  have hb : Below W.heap.size W (W.alloc tmp) := (Below.refl _ _).alloc (Nat.le_refl _) _
  obtain ⟨h1, h2, _⟩ := (h.inner (Inner.of_below hb)).append0 (hv.alloc tmp) (hr.alloc tmp) hown hgrow
  exact ⟨h1, (Outer.of_below hb).trans h2⟩

/-- What stays while a region of a round is gone through: the variable, and a text. -/
def ColC (W : World) (B : Nat) (v : Value) (sB : Nat) (s : ByteArray) (W' : World) : Prop := Below W.heap.size W W' ∧ Boxed W' B 45 v ∧ RowAt W' sB 9 #[.string s]
theorem ColC.after {W : World} {B : Nat} {v : Value} {sB : Nat} {s : ByteArray} {A A' : World} (hb : Below A.heap.size A A') (h : ColC W B v sB s A) : ColC W B v sB s A' :=
  ⟨h.1.trans (hb.mono h.1.size), block_some hb h.2.1, h.2.2.below hb h.2.2.lt⟩
end

end Go.Proofs.YtacekpjkgkkekaaDoor
/-
  Operations behind a guard that is met, in a plain region.
-/
namespace Go.Proofs.YtacekpjkgkkekaaDoor
open Go.RowKit

section
variable {P : Program} {ops : Array Oper} {rest : List Oper} {o : Oper} {a : Act} {w : World} {Q : Exit → Act → World → Prop}

theorem wpList_want (hw : Region.wanted o (yielded ops a.tmps) = true) (h : ∀ K : Act → World → Prop, (∀ a w, wpList P ops Q rest a w → K a w) → o.wp P a w K Q) : wpList P ops Q (o :: rest) a w :=
  wpList_step fun K hK => by rw [if_pos hw]; exact h K hK

theorem wpList_wknown {v : Value} (hw : Region.wanted o (yielded ops a.tmps) = true) (hr : (execOp a.eval o).run P w = .ok (.value v) w)
    (h : wpList P ops Q rest (a.put o.dst v) w) : wpList P ops Q (o :: rest) a w :=
  wpList_want hw fun _ hK => by
    unfold Oper.wp
    simp only [hr, Oper.upon]
    exact hK _ _ h

/-- The same, its value said; a call that changes nothing. -/
theorem wpList_val (v : Value) (hw : Region.wanted o (yielded ops a.tmps) = true) (hr : (execOp a.eval o).run P w = .ok (.value v) w) (h : wpList P ops Q rest (a.put o.dst v) w) : wpList P ops Q (o :: rest) a w := wpList_wknown hw hr h
theorem wpList_call {f : Nat} {args : Array Value} (v : Value) (hw : Region.wanted o (yielded ops a.tmps) = true) (hc : Calls P f args w fun e w' => e = .returned v ∧ w' = w) (hr : (execOp a.eval o).run P w = .ok (.enter f args) w)
    (h : wpList P ops Q rest (a.put o.dst v) w) : wpList P ops Q (o :: rest) a w :=
  wpList_want hw fun _ hK => by
    unfold Oper.wp
    simp only [hr, Oper.upon]
    exact hc.mono fun e w' ⟨he, hw⟩ => by subst he; subst hw; exact hK _ _ h

theorem wpList_wload_row (hw : Region.wanted o (yielded ops a.tmps) = true) (ty : TypeId) (x : Operand) (ho : o.op = .load ty x) (g : Nat) (hx : a.eval x = .pointer (some ⟨g, 0, none⟩)) (t : TypeId) (cs : Array Value) (d : TypeDesc) (hg : RowAt w g t cs)
    (hu : P.underlying ty = some d) (hd : (match d with | .struct _ | .array _ _ => true | _ => false) = true) (hi : (P.info? ty).map (·.size) = some cs.size)
    (h : wpList P ops Q rest (a.put o.dst (.agg cs)) w) : wpList P ops Q (o :: rest) a w := by
  refine wpList_wknown hw ?_ h
  unfold execOp
  simp only [ho, hx, Instr.loadAt, Instr.sureAddr, Sem.run_bind, Sem.run_pure, Result.andThen_ok, run_loadVar_row w g t ty cs (0, 0) d hg hu hd hi]

theorem results_row_one {fn : Func} {p u : Tmp} {ty : TypeId} (h : fn.results = #[.cell p ty, .tmp u]) (tmps : Array Value) (w : World) (g : Nat) (t : TypeId) (cs : Array Value) (fr : Nat × Nat) (d : TypeDesc)
    (hp : tmps.getD p undef = .pointer (some ⟨g, 0, none⟩)) (hg : w.heap[g]? = some (.cells cs t fr))
    (hu : P.underlying ty = some d) (hd : (match d with | .struct _ | .array _ _ => true | _ => false) = true) (hi : (P.info? ty).map (·.size) = some cs.size) :
    (results fn tmps).run P w = .ok (.tuple #[.agg cs, tmps.getD u undef]) w := by
  have hp' : tmps[p]?.getD undef = .pointer (some ⟨g, 0, none⟩) := by simpa using hp
  simp [results, h, hp', asAddr, run_loadVar_row w g t ty cs fr d hg hu hd hi]
end

end Go.Proofs.YtacekpjkgkkekaaDoor
/-
  What a stream is gathered in: bounds, a row of one byte.
-/
namespace Go.Proofs.YtacekpjkgkkekaaDoor
open Go.RowKit Go.Shelf

theorem run_max0 (n y : Int) (h : (n < 0 ∧ y = 0) ∨ (¬ n < 0 ∧ y = n)) (w : World) : (Builtin.max_ #[3, 3] 3 #[.int .i64 n, .int .i64 0]).run Tryd.prog w = .ok (.int .i64 y) w := by
  rcases h with ⟨h, rfl⟩ | ⟨h, rfl⟩
  · go_simp
  · go_simp
theorem run_min4096 (n y : Int) (h : (n < 4096 ∧ y = n) ∨ (¬ n < 4096 ∧ y = 4096)) (w : World) : (Builtin.min_ #[3, 3] 3 #[.int .i64 n, .int .i64 4096]).run Tryd.prog w = .ok (.int .i64 y) w := by
  rcases h with ⟨h, rfl⟩ | ⟨h, rfl⟩
  · go_simp
    intro h2
    omega
  · go_simp
    intro h2
    omega

theorem wpList_max0 {ops : Array Oper} {rest : List Oper} {o : Oper} {a : Act} {w : World} {Q : Exit → Act → World → Prop} (hg : o.guard = none) (x : Operand) (ho : o.op = .call { callee := .builtin .max, args := #[x, .const (.int .i64 0)], argTypes := #[3, 3] }) (ht : o.type = 3)
    (n y : Int) (hx : a.eval x = .int .i64 n) (hy : (n < 0 ∧ y = 0) ∨ (¬ n < 0 ∧ y = n)) (h : wpList Tryd.prog ops Q rest (a.put o.dst (.int .i64 y)) w) : wpList Tryd.prog ops Q (o :: rest) a w := by
  have hc : a.eval (.const (.int .i64 0)) = .int .i64 0 := rfl
  refine wpList_val (.int .i64 y) (by unfold Region.wanted; rw [hg]) ?_ h
  simp [execOp, ho, ht, resolve, invoke, builtin, hx, hc, run_max0 n y hy, Result.andThen]
theorem wpList_min4096 {ops : Array Oper} {rest : List Oper} {o : Oper} {a : Act} {w : World} {Q : Exit → Act → World → Prop} (hg : o.guard = none) (x : Operand) (ho : o.op = .call { callee := .builtin .min, args := #[x, .const (.int .i64 4096)], argTypes := #[3, 3] }) (ht : o.type = 3)
    (n y : Int) (hx : a.eval x = .int .i64 n) (hy : (n < 4096 ∧ y = n) ∨ (¬ n < 4096 ∧ y = 4096)) (h : wpList Tryd.prog ops Q rest (a.put o.dst (.int .i64 y)) w) : wpList Tryd.prog ops Q (o :: rest) a w := by
  have hc : a.eval (.const (.int .i64 4096)) = .int .i64 4096 := rfl
  refine wpList_val (.int .i64 y) (by unfold Region.wanted; rw [hg]) ?_ h
  simp [execOp, ho, ht, resolve, invoke, builtin, hx, hc, run_min4096 n y hy, Result.andThen]

/-- A variable that holds a row just made. -/
theorem made_box {n₀ : Nat} {w1 : World} {v : Value} (h : w1.ownsRow n₀ 5 1 v 0 []) :
    Boxed (w1.alloc (.cells #[v] 45)) w1.heap.size 45 v ∧ (w1.alloc (.cells #[v] 45)).ownsRow n₀ 5 1 v 0 [] ∧ Below w1.heap.size w1 (w1.alloc (.cells #[v] 45)) :=
  ⟨Boxed.new w1 45 v, h.alloc _, (Below.refl _ _).alloc (Nat.le_refl _) _⟩

theorem new_byte (w : World) (v : Value) (t : TypeId) : ∀ j u, [v][j]? = some u → (w.alloc (.cells #[v] t)).cell? ((⟨w.heap.size, 0, none⟩ : Addr).add j) = some u := by
  intro j u hu
  match j, hu with
  | 0, hu => simp at hu; subst hu; simp [Addr.add]
theorem one_cell (b : Nat) : ∀ u ∈ [Value.int .u8 (b : Int)], u.oneCell' = true := by
  intro u hu
  simp at hu
  subst hu
  rfl
theorem bv_nat {b : Nat} (h : b < 256) : Value.int .u8 (b : Int) = bv (UInt8.ofNat b) := by
  unfold bv
  rw [UInt8.toNat_ofNat', Nat.mod_eq_of_lt h]

theorem wp_at_region3 {P : Program} {ops : Array Oper} {d : Bool} {Q : Exit → Act → World → Prop} {a : Act} {w : World} (h : Hid ((Code.region 3 ops d).wp P Q a w)) : (Code.region 3 ops d).wp P Q a w := h

end Go.Proofs.YtacekpjkgkkekaaDoor
/-
  A drawn region of a round, by the rely walk.
-/
namespace Go.Proofs.YtacekpjkgkkekaaDoor
open Go.RowKit

theorem wpIn_round_rely_tail {P : Program} {a0 : Act} (lr : Nat) {id : Nat} {Q : Exit → Act → World → Prop} {w : World} {l : List Oper} (n : Nat) (C : World → Prop) (rs : List Pred) (hd : l.toArray.all plainOp = true) (hQ : ¬ LetsOut Q) (hm : P.follows .mixedOrders = true) (hB : relyTailB l.toArray n = true) (hC : C w.drew) (hst : Steady rs)
    (h : ∀ R, Steady R → wpRely P l.toArray C R (fun a w => wpList P l.toArray Q (l.drop n) a w) (l.take n) rs [] a0) : (Code.region id l.toArray true).wpIn (Fence.wide.inRound lr) 0 P Q a0 w := by
  refine wpIn_region_draw fun t => opsIn_of lr hd hQ _ _ _ ?_
  simp only [Region.schedule, hm, Bool.true_or, if_true]
  refine wpAny_sound l.toArray.size t _ a0 _ ?_
  have inv0 : HeadInv .any l.toArray n (Array.replicate l.toArray.size false) :=
    ⟨by simp, fun j oj _ hl => (by rw [getD_replicate_false] at hl; cases hl), fun t _ ht => getD_in (by simpa using ht) (getD_replicate_false _ _)⟩
  have hn : n < l.toArray.size := by
    unfold relyTailB at hB
    simp only [Bool.and_eq_true, decide_eq_true_eq] at hB
    exact hB.1.1.1.2
  have hcount : ((Array.replicate l.toArray.size false).toList.take n).count false = n := by
    have : n < l.length := by simpa using hn
    simp
    omega
  have hno : ∀ k, k < l.toArray.size → (Array.replicate l.toArray.size false).getD k true = false := fun k hk => by
    rw [Array.getD_eq_getD_getElem?, Array.getElem?_replicate, if_pos hk]
    rfl
  have := wpAny_rely_tail (P := P) (ops := l.toArray) (C := C) (R := rs) (a0 := a0) (Q := Q) hB (by simpa using h rs hst) n (Array.replicate l.toArray.size false) (fun _ => undef) w.drew inv0 hcount hC
    (fun i hi hk => by rw [hno i (by omega)] at hk; cases hk)
  have he : actOf l.toArray a0 (Array.replicate l.toArray.size false) (fun _ => undef) l.toArray.size = a0 := by
    have := actOf_rest (ops := l.toArray) (a0 := a0) (vals := fun _ => undef) (n := 0) (m := l.toArray.size) (fun i _ hi => hno i hi) l.toArray.size (by omega)
    rw [Nat.zero_add] at this
    exact this
  rw [he, show n + (l.toArray.size - n) = l.toArray.size by omega] at this
  exact this

end Go.Proofs.YtacekpjkgkkekaaDoor
/-
  Contracts of ctr.At and ctr.Crypt.
-/
namespace Go.Proofs.YtacekpjkgkkekaaDoor
open Go.RowKit Go.Shelf

theorem wp_at_region4 {P : Program} {ops : Array Oper} {d : Bool} {Q : Exit → Act → World → Prop} {a : Act} {w : World} (h : Hid ((Code.region 4 ops d).wp P Q a w)) : (Code.region 4 ops d).wp P Q a w := h

/-- A text hidden from a place on. -/
def hideN (key : Nat → Nat) (nonce at_ : Nat) (s : ByteArray) : Nat → Nat := fun j => streamN key nonce (at_ + j) ^^^ byteS s j

theorem hide_byt {key : Nat → Nat} (hk : Byt key) (nonce at_ : Nat) (s : ByteArray) : Byt (hideN key nonce at_ s) := fun j => xor_byte (stream_byt hk nonce (at_ + j)) (byteS_lt s j)

set_option maxHeartbeats 2000000 in
set_option maxRecDepth 8000 in
theorem at_yes (key : Nat → Nat) (hk : Hid (Byt key)) (nonce : Nat) (hn : Hid (nonce < 18446744073709551616)) (at_ : Nat) (s : ByteArray) (hs : at_ + s.size ≤ 4096) (w : World) :
    Calls Tryd.prog 24 #[.agg (rowOf 16 (w8 key)), .int .u64 (nonce : Int), .int .i64 (at_ : Int), .string s] w fun e w' => e = .returned (.string (bs (listB s.size (hideN key nonce at_ s)))) ∧ Below w.heap.size w w' := by
  obtain ⟨i0, hi, hz0, hz1, hz2⟩ := info_parts Tryd.info5
  have hi' := Lib.hid hi; have hz0' := Lib.hid hz0; have hz1' := Lib.hid hz1; have hz2' := Lib.hid hz2
  clear hi hz0 hz1 hz2
  have t1 : ¬ ((at_ : Int) < 0) := by omega
  have t2 : ¬ ((4096 : Int) - (s.size : Int) < (at_ : Int)) := by omega
  have hss : (s.size : Int) ≤ 4096 := by omega
  refine (callsIn_wide (n := 1)).1 (callsIn_of_wp_marks Tryd.func24 rfl trivial (wpIn_wide.2 ?_) rfl)
  simp only [Tryd.ntmps24, List.size_toArray, List.length_cons, List.length_nil, Nat.reduceAdd, Nat.reduceSub, Array.replicate_succ, Array.replicate_zero, List.push_toArray, List.append_toArray, List.nil_append, List.cons_append]
  go_wp2_with (refine wpList_make_own _ rfl _ _ 45 rfl w.heap.size 5 i0 (.int .u8 0) 1 Tryd.underlying45 hi'.out hz0'.out hz1'.out .i64 .i64 (s.size : Int) s.size rfl rfl rfl (by rw [hz2'.out]; omega) (by unfold maxLen; omega) (by simp; omega) ?_; intro w1 hown hgrow; refine Hid.out ?_)
  unfold Hid
  rw [World.size_alloc, World.size_alloc] at hown
  have r1 : Hid (RowAt w1 w.heap.size 23 (rowOf 16 (w8 key))) := (hgrow.block _ (by simp; omega) (by simp)).trans ((RowAt.new w _ _).alloc _)
  have q1 : Hid (RowAt w1 (w.heap.size + 1) 9 #[.string s]) := (hgrow.block _ (by simp) (by simp)).trans (heap_new2 w _ _)
  have b1 : Below w.heap.size w w1 := (((Below.refl _ _).alloc (Nat.le_refl _) _).alloc (by simp) _).grown hgrow (by simp; omega) (fun _ e => by cases e)
  have MB := made_box hown
  have bx := Lib.hid MB.1
  have ow := Lib.hid MB.2.1
  have b2 := b1.trans (MB.2.2.mono b1.size)
  have r2 := Lib.hid (r1.out.below MB.2.2 r1.out.lt)
  have q2 := Lib.hid (q1.out.below MB.2.2 q1.out.lt)
  have hB : w.heap.size ≤ w1.heap.size := b1.size
  clear MB hown hgrow b1 r1 q1
  repeat (first | (with_reducible refine wp_at_region4 ?_) | go_values | go_skip | go_guarded | go_step | go_upon | go_back)
  unfold Hid
  generalize w1.alloc _ = w2 at *
  generalize hv : Value.slice (some { block := w.heap.size + 1 + 1, off := 0 }) 0 s.size = v at *
  replace hv := Lib.hid hv
  generalize w1.heap.size = B at *
  obtain ⟨z, hz⟩ : ∃ z, z = at_ + s.size := ⟨_, rfl⟩
  have ez : (at_ : Int) + (s.size : Int) = (z : Int) := by omega
  have hzl : z ≤ 5000 := by omega
  have hz' := Lib.hid hz
  clear hz
  have SM := Lib.hid (stream_make key nonce at_ z w2)
  have cs := cell_of_one q2.out
  go_wp2_with (refine wpList_load_row rfl 23 _ rfl w.heap.size rfl 23 (rowOf 16 (w8 key)) (0, 0) _ r2.out Tryd.underlying23 rfl (info_key _) ?_)
  refine SM.out.mono ?_
  rintro e w3 ⟨rfl, cp, hsz, hb3⟩
  have cp' := Lib.hid cp
  have hs3 : w2.heap.size + 3 < w3.heap.size := by omega
  have C0 : Hid (Col w.heap.size B w3.heap.size [(w.heap.size + 1, .cells #[.string s] 9 (0, 0))] w (listB 0 (hideN key nonce at_ s)) w3) :=
    Col.inner (m := w3.heap.size) (W := w2) ⟨⟨w.heap.size + 1 + 1, s.size, (by show Boxed w2 B 45 (.slice (some ⟨w.heap.size + 1 + 1, 0, none⟩) 0 s.size); rw [hv.out]; exact bx.out), (by show w2.ownsRow w.heap.size 5 1 (.slice (some ⟨w.heap.size + 1 + 1, 0, none⟩) 0 s.size) 0 []; rw [hv.out]; exact ow.out)⟩, fun j o h => by
      simp only [List.mem_singleton, Prod.mk.injEq] at h
      obtain ⟨rfl, rfl⟩ := h
      exact ⟨q2.out, rfl, rfl, Nat.lt_of_lt_of_le q2.out.lt hb3.size⟩, b2, rfl, hB, Nat.le_trans b2.size hb3.size⟩ (Inner.of_below hb3)
  clear SM cp bx ow r2 q2 b2 hsz hb3 cs
  generalize w2.heap.size = sB at *
  clear t1 t2 ez
  go_wp2
  refine wp_rangeFunc_all (w0 := w3) rfl (enters_of Tryd.func43 (by kernel_rfl) rfl) (stream_seq sB key hk nonce at_ z hn (by have := hz'.out; omega) hzl w3 hs3 cp'.out) (Below.refl _ _) (fun _ => rfl)
    (fun k W => Col w.heap.size B w3.heap.size [(w.heap.size + 1, .cells #[.string s] 9 (0, 0))] w (listB k (hideN key nonce at_ s)) W) (fun k A A' h hAA => h.inner hAA) (fun k A j o o' h h1 h2 h3 => h.put o' h1 h2 h3) C0.out
    (fun k => { tmps := #[.agg (rowOf 16 (w8 key)), .int .u64 (nonce : Int), .int .i64 (at_ : Int), .string s, .pointer (some ⟨w.heap.size, 0, none⟩), undef, undef, .pointer (some ⟨w.heap.size + 1, 0, none⟩), .string ⟨#[]⟩, .pointer (some ⟨B, 0, none⟩), .int .u8 ((streamN key nonce (at_ + k) : Nat) : Int), .int .i64 (at_ : Int), .bool false, .bool false, .int .i64 (at_ : Int), .string s, .int .i64 (s.size : Int), .int .i64 (4096 - (s.size : Int)), .bool false, .bool false, .string s, .int .i64 (s.size : Int), v, .agg (rowOf 16 (w8 key)), .int .u64 (nonce : Int), .int .i64 (at_ : Int), .int .i64 (at_ : Int), .string s, .int .i64 (s.size : Int), .int .i64 (z : Int), .func (.func 43) #[] (capV sB), .int .u8 ((streamN key nonce (at_ + k) : Nat) : Int), undef, undef, undef, undef, undef, undef, undef, undef, undef, undef, undef], defers := [] }) ?assign ?body ?done
  case assign =>
    intro l k W K hK
    refine wpIn_round_list l (by kernel_rfl) (fun ⟨_, _, h⟩ => h) ?_
    simp only [List.zip_toArray, List.zip_cons_cons, List.zip_nil_right, List.foldl_toArray, List.foldl_cons, List.foldl_nil, List.setIfInBounds_toArray, List.set_cons_succ, List.set_cons_zero]
    generalize streamN key nonce (at_ + k) = x at *
    go_wp2
    exact hK
  case body =>
    intro l k W hI hkm
    have hI' := Lib.hid hI.drew
    have hsz := hI'.out.size
    have hbyte := stream_byt hk.out nonce (at_ + k)
    have hks : k < s.size := by have := hz'.out; omega
    have hks' : (k : Int) < (s.size : Int) := by omega
    obtain ⟨g0, c0, hv0, hr0⟩ := hI'.out.row
    rw [listB_length] at hr0 hv0
    have q0 : RowAt W.drew (w.heap.size + 1) 9 #[.string s] := (hI'.out.keep _ _ (List.mem_singleton.2 rfl)).1
    have cs := cell_of_one q0
    have hc := hv0.cell
    have hv0' := Lib.hid hv0
    have hr0' := Lib.hid hr0
    have o0 : Hid (Outer W W.drew) := Outer.of_below (Below.refl _ _).drew
    clear hv0 hr0 hI
    obtain ⟨b, hb⟩ : ∃ b, (s[k]'hks).toNat = b := ⟨_, rfl⟩
    have hb8 : b < 256 := by rw [← hb]; exact UInt8.toNat_lt _
    have hbS : Hid (byteS s k = b) := by
      unfold Hid byteS
      rw [← hb, List.getD_eq_getElem?_getD, List.getElem?_eq_getElem (by rw [ba_size]; exact hks)]
      rfl
    replace hb := Lib.hid hb
    generalize hx : streamN key nonce (at_ + k) = x at *
    replace hx := Lib.hid hx
    have hxb := Lib.hid (u8_xor_nat x b hbyte hb8)
    have hc8 : x ^^^ b < 256 := xor_byte hbyte hb8
    refine wpIn_block ?_
    generalize hW1 : W.drew = W1 at *
    have HC : ColC W1 B (.slice (some ⟨g0, 0, none⟩) k c0) (w.heap.size + 1) s W.drew := by rw [hW1]; exact ⟨Below.refl _ _, hv0'.out, q0⟩
    have hW1' := Lib.hid hW1
    clear hW1
    clear cs hc q0
    refine wpIn_round_rely_tail l 8 (ColC W1 B (.slice (some ⟨g0, 0, none⟩) k c0) (w.heap.size + 1) s) [eqv (.slice (some ⟨g0, 0, none⟩) k c0), eqv (.int .u8 (x : Int)), eqv (.string s), eqv (.slice (some ⟨g0, 0, none⟩) k c0), eqv (.int .i64 (k : Int)), eqv (.int .u8 (b : Int)), eqv (.int .u8 ((x ^^^ b : Nat) : Int)), heldv 5 1 #[.int .u8 ((x ^^^ b : Nat) : Int)]] (by kernel_rfl) roundPostN_block (by kernel_rfl) (by kernel_rfl) HC
      (.cons (steady_eqv _) (.cons (steady_eqv _) (.cons (steady_eqv _) (.cons (steady_eqv _) (.cons (steady_eqv _) (.cons (steady_eqv _) (.cons (steady_eqv _) (.cons (steady_heldv _ _ _) .nil)))))))) ?_
    intro R hR
    simp only [List.take_succ_cons, List.take_zero, List.drop_succ_cons, List.drop_zero]
    refine wpRely_cons (fun w' hC hf => ?_) (fun v0 => ?_)
    · (repeat (first | (obtain ⟨rfl, hf⟩ := hf) | (obtain ⟨⟨q, rfl, hq⟩, hf⟩ := hf) | (obtain ⟨_, hf⟩ := hf)))
      have cc := hC.2.1.cell
      exact grows_eqv (by rfl) hC (by go_simp)
    simp only [Act.put, List.setIfInBounds_toArray, List.set_cons_succ, List.set_cons_zero, List.nil_append]
    refine wpRely_cons (fun w' hC hf => ?_) (fun v1 => ?_)
    · (repeat (first | (obtain ⟨rfl, hf⟩ := hf) | (obtain ⟨⟨q, rfl, hq⟩, hf⟩ := hf) | (obtain ⟨_, hf⟩ := hf)))
      exact grows_eqv (by rfl) hC (by go_simp)
    simp only [Act.put, List.setIfInBounds_toArray, List.set_cons_succ, List.set_cons_zero, List.nil_append, List.cons_append]
    refine wpRely_cons (fun w' hC hf => ?_) (fun v2 => ?_)
    · (repeat (first | (obtain ⟨rfl, hf⟩ := hf) | (obtain ⟨⟨q, rfl, hq⟩, hf⟩ := hf) | (obtain ⟨_, hf⟩ := hf)))
      have cs := cell_of_one hC.2.2
      exact grows_eqv (by rfl) hC (by go_simp)
    simp only [Act.put, List.setIfInBounds_toArray, List.set_cons_succ, List.set_cons_zero, List.nil_append, List.cons_append]
    refine wpRely_cons (fun w' hC hf => ?_) (fun v3 => ?_)
    · (repeat (first | (obtain ⟨rfl, hf⟩ := hf) | (obtain ⟨⟨q, rfl, hq⟩, hf⟩ := hf) | (obtain ⟨_, hf⟩ := hf)))
      have cc := hC.2.1.cell
      exact grows_eqv (by rfl) hC (by go_simp)
    simp only [Act.put, List.setIfInBounds_toArray, List.set_cons_succ, List.set_cons_zero, List.nil_append, List.cons_append]
    refine wpRely_cons (fun w' hC hf => ?_) (fun v4 => ?_)
    · (repeat (first | (obtain ⟨rfl, hf⟩ := hf) | (obtain ⟨⟨q, rfl, hq⟩, hf⟩ := hf) | (obtain ⟨_, hf⟩ := hf)))
      exact grows_eqv (by rfl) hC (by go_simp)
    simp only [Act.put, List.setIfInBounds_toArray, List.set_cons_succ, List.set_cons_zero, List.nil_append, List.cons_append]
    refine wpRely_cons (fun w' hC hf => ?_) (fun v5 => ?_)
    · (repeat (first | (obtain ⟨rfl, hf⟩ := hf) | (obtain ⟨⟨q, rfl, hq⟩, hf⟩ := hf) | (obtain ⟨_, hf⟩ := hf)))
      exact grows_eqv (by rfl) hC (by rw [← hb.out]; go_simp)
    simp only [Act.put, List.setIfInBounds_toArray, List.set_cons_succ, List.set_cons_zero, List.nil_append, List.cons_append]
    refine wpRely_cons (fun w' hC hf => ?_) (fun v6 => ?_)
    · (repeat (first | (obtain ⟨rfl, hf⟩ := hf) | (obtain ⟨⟨q, rfl, hq⟩, hf⟩ := hf) | (obtain ⟨_, hf⟩ := hf)))
      exact grows_eqv (by rfl) hC (by rw [← hxb.out]; go_simp)
    simp only [Act.put, List.setIfInBounds_toArray, List.set_cons_succ, List.set_cons_zero, List.nil_append, List.cons_append]
    refine wpRely_cons (fun w' hC hf => ?_) (fun v7 => ?_)
    · (repeat (first | (obtain ⟨rfl, hf⟩ := hf) | (obtain ⟨⟨q, rfl, hq⟩, hf⟩ := hf) | (obtain ⟨_, hf⟩ := hf)))
      exact grows_held hR (fun _ _ hb h => h.after hb) hC (by rfl) (by go_simp)
    simp only [Act.put, List.setIfInBounds_toArray, List.set_cons_succ, List.set_cons_zero, List.nil_append, List.cons_append]
    refine wpRely_nil fun w9 hC hf => ?_
    (repeat (first | (obtain ⟨rfl, hf⟩ := hf) | (obtain ⟨⟨q, rfl, hq⟩, hf⟩ := hf) | (obtain ⟨_, hf⟩ := hf)))
    have b9 := hC.1
    have hI9 := Lib.hid (hI'.out.inner (Inner.of_below b9))
    have hr9 := Lib.hid (own_same hr0'.out fun g cur hg => block_some b9 hg)
    have hv9 := Lib.hid hC.2.1
    have hsz9 : w.heap.size ≤ w9.heap.size := hI9.out.size
    have o9 : Hid (Outer W w9) := (Outer.of_below (Below.refl _ _).drew).trans (by rw [hW1'.out]; exact Outer.of_below b9)
    have q9 : Hid (∀ j u, [Value.int .u8 ((x ^^^ b : Nat) : Int)][j]? = some u → w9.cell? ((⟨q, 0, none⟩ : Addr).add j) = some u) := fun j u hu => by
      match j, hu with
      | 0, hu => simp only [List.getElem?_cons_zero, Option.some.injEq] at hu; subst hu; exact cell_of_one hq
    have e1 : Hid (listB k (hideN key nonce at_ s) ++ [UInt8.ofNat (x ^^^ b)] = listB (k + 1) (hideN key nonce at_ s)) := by unfold Hid; rw [listB_succ]; unfold hideN; rw [hx.out, hbS.out]
    clear hC hq hI' b9 hv0' hr0' HC o0
    generalize x ^^^ b = c at *
    go_wp2_with (at_builtin; refine wpList_append_own _ rfl _ _ 45 rfl w.heap.size 5 i0 (.int .u8 0) 1 1 Tryd.underlying45 hi'.out hz0'.out hz1'.out hz2'.out rfl (by decide) _ _ _ rfl hr9.out ⟨q, 0, none⟩ 1 1 [.int .u8 (c : Int)] rfl rfl q9.out (one_cell c) (by unfold maxLen; omega) (by omega) hsz9 ?_; intro v1 w4 hown hgrow _; refine Hid.out ?_)
    unfold Hid
    have hown' : w4.ownsRow w.heap.size 5 1 v1 ((listB k (hideN key nonce at_ s)).length + 1) ((listB k (hideN key nonce at_ s)).map bv ++ [bv (UInt8.ofNat c)]) := by rw [listB_length, ← bv_nat hc8]; exact hown
    have AP := hI9.out.append0 (v := .slice (some ⟨g0, 0, none⟩) k c0) hv9.out (by rw [listB_length]; exact hr9.out) hown' hgrow
    obtain ⟨g4, c4, rfl⟩ := ownsRow_succ hown
    have hc4 := AP.2.2.cell
    have hf4 := AP.2.2.frozen
    have AP1 := Lib.hid AP
    clear hown hown' hgrow AP
    go_wp2
    refine ⟨rfl, ?_, o9.out.trans AP1.out.2.1⟩
    have := AP1.out.1
    rw [e1.out] at this
    exact this
  case done =>
    intro D W hD hI hK
    rw [show z - at_ = s.size by have := hz'.out; omega] at hI
    obtain ⟨g0, c0, hv0, hr0⟩ := hI.row
    rw [listB_length] at hv0 hr0
    have hc := hv0.cell
    have hcv := own_string (P := Tryd.prog) (src := 45) (dst := 9) (listB s.size (hideN key nonce at_ s)) Tryd.underlying45 Tryd.underlying5 Tryd.underlying9 hr0
    have hK' := Lib.hid hK
    have hlow := hI.low
    have hle : w.heap.size ≤ D := Nat.le_trans hI.hm hD
    clear hI hK hv0 hr0
    go_wp2
    refine ⟨by simp, .inl ⟨_, _, rfl, run_takeDeferred hK'.out, ?_⟩⟩
    exact ⟨_, results_tmp rfl _ _ _, rfl, hlow.trans ⟨rfl, rfl, rfl, by rw [World.putObj_size]; exact Nat.le_refl _, fun k hk => World.putObj_heap_other (by omega)⟩⟩

set_option maxHeartbeats 1000000 in
set_option maxRecDepth 8000 in
theorem at_no (key : Nat → Nat) (nonce : Nat) (at_ : Int) (s : ByteArray) (hs : s.size ≤ 9223372036854775807) (h : at_ < 0 ∨ 4096 - (s.size : Int) < at_) (w : World) :
    Calls Tryd.prog 24 #[.agg (rowOf 16 (w8 key)), .int .u64 (nonce : Int), .int .i64 at_, .string s] w fun e w' => e = .returned (.string (bs [])) ∧ Below w.heap.size w w' := by
  by_cases h1 : at_ < 0
  · go_enter Tryd.func24, Tryd.ntmps24
    go_wp2
    go_ret
    exact ⟨rfl, ((Below.refl _ _).alloc (Nat.le_refl _) _).alloc (by simp) _⟩
  · have h2 : 4096 - (s.size : Int) < at_ := by omega
    have h3 : (s.size : Int) ≤ 9223372036854775807 := by omega
    clear h hs
    go_enter Tryd.func24, Tryd.ntmps24
    go_wp2
    go_ret
    exact ⟨rfl, ((Below.refl _ _).alloc (Nat.le_refl _) _).alloc (by simp) _⟩

theorem crypt_yes (key : Nat → Nat) (hk : Hid (Byt key)) (nonce : Nat) (hn : Hid (nonce < 18446744073709551616)) (s : ByteArray) (hs : s.size ≤ 4096) (w : World) :
    Calls Tryd.prog 12 #[.agg (rowOf 16 (w8 key)), .int .u64 (nonce : Int), .string s] w fun e w' => e = .returned (.string (bs (listB s.size (hideN key nonce 0 s)))) ∧ Below w.heap.size w w' := by
  have A := Lib.hid (at_yes key hk nonce hn 0 s (by omega))
  rw [show ((0 : Nat) : Int) = 0 from rfl] at A
  have r0 : Hid (RowAt (w.alloc (.cells (rowOf 16 (w8 key)) 23)) w.heap.size 23 (rowOf 16 (w8 key))) := RowAt.new _ _ _
  have b0 : Below w.heap.size w (w.alloc (.cells (rowOf 16 (w8 key)) 23)) := (Below.refl _ _).alloc (Nat.le_refl _) _
  go_enter Tryd.func12, Tryd.ntmps12
  go_wp2_with (refine wpList_load_row rfl 23 _ rfl w.heap.size rfl 23 (rowOf 16 (w8 key)) (0, 0) _ r0.out Tryd.underlying23 rfl (info_key _) ?_)
  refine (A.out _).mono ?_
  rintro e w1 ⟨rfl, hb1⟩
  replace b0 := b0.trans (hb1.mono b0.size)
  clear hb1 A r0
  go_wp2
  go_ret
  exact ⟨rfl, b0⟩

theorem crypt_no (key : Nat → Nat) (nonce : Nat) (s : ByteArray) (hs : s.size ≤ 9223372036854775807) (h : 4096 < s.size) (w : World) :
    Calls Tryd.prog 12 #[.agg (rowOf 16 (w8 key)), .int .u64 (nonce : Int), .string s] w fun e w' => e = .returned (.string (bs [])) ∧ Below w.heap.size w w' := by
  have A := Lib.hid (at_no key nonce 0 s hs (by omega))
  have r0 : Hid (RowAt (w.alloc (.cells (rowOf 16 (w8 key)) 23)) w.heap.size 23 (rowOf 16 (w8 key))) := RowAt.new _ _ _
  have b0 : Below w.heap.size w (w.alloc (.cells (rowOf 16 (w8 key)) 23)) := (Below.refl _ _).alloc (Nat.le_refl _) _
  go_enter Tryd.func12, Tryd.ntmps12
  go_wp2_with (refine wpList_load_row rfl 23 _ rfl w.heap.size rfl 23 (rowOf 16 (w8 key)) (0, 0) _ r0.out Tryd.underlying23 rfl (info_key _) ?_)
  refine (A.out _).mono ?_
  rintro e w1 ⟨rfl, hb1⟩
  replace b0 := b0.trans (hb1.mono b0.size)
  clear hb1 A r0
  go_wp2
  go_ret
  exact ⟨rfl, b0⟩

end Go.Proofs.YtacekpjkgkkekaaDoor
/-
  Hidden twice is not hidden; texts of bytes.
-/
namespace Go.Proofs.YtacekpjkgkkekaaDoor
open Go.RowKit

/-- The key of the example. -/
def oneK : Nat → Nat := fun j => if j = 0 then 1 else 0
theorem oneK_byt : Byt oneK := fun j => by unfold oneK; split <;> decide
theorem oneK_row : rowOf 16 (w8 oneK) = #[.int .u8 1, .int .u8 0, .int .u8 0, .int .u8 0, .int .u8 0, .int .u8 0, .int .u8 0, .int .u8 0, .int .u8 0, .int .u8 0, .int .u8 0, .int .u8 0, .int .u8 0, .int .u8 0, .int .u8 0, .int .u8 0] := rfl

theorem xor_again (a b : Nat) : a ^^^ (a ^^^ b) = b := by rw [← Nat.xor_assoc, Nat.xor_self, Nat.zero_xor]

theorem byteS_bs (n : Nat) (f : Nat → Nat) (hf : Byt f) (j : Nat) (h : j < n) : byteS (bs (listB n f)) j = f j := by
  unfold byteS
  rw [listB_bs, List.getD_eq_getElem?_getD, listB_get _ _ _ h]
  show (UInt8.ofNat (f j)).toNat = f j
  rw [UInt8.toNat_ofNat', Nat.mod_eq_of_lt (hf j)]

theorem bs_listB_size (n : Nat) (f : Nat → Nat) : (bs (listB n f)).size = n := by rw [bs_size, listB_length]

theorem bs_byteS (s : ByteArray) : bs (listB s.size (byteS s)) = s := by
  rw [← ba_size, listB_byteS, bs_data]

/-- Hidden twice is not hidden. -/
theorem hide_twice {key : Nat → Nat} (hk : Byt key) (nonce at_ : Nat) (s : ByteArray) : bs (listB s.size (hideN key nonce at_ (bs (listB s.size (hideN key nonce at_ s))))) = s := by
  have e : listB s.size (hideN key nonce at_ (bs (listB s.size (hideN key nonce at_ s)))) = listB s.size (byteS s) := listB_congr fun j hj => by
    show streamN key nonce (at_ + j) ^^^ byteS (bs (listB s.size (hideN key nonce at_ s))) j = byteS s j
    rw [byteS_bs _ _ (hide_byt hk nonce at_ s) j hj]
    exact xor_again _ _
  rw [e, bs_byteS]

def abcS : ByteArray := ⟨#[97, 98, 99]⟩

theorem hideN_at (key : Nat → Nat) (nonce at_ : Nat) (s : ByteArray) (j : Nat) : hideN key nonce at_ s j = streamN key nonce (at_ + j) ^^^ byteS s j := rfl

end Go.Proofs.YtacekpjkgkkekaaDoor
/-
  Contracts: firstWords, the document's Wide, Narrow, k.
-/
namespace Go.Proofs.YtacekpjkgkkekaaDoor
open Go.RowKit

theorem first_row : rowOf 8 (w32 firstN) = #[.int .u32 1779033703, .int .u32 3144134277, .int .u32 1013904242, .int .u32 2773480762, .int .u32 1359893119, .int .u32 2600822924, .int .u32 528734635, .int .u32 1541459225] := rfl
theorem first_row64 : rowOf 8 (w64 firstN) = #[.int .u64 1779033703, .int .u64 3144134277, .int .u64 1013904242, .int .u64 2773480762, .int .u64 1359893119, .int .u64 2600822924, .int .u64 528734635, .int .u64 1541459225] := rfl

theorem row_new0 (w : World) (t : TypeId) (cs : Array Value) : RowAt (w.alloc (.cells cs t (0, 0))) w.heap.size t cs := RowAt.new w t cs

set_option maxHeartbeats 400000 in
theorem firstWords_any (w : World) :
    Calls Tryd.prog 47 #[] w fun e w' => e = .returned (.agg (rowOf 8 (w32 firstN))) ∧ Below w.heap.size w w' := by
  go_enter Tryd.func47, Tryd.ntmps47
  go_wp2_with (refine wpList_store_row rfl 80 _ _ rfl w.heap.size (rowOf 8 (w32 firstN)) rfl rfl 80 _ (row_new0 w _ _) (info_w8 _) (by rw [rowOf_size]; rfl) (rowOf_cells32 _ _) ?_)
  refine bodyPost_ret (v := .agg (rowOf 8 (w32 firstN))) ?_ rfl ⟨rfl, below_setRow' ((Below.refl _ _).alloc (Nat.le_refl _) _) (Nat.le_refl _) _⟩
  exact results_cell_row Tryd.results47 _ _ w.heap.size 80 (rowOf 8 (w32 firstN)) (0, 0) _ rfl ((row_new0 w _ _).setRow _) Tryd.underlying80 rfl (info_w8 _)

set_option maxHeartbeats 400000 in
set_option maxRecDepth 4000 in
theorem refK_any (w : World) :
    Calls Tryd.prog 70 #[] w fun e w' => e = .returned (.agg (rowOf 64 (w64 kN))) ∧ Below w.heap.size w w' := by
  go_enter Tryd.func70, Tryd.ntmps70
  go_wp2_with (refine wpList_store_row rfl 116 _ _ rfl w.heap.size (rowOf 64 (w64 kN)) rfl rfl 116 _ (row_new0 w _ _) (info_d64 _) (by rw [rowOf_size]; rfl) (rowOf_cells64 _ _) ?_)
  refine bodyPost_ret (v := .agg (rowOf 64 (w64 kN))) ?_ rfl ⟨rfl, below_setRow' ((Below.refl _ _).alloc (Nat.le_refl _) _) (Nat.le_refl _) _⟩
  exact results_cell_row Tryd.results70 _ _ w.heap.size 116 (rowOf 64 (w64 kN)) (0, 0) _ rfl ((row_new0 w _ _).setRow _) Tryd.underlying116 rfl (info_d64 _)

end Go.Proofs.YtacekpjkgkkekaaDoor
/-
  Contract: the document's Step.
-/
namespace Go.Proofs.YtacekpjkgkkekaaDoor
open Go.RowKit

/-- The bytes of a text. -/
def byteL (l : List UInt8) : Nat → Nat := fun j => (l.getD j 0).toNat

theorem byteL_bytes (l : List UInt8) : Bytes (byteL l) := fun j => (l.getD j 0).toNat_lt

theorem byteL_get (s : ByteArray) (j : Nat) (h : j < s.size) : ((s[j]'h).toNat : Int) = ((byteL s.data.toList j : Nat) : Int) := by
  unfold byteL
  have h' : j < s.data.toList.length := by simpa using h
  rw [List.getD_eq_getElem?_getD, List.getElem?_eq_getElem h']
  rfl

/-- The words of the first j bytes. -/
def wordsP (B : Nat → Nat) (j : Nat) : Nat → Nat := fun k => wordP B k (min 4 (j - 4 * k))

theorem wordsP_zero (B : Nat → Nat) : wordsP B 0 = zeroN := by
  funext k
  unfold wordsP
  rw [show 0 - 4 * k = 0 by omega]
  rfl

theorem wordsP_at (B : Nat → Nat) (j : Nat) : wordsP B j (j / 4) = wordP B (j / 4) (j % 4) := by
  unfold wordsP
  rw [show min 4 (j - 4 * (j / 4)) = j % 4 by omega]

theorem wordsP_step (B : Nat → Nat) (j : Nat) : upd (wordsP B j) (j / 4) (wordP B (j / 4) (j % 4) * 256 + B j) = wordsP B (j + 1) := by
  funext k
  unfold upd wordsP
  by_cases h : k = j / 4
  · subst h
    rw [if_pos rfl, show min 4 (j + 1 - 4 * (j / 4)) = j % 4 + 1 by omega, wordP, show 4 * (j / 4) + j % 4 = j by omega]
  · rw [if_neg h]
    by_cases h2 : k < j / 4
    · rw [show min 4 (j - 4 * k) = 4 by omega, show min 4 (j + 1 - 4 * k) = 4 by omega]
    · rw [show min 4 (j - 4 * k) = 0 by omega, show min 4 (j + 1 - 4 * k) = 0 by omega]

theorem wordsP_all (B : Nat → Nat) : wordsP B 64 = wordsN B := by
  funext k
  unfold wordsP wordsN
  by_cases h : k < 16
  · rw [if_pos h, show min 4 (64 - 4 * k) = 4 by omega, wordP_four]
  · rw [if_neg h, show min 4 (64 - 4 * k) = 0 by omega]
    rfl

theorem wrapU (n : Int) (h0 : 0 ≤ n) (h1 : n < 18446744073709551616) : IntKind.u64.wrap n = n := by
  simp [IntKind.wrap, IntKind.bits, IntKind.signed]
  omega

theorem ref_word (y b : Nat) (hy : y < 16777216) (hb : b < 256) (c : Int) (hc : c = (b : Int)) : IntKind.u64.wrap ((y : Int) * 256 + IntKind.u64.wrap c) = ((y * 256 + b : Nat) : Int) := by
  subst hc
  rw [wrapU (b : Int) (by omega) (by omega), wrapU _ (by omega) (by omega)]
  omega

theorem ref_next (x y z v : Nat) (hx : x < 4294967296) (hy : y < 4294967296) (hz : z < 4294967296) (hv : v < 4294967296) :
    (IntKind.u64.wrap (IntKind.u64.wrap (IntKind.u64.wrap ((z : Int) + bits .xor .u64 (bits .xor .u64 ((rotr x 7 : Nat) : Int) ((rotr x 18 : Nat) : Int)) ((x : Int) / 8)) + (v : Int)) +
      bits .xor .u64 (bits .xor .u64 ((rotr y 17 : Nat) : Int) ((rotr y 19 : Nat) : Int)) ((y : Int) / 1024))).tmod 4294967296 =
      (((z + (rotr x 7 ^^^ rotr x 18 ^^^ x / 8) + v + (rotr y 17 ^^^ rotr y 19 ^^^ y / 1024)) % 4294967296 : Nat) : Int) := by
  have a1 := rotr_lt x 7 hx (by decide)
  have a2 := rotr_lt x 18 hx (by decide)
  have a3 := rotr_lt y 17 hy (by decide)
  have a4 := rotr_lt y 19 hy (by decide)
  have b1 := xor_lt _ _ a1 a2
  have b2 := xor_lt _ _ a3 a4
  have c1 := xor_lt _ (x / 8) b1 (by omega)
  have c2 := xor_lt _ (y / 1024) b2 (by omega)
  rw [show (x : Int) / 8 = ((x / 8 : Nat) : Int) by omega, show (y : Int) / 1024 = ((y / 1024 : Nat) : Int) by omega]
  rw [bits_xor_u64_nat _ _ (by omega) (by omega), bits_xor_u64_nat _ _ (by omega) (by omega), bits_xor_u64_nat (rotr y 17) _ (by omega) (by omega), bits_xor_u64_nat _ _ (by omega) (by omega)]
  generalize rotr x 7 ^^^ rotr x 18 ^^^ x / 8 = A at *
  generalize rotr y 17 ^^^ rotr y 19 ^^^ y / 1024 = C at *
  rw [wrapU ((z : Int) + (A : Int)) (by omega) (by omega), wrapU ((z : Int) + (A : Int) + (v : Int)) (by omega) (by omega), wrapU _ (by omega) (by omega), Int.tmod_eq_emod_of_nonneg (by omega)]
  omega

theorem ref_t (s : Nat → Nat) (hs : Words s) (k v : Nat) (hk : k < 4294967296) (hv : v < 4294967296) :
    (IntKind.u64.wrap (IntKind.u64.wrap (IntKind.u64.wrap (IntKind.u64.wrap (((s 7 : Nat) : Int) + bits .xor .u64 (bits .xor .u64 ((rotr (s 4) 6 : Nat) : Int) ((rotr (s 4) 11 : Nat) : Int)) ((rotr (s 4) 25 : Nat) : Int)) +
      bits .xor .u64 (bits .and .u64 ((s 4 : Nat) : Int) ((s 5 : Nat) : Int)) (bits .and .u64 (4294967295 - ((s 4 : Nat) : Int)) ((s 6 : Nat) : Int))) + (k : Int)) + (v : Int))).tmod 4294967296 = ((tN s k v : Nat) : Int) := by
  have l4 := hs 4
  have l5 := hs 5
  have l6 := hs 6
  have l7 := hs 7
  have a1 := rotr_lt (s 4) 6 l4 (by decide)
  have a2 := rotr_lt (s 4) 11 l4 (by decide)
  have a3 := rotr_lt (s 4) 25 l4 (by decide)
  have b1 := xor_lt _ _ a1 a2
  have b2 := xor_lt _ _ b1 a3
  have c1 := and_lt (s 4) _ l5
  have c2 := and_lt (4294967295 - s 4) _ l6
  have c3 := xor_lt _ _ c1 c2
  unfold tN
  rw [show (4294967295 : Int) - ((s 4 : Nat) : Int) = ((4294967295 - s 4 : Nat) : Int) by omega]
  rw [bits_xor_u64_nat (rotr (s 4) 6) _ (by omega) (by omega), bits_xor_u64_nat _ _ (by omega) (by omega), bits_and_u64_nat (s 4) _ (by omega) (by omega), bits_and_u64_nat _ _ (by omega) (by omega), bits_xor_u64_nat _ _ (by omega) (by omega)]
  generalize rotr (s 4) 6 ^^^ rotr (s 4) 11 ^^^ rotr (s 4) 25 = A at *
  generalize (s 4 &&& s 5) ^^^ ((4294967295 - s 4) &&& s 6) = C at *
  rw [wrapU (((s 7 : Nat) : Int) + (A : Int)) (by omega) (by omega), wrapU (((s 7 : Nat) : Int) + (A : Int) + (C : Int)) (by omega) (by omega), wrapU (((s 7 : Nat) : Int) + (A : Int) + (C : Int) + (k : Int)) (by omega) (by omega), wrapU _ (by omega) (by omega), Int.tmod_eq_emod_of_nonneg (by omega)]
  omega

theorem ref_u (s : Nat → Nat) (hs : Words s) :
    (IntKind.u64.wrap (bits .xor .u64 (bits .xor .u64 ((rotr (s 0) 2 : Nat) : Int) ((rotr (s 0) 13 : Nat) : Int)) ((rotr (s 0) 22 : Nat) : Int) +
      bits .xor .u64 (bits .xor .u64 (bits .and .u64 ((s 0 : Nat) : Int) ((s 1 : Nat) : Int)) (bits .and .u64 ((s 0 : Nat) : Int) ((s 2 : Nat) : Int))) (bits .and .u64 ((s 1 : Nat) : Int) ((s 2 : Nat) : Int)))).tmod 4294967296 = ((uN s : Nat) : Int) := by
  have l0 := hs 0
  have l1 := hs 1
  have l2 := hs 2
  have a1 := rotr_lt (s 0) 2 l0 (by decide)
  have a2 := rotr_lt (s 0) 13 l0 (by decide)
  have a3 := rotr_lt (s 0) 22 l0 (by decide)
  have b1 := xor_lt _ _ a1 a2
  have b2 := xor_lt _ _ b1 a3
  have c1 := and_lt (s 0) _ l1
  have c2 := and_lt (s 0) _ l2
  have c3 := and_lt (s 1) _ l2
  have c4 := xor_lt _ _ c1 c2
  have c5 := xor_lt _ _ c4 c3
  unfold uN
  rw [bits_xor_u64_nat (rotr (s 0) 2) _ (by omega) (by omega), bits_xor_u64_nat _ _ (by omega) (by omega), bits_and_u64_nat (s 0) (s 1) (by omega) (by omega), bits_and_u64_nat (s 0) (s 2) (by omega) (by omega), bits_and_u64_nat (s 1) (s 2) (by omega) (by omega),
    bits_xor_u64_nat (s 0 &&& s 1) _ (by omega) (by omega), bits_xor_u64_nat _ _ (by omega) (by omega)]
  generalize rotr (s 0) 2 ^^^ rotr (s 0) 13 ^^^ rotr (s 0) 22 = A at *
  generalize (s 0 &&& s 1) ^^^ (s 0 &&& s 2) ^^^ (s 1 &&& s 2) = C at *
  rw [wrapU _ (by omega) (by omega), Int.tmod_eq_emod_of_nonneg (by omega)]
  omega

theorem mix_raw64 (s : Nat → Nat) (t u : Nat) : (#[.int .u64 (((t : Int) + (u : Int)) % 4294967296), .int .u64 ((s 0 : Nat) : Int), .int .u64 ((s 1 : Nat) : Int), .int .u64 ((s 2 : Nat) : Int), .int .u64 ((((s 3 : Nat) : Int) + (t : Int)) % 4294967296), .int .u64 ((s 4 : Nat) : Int), .int .u64 ((s 5 : Nat) : Int), .int .u64 ((s 6 : Nat) : Int)] : Array Value) = rowOf 8 (w64 (mixN s t u)) := by
  have e1 : ((t : Int) + (u : Int)) % 4294967296 = (((t + u) % 4294967296 : Nat) : Int) := by omega
  have e2 : (((s 3 : Nat) : Int) + (t : Int)) % 4294967296 = (((s 3 + t) % 4294967296 : Nat) : Int) := by omega
  rw [e1, e2]
  rfl

theorem three_rows (w : World) (c1 c2 c3 ds : Array Value) (t1 t2 t3 : TypeId) :
    RowAt ((((w.alloc (.cells c1 t1)).alloc (.cells c2 t2)).alloc (.cells c3 t3)).setRow (w.heap.size + 1 + 1) ds) w.heap.size t1 c1 ∧
    RowAt ((((w.alloc (.cells c1 t1)).alloc (.cells c2 t2)).alloc (.cells c3 t3)).setRow (w.heap.size + 1 + 1) ds) (w.heap.size + 1) t2 c2 ∧
    RowAt ((((w.alloc (.cells c1 t1)).alloc (.cells c2 t2)).alloc (.cells c3 t3)).setRow (w.heap.size + 1 + 1) ds) (w.heap.size + 1 + 1) t3 ds ∧
    Below w.heap.size w ((((w.alloc (.cells c1 t1)).alloc (.cells c2 t2)).alloc (.cells c3 t3)).setRow (w.heap.size + 1 + 1) ds) :=
  ⟨(((RowAt.new _ _ _).alloc _).alloc _).setRowOther _ _ (by omega), (row_new1 w _ _ _ _).setRowOther _ _ (by omega), (row_new2 w _ _ _ _).setRow _,
    below_setRow' ((((Below.refl _ _).alloc (Nat.le_refl _) _).alloc (by simp) _).alloc (by simp; omega) _) (by omega) _⟩

set_option maxHeartbeats 400000 in
set_option maxRecDepth 8000 in
theorem refStep_other (H : Nat → Nat) (s : ByteArray) (hs : s.size ≠ 64) (w : World) :
    Calls Tryd.prog 57 #[.agg (rowOf 8 (w64 H)), .string s] w fun e w' => e = .returned (.agg (rowOf 8 (w64 H))) ∧ Below w.heap.size w w' := by
  have d : ((s.size : Int) == 64) = false := by simp; omega
  have a0 : Hid (RowAt ((w.alloc (.cells (rowOf 8 (w64 H)) 91)).alloc (.cells (rowOf 8 (w64 zeroN)) 91)) w.heap.size 91 (rowOf 8 (w64 H))) := (RowAt.new _ _ _).alloc _
  have a1 : Hid (RowAt ((w.alloc (.cells (rowOf 8 (w64 H)) 91)).alloc (.cells (rowOf 8 (w64 zeroN)) 91)) (w.heap.size + 1) 91 (rowOf 8 (w64 zeroN))) := by
    have h := RowAt.new (w.alloc (.cells (rowOf 8 (w64 H)) 91)) 91 (rowOf 8 (w64 zeroN))
    rw [World.size_alloc] at h
    exact h
  have b0 : Below w.heap.size w ((w.alloc (.cells (rowOf 8 (w64 H)) 91)).alloc (.cells (rowOf 8 (w64 zeroN)) 91)) := ((Below.refl _ _).alloc (Nat.le_refl _) _).alloc (by simp) _
  rw [z64_8] at a0 a1 b0
  go_enter Tryd.func57, Tryd.ntmps57
  go_wp2_with (first | (refine wpList_load_row rfl 91 _ rfl w.heap.size rfl 91 _ (0, 0) _ a0.out Tryd.underlying91 rfl (info_d8 _) ?_) | (refine wpList_store_row rfl 91 _ _ rfl (w.heap.size + 1) (rowOf 8 (w64 H)) rfl rfl 91 _ a1.out (info_d8 _) (by rw [rowOf_size]; rfl) (rowOf_cells64 _ _) ?_))
  refine bodyPost_ret (v := .agg (rowOf 8 (w64 H))) ?_ rfl ⟨rfl, below_setRow' b0 (by omega) _⟩
  exact results_cell_row Tryd.results57 _ _ (w.heap.size + 1) 91 (rowOf 8 (w64 H)) (0, 0) _ rfl (a1.out.setRow _) Tryd.underlying91 rfl (info_d8 _)

set_option maxHeartbeats 1000000 in
set_option maxRecDepth 8000 in
theorem refStep_yes (H : Nat → Nat) (hh : Hid (Words H)) (s : ByteArray) (hs : s.size = 64) (w : World) :
    Calls Tryd.prog 57 #[.agg (rowOf 8 (w64 H)), .string s] w fun e w' => e = .returned (.agg (rowOf 8 (w64 (stepN H (byteL s.data.toList))))) ∧ Below w.heap.size w w' := by
  obtain ⟨B, eB⟩ : ∃ B, byteL s.data.toList = B := ⟨_, rfl⟩
  have hB : Hid (Bytes B) := by rw [← eB]; exact byteL_bytes _
  have hg : Hid (∀ j (h : j < s.size), ((s[j]'h).toNat : Int) = (B j : Int)) := by rw [← eB]; exact byteL_get s
  rw [eB]
  clear eB
  have E : stepN H B = finN (spreadN B 48) H := rfl
  rw [E]
  clear E
  go_enter Tryd.func57, Tryd.ntmps57
  go_wp2_with (refine wpList_store_row rfl 116 _ _ rfl (w.heap.size + 1 + 1) (rowOf 64 (w64 zeroN)) rfl rfl 116 _ (row_new2 _ _ _ _ _) (info_d64 _) (by rw [rowOf_size]; rfl) (rowOf_cells64 _ _) ?_; rw [← z64_64, ← z64_8]; have tr := Lib.hid (three_rows w (rowOf 8 (w64 H)) (rowOf 8 (w64 zeroN)) (rowOf 64 (w64 zeroN)) (rowOf 64 (w64 zeroN)) 91 91 116); generalize World.setRow _ _ _ = w1 at *)
  have r0 := Lib.hid tr.out.1
  have r1 := Lib.hid tr.out.2.1
  have r2 := Lib.hid tr.out.2.2.1
  have b0 := tr.out.2.2.2
  clear tr
  obtain ⟨p, hp⟩ : ∃ p, w.heap.size + 1 + 1 = p := ⟨_, rfl⟩
  rw [hp] at r2
  rw [hp]
  have hp2 : w.heap.size + 2 ≤ p := by omega
  clear hp
  go_loopw [6] (fun i wr => ∃ j : Nat, j ≤ 64 ∧ i = .int .i64 j ∧ Hid (RowAt wr p 116 (rowOf 64 (w64 (wordsP B j)))) ∧ Below p w1 wr)
    (fun i _ => 64 - (intOf i).toNat)
  case atStart => exact ⟨0, by omega, rfl, by rw [wordsP_zero]; exact r2, Below.refl _ _⟩
  case round =>
    obtain ⟨j, hj, rfl, hr, hbl⟩ := hrel
    by_cases hlt : j < 64
    · go_wp2
      refine wp_region_still_tail 13 (by kernel_rfl) (by kernel_rfl) ?_
      change wpStill _ _ wr.drew (fun a' => wpList _ _ _ _ a' wr.drew) _ _
      replace hr : Hid (RowAt wr.drew p 116 (rowOf 64 (w64 (wordsP B j)))) := hr
      replace hbl : Below p w1 wr.drew := hbl.drew
      generalize wr.drew = w5 at *
      have c1 := hr.out.cell (j / 4) (by omega)
      have f1 := hr.out.free (j / 4)
      unfold w64 at c1
      rw [wordsP_at] at c1
      have l1 := wordP_lt3 hB.out (j / 4) (j % 4) (Nat.mod_lt _ (by decide))
      have l2 := hB.out j
      have js : j < s.size := by omega
      have js' : (j : Int) < (s.size : Int) := by omega
      have G1 := Lib.hid (hg.out j js)
      have e3 : Hid ((rowOf 64 (w64 (wordsP B j))).setIfInBounds (j / 4) (.int .u64 ((wordP B (j / 4) (j % 4) * 256 + B j : Nat) : Int)) = rowOf 64 (w64 (wordsP B (j + 1)))) := by
        unfold Hid; rw [rowOf_upd64, wordsP_step]
      generalize wordP B (j / 4) (j % 4) = y at *
      simp only [List.take_succ_cons, List.take_zero, List.drop_succ_cons, List.drop_zero]
      refine wpStill_of_quiet _ _ ?_
      repeat (first | go_big_quiet_skip | (go_big_quiet_want; go_big_quiet_op; go_big_quiet_on))
      refine wpQuiet_nil ?_
      have EV := Lib.hid (ref_word y (B j) l1 l2 _ G1.out)
      go_wp2
      go_roundw
      case rel => exact ⟨j + 1, by omega, by go_num, by rw [EV.out]; exact (hr.out.set (j / 4) _).congr e3.out, hbl.setCell (Nat.le_refl _) _⟩
      case measure => simp [intOf]; omega
    · have : j = 64 := by omega
      subst this
      rw [wordsP_all] at hr
      clear hg r2 hs
      go_wp2
      go_loopw [7] (fun i wr => ∃ i' n : Nat, n ≤ 48 ∧ i = .int .i64 i' ∧ i' = n + 16 ∧ Hid (RowAt wr p 116 (rowOf 64 (w64 (spreadN B n)))) ∧ Below p w1 wr)
        (fun i _ => 64 - (intOf i).toNat)
      case atStart => exact ⟨16, 0, by omega, rfl, rfl, hr, hbl⟩
      case round =>
        clear hr hbl
        obtain ⟨i, n, hn, rfl, hin, hr, hbl⟩ := hrel
        by_cases hlt : i < 64
        · have e15 : (i : Int) - 15 = ((n + 1 : Nat) : Int) := by omega
          have e2 : (i : Int) - 2 = ((n + 14 : Nat) : Int) := by omega
          have e16 : (i : Int) - 16 = (n : Int) := by omega
          have e7 : (i : Int) - 7 = ((n + 9 : Nat) : Int) := by omega
          have l15 : n + 1 < 64 := by omega
          have l2 : n + 14 < 64 := by omega
          have l16 : n < 64 := by omega
          have l7 : n + 9 < 64 := by omega
          have hW := spreadN_words hB.out n
          have c15 := hr.out.cell (n + 1) l15
          have c2 := hr.out.cell (n + 14) l2
          unfold w64 at c15 c2
          have hx := hW (n + 1)
          have hy := hW (n + 14)
          have hz := hW n
          have hv := hW (n + 9)
          have E0 : Hid (nextN (spreadN B n) i = nextN (spreadN B n) i) := rfl
          unfold Hid at E0
          rw (occs := [1]) [nextN] at E0
          rw [show i - 16 = n by omega, show i - 15 = n + 1 by omega, show i - 7 = n + 9 by omega, show i - 2 = n + 14 by omega] at E0
          obtain ⟨x, gx⟩ : ∃ x, spreadN B n (n + 1) = x := ⟨_, rfl⟩
          obtain ⟨y, gy⟩ : ∃ y, spreadN B n (n + 14) = y := ⟨_, rfl⟩
          obtain ⟨z, gz⟩ : ∃ z, spreadN B n n = z := ⟨_, rfl⟩
          obtain ⟨v, gv⟩ : ∃ v, spreadN B n (n + 9) = v := ⟨_, rfl⟩
          rw [gx] at c15 hx
          rw [gy] at c2 hy
          rw [gz] at hz
          rw [gv] at hv
          rw [gx, gy, gz, gv] at E0
          replace gz := Lib.hid gz
          replace gv := Lib.hid gv
          have E1 := Lib.hid E0
          have HI := Lib.hid hin
          clear gx gy hW E0 hin
          go_wp2
          clear c15 c2
          refine wp_region_still_tail 30 (by kernel_rfl) (by kernel_rfl) ?_
          change wpStill _ _ (World.drew wr) (fun a' => wpList _ _ _ _ a' (World.drew wr)) _ _
          have hr2 : Hid (RowAt (World.drew wr) p 116 (rowOf 64 (w64 (spreadN B n)))) := hr
          have hbl2 : Below p w1 (World.drew wr) := hbl.drew
          generalize World.drew wr = w2 at *
          clear hr hbl
          have c16 := hr2.out.cell n l16
          have c7 := hr2.out.cell (n + 9) l7
          have ci := hr2.out.cell i (by omega)
          have fi := hr2.out.free i
          unfold w64 at c16 c7
          rw [gz.out] at c16
          rw [gv.out] at c7
          have K1 := Lib.hid (turn_any x 7 hx (by decide) w2)
          have K2 := Lib.hid (turn_any x 18 hx (by decide) w2)
          have K3 := Lib.hid (right_any x 3 (by omega) (by decide) w2)
          have K4 := Lib.hid (turn_any y 17 hy (by decide) w2)
          have K5 := Lib.hid (turn_any y 19 hy (by decide) w2)
          have K6 := Lib.hid (right_any y 10 (by omega) (by decide) w2)
          simp only [List.take_succ_cons, List.take_zero, List.drop_succ_cons, List.drop_zero]
          refine wpStill_of_quiet _ _ ?_
          repeat (first | go_big_quiet_skip | (go_big_quiet_want; go_big_quiet_op; go_big_quiet_on))
          (go_big_quiet_want; go_big_quiet_op; apply Exists.intro; refine ⟨K1.out, ?_⟩; go_big_quiet_on)
          repeat (first | go_big_quiet_skip | (go_big_quiet_want; go_big_quiet_op; go_big_quiet_on))
          (go_big_quiet_want; go_big_quiet_op; apply Exists.intro; refine ⟨K2.out, ?_⟩; go_big_quiet_on)
          repeat (first | go_big_quiet_skip | (go_big_quiet_want; go_big_quiet_op; go_big_quiet_on))
          (go_big_quiet_want; go_big_quiet_op; apply Exists.intro; refine ⟨K3.out, ?_⟩; go_big_quiet_on)
          repeat (first | go_big_quiet_skip | (go_big_quiet_want; go_big_quiet_op; go_big_quiet_on))
          (go_big_quiet_want; go_big_quiet_op; apply Exists.intro; refine ⟨K4.out, ?_⟩; go_big_quiet_on)
          repeat (first | go_big_quiet_skip | (go_big_quiet_want; go_big_quiet_op; go_big_quiet_on))
          (go_big_quiet_want; go_big_quiet_op; apply Exists.intro; refine ⟨K5.out, ?_⟩; go_big_quiet_on)
          repeat (first | go_big_quiet_skip | (go_big_quiet_want; go_big_quiet_op; go_big_quiet_on))
          (go_big_quiet_want; go_big_quiet_op; apply Exists.intro; refine ⟨K6.out, ?_⟩; go_big_quiet_on)
          repeat (first | go_big_quiet_skip | (go_big_quiet_want; go_big_quiet_op; go_big_quiet_on))
          refine wpQuiet_nil ?_
          clear K1 K2 K3 K4 K5 K6
          have EV := Lib.hid ((ref_next x y z v hx hy hz hv).trans (congrArg Int.ofNat E1.out))
          have e3 : Hid ((rowOf 64 (w64 (spreadN B n))).setIfInBounds i (.int .u64 ((nextN (spreadN B n) i : Nat) : Int)) = rowOf 64 (w64 (spreadN B (n + 1)))) := by
            unfold Hid; rw [rowOf_upd64]; rw [HI.out, Nat.add_comm n 16]; rfl
          go_wp2
          go_roundw
          case rel => exact ⟨i + 1, n + 1, by omega, by go_num, by rw [HI.out], by rw [EV.out]; exact (hr2.out.set i _).congr e3.out, hbl2.setCell (Nat.le_refl _) _⟩
          case measure => simp [intOf]; omega
        · have : n = 48 := by omega
          subst this
          clear hin
          have hW := Lib.hid (spreadN_words hB.out 48)
          obtain ⟨W, gW⟩ : ∃ W, spreadN B 48 = W := ⟨_, rfl⟩
          rw [gW] at hr hW
          replace gW := Lib.hid gW
          clear hB
          have hp3 : p < wr.heap.size := hr.out.lt
          replace r0 : Hid (RowAt wr w.heap.size 91 (rowOf 8 (w64 H))) := r0.out.below hbl (by omega)
          replace r1 : Hid (RowAt wr (w.heap.size + 1) 91 (rowOf 8 (w64 zeroN))) := r1.out.below hbl (by omega)
          replace b0 : Below w.heap.size w wr := b0.trans (hbl.mono (by omega))
          clear hbl
          go_wp2_with (first | (refine wpList_load_row rfl 91 _ rfl w.heap.size rfl 91 _ (0, 0) _ r0.out Tryd.underlying91 rfl (info_d8 _) ?_) | (refine wpList_store_row rfl 91 _ _ rfl wr.heap.size (rowOf 8 (w64 H)) rfl rfl 91 _ (RowAt.new _ _ _) (info_d8 _) (by rw [rowOf_size]; rfl) (rowOf_cells64 _ _) ?_; rw [World.setRow_alloc_new]))
          refine (refK_any _).mono ?_
          rintro e w6 ⟨rfl, hb6⟩
          have r3 : Hid (RowAt w6 wr.heap.size 91 (rowOf 8 (w64 H))) := (RowAt.new wr _ _).below hb6 (by simp)
          have hb7 : Below wr.heap.size wr w6 := ((Below.refl _ _).alloc (Nat.le_refl _) _).trans (hb6.mono (by simp))
          have q1 : wr.heap.size < w6.heap.size := r3.out.lt
          replace r0 : Hid (RowAt w6 w.heap.size 91 (rowOf 8 (w64 H))) := r0.out.below hb7 (by omega)
          replace r1 : Hid (RowAt w6 (w.heap.size + 1) 91 (rowOf 8 (w64 zeroN))) := r1.out.below hb7 (by omega)
          replace hr : Hid (RowAt w6 p 116 (rowOf 64 (w64 W))) := hr.out.below hb7 hp3
          replace b0 : Below w.heap.size w w6 := b0.trans (hb7.mono (by omega))
          clear hb6 hb7
          obtain ⟨q, hq⟩ : ∃ q, wr.heap.size = q := ⟨_, rfl⟩
          rw [hq] at r3 q1 hp3
          rw [hq]
          clear hq
          go_wp2_with (first | (refine wpList_store_row rfl 116 _ _ rfl w6.heap.size (rowOf 64 (w64 kN)) rfl rfl 116 _ (RowAt.new _ _ _) (info_d64 _) (by rw [rowOf_size]; rfl) (rowOf_cells64 _ _) ?_; rw [World.setRow_alloc_new]))
          have rk : Hid (RowAt (w6.alloc (.cells (rowOf 64 (w64 kN)) 116)) w6.heap.size 116 (rowOf 64 (w64 kN))) := RowAt.new _ _ _
          replace r0 := Lib.hid (r0.out.alloc (.cells (rowOf 64 (w64 kN)) 116))
          replace r1 := Lib.hid (r1.out.alloc (.cells (rowOf 64 (w64 kN)) 116))
          replace r3 := Lib.hid (r3.out.alloc (.cells (rowOf 64 (w64 kN)) 116))
          replace hr := Lib.hid (hr.out.alloc (.cells (rowOf 64 (w64 kN)) 116))
          replace b0 := b0.alloc b0.size (.cells (rowOf 64 (w64 kN)) 116)
          generalize w6.alloc (.cells (rowOf 64 (w64 kN)) 116) = w7 at *
          generalize w6.heap.size = q2 at *
          have G := Lib.hid hlt
          clear hlt
          go_loopw [12] (fun i wr => ∃ j : Nat, j ≤ 64 ∧ i = .int .i64 j ∧ Hid (RowAt wr q 91 (rowOf 8 (w64 (roundsN W H j)))) ∧ Hid (RowAt wr q2 116 (rowOf 64 (w64 kN))) ∧ Below q w7 wr)
            (fun i _ => 64 - (intOf i).toNat)
          case atStart => exact ⟨0, by omega, rfl, r3, rk, Below.refl _ _⟩
          case round =>
            clear r3 rk
            obtain ⟨j, hj, rfl, hv, hk, hbl⟩ := hrel
            by_cases hlt : j < 64
            · have hs := Lib.hid (roundsN_words (W := W) hh.out j)
              have E1 : Hid (roundsN W H (j + 1) = roundN (roundsN W H j) (kN j) (W j)) := rfl
              generalize roundsN W H j = s at *
              have h0 := hs.out 0
              have h1 := hs.out 1
              have h2 := hs.out 2
              have h3 := hs.out 3
              have h4 := hs.out 4
              have h5 := hs.out 5
              have h6 := hs.out 6
              have h7 := hs.out 7
              have hkl := kN_lt j
              have hwl := hW.out j
              have c0 := hv.out.cell 0 (by decide)
              have c4 := hv.out.cell 4 (by decide)
              unfold w64 at c0 c4
              go_wp2
              clear c0 c4
              refine wp_region_one (by kernel_rfl) (by kernel_rfl) ?_
              replace hv : Hid (RowAt wr.drew q 91 (rowOf 8 (w64 s))) := hv
              replace hk : Hid (RowAt wr.drew q2 116 (rowOf 64 (w64 kN))) := hk
              replace hbl : Below q w7 wr.drew := hbl.drew
              generalize wr.drew = w8 at *
              have c5 := hv.out.cell 5 (by decide)
              have c6 := hv.out.cell 6 (by decide)
              have c7 := hv.out.cell 7 (by decide)
              have ck := hk.out.cell j hlt
              have cw := (hr.out.below hbl hp3).cell j hlt
              unfold w64 at c5 c6 c7 ck cw
              generalize kN j = k at *
              generalize W j = wj at *
              have K1 := Lib.hid (turn_any (s 4) 6 h4 (by decide) w8)
              have K2 := Lib.hid (turn_any (s 4) 11 h4 (by decide) w8)
              have K3 := Lib.hid (turn_any (s 4) 25 h4 (by decide) w8)
              repeat (first | go_big_quiet_skip | (go_big_quiet_want; go_big_quiet_op; go_big_quiet_on))
              (go_big_quiet_want; go_big_quiet_op; apply Exists.intro; refine ⟨K1.out, ?_⟩; go_big_quiet_on)
              repeat (first | go_big_quiet_skip | (go_big_quiet_want; go_big_quiet_op; go_big_quiet_on))
              (go_big_quiet_want; go_big_quiet_op; apply Exists.intro; refine ⟨K2.out, ?_⟩; go_big_quiet_on)
              repeat (first | go_big_quiet_skip | (go_big_quiet_want; go_big_quiet_op; go_big_quiet_on))
              (go_big_quiet_want; go_big_quiet_op; apply Exists.intro; refine ⟨K3.out, ?_⟩; go_big_quiet_on)
              repeat (first | go_big_quiet_skip | (go_big_quiet_want; go_big_quiet_op; go_big_quiet_on))
              refine wpQuiet_nil ?_
              clear K1 K2 K3 c5 c6 c7 ck cw
              go_wp2
              refine wp_region_one (by kernel_rfl) (by kernel_rfl) ?_
              replace hv : Hid (RowAt w8.drew q 91 (rowOf 8 (w64 s))) := hv
              replace hk : Hid (RowAt w8.drew q2 116 (rowOf 64 (w64 kN))) := hk
              replace hbl : Below q w7 w8.drew := hbl.drew
              generalize w8.drew = w9 at *
              have c1 := hv.out.cell 1 (by decide)
              have c2 := hv.out.cell 2 (by decide)
              unfold w64 at c1 c2
              have K1 := Lib.hid (turn_any (s 0) 2 h0 (by decide) w9)
              have K2 := Lib.hid (turn_any (s 0) 13 h0 (by decide) w9)
              have K3 := Lib.hid (turn_any (s 0) 22 h0 (by decide) w9)
              repeat (first | go_big_quiet_skip | (go_big_quiet_want; go_big_quiet_op; go_big_quiet_on))
              (go_big_quiet_want; go_big_quiet_op; apply Exists.intro; refine ⟨K1.out, ?_⟩; go_big_quiet_on)
              repeat (first | go_big_quiet_skip | (go_big_quiet_want; go_big_quiet_op; go_big_quiet_on))
              (go_big_quiet_want; go_big_quiet_op; apply Exists.intro; refine ⟨K2.out, ?_⟩; go_big_quiet_on)
              repeat (first | go_big_quiet_skip | (go_big_quiet_want; go_big_quiet_op; go_big_quiet_on))
              (go_big_quiet_want; go_big_quiet_op; apply Exists.intro; refine ⟨K3.out, ?_⟩; go_big_quiet_on)
              repeat (first | go_big_quiet_skip | (go_big_quiet_want; go_big_quiet_op; go_big_quiet_on))
              refine wpQuiet_nil ?_
              clear K1 K2 K3
              rw [ref_t s hs.out k wj hkl hwl, ref_u s hs.out]
              have ht := tN_lt s k wj
              have E2 : Hid (roundsN W H (j + 1) = mixN s (tN s k wj) (uN s)) := E1
              have hu := uN_lt s
              generalize tN s k wj = t at *
              generalize uN s = u at *
              clear E1
              have c3 := hv.out.cell 3 (by decide)
              have c5 := hv.out.cell 5 (by decide)
              have c6 := hv.out.cell 6 (by decide)
              unfold w64 at c3 c5 c6
              go_wp2_with (refine wpList_store_row rfl 91 _ _ rfl q _ rfl rfl 91 _ hv.out ?hi ?hold ?h1 ?_; (case hi => kernel_rfl); (case hold => rw [rowOf_size]; rfl); (case h1 => kernel_rfl); rw [mix_raw64 s t u, ← E2.out]; have hv9 := Lib.hid (hv.out.setRow (rowOf 8 (w64 (roundsN W H (j + 1))))); have hk9 := Lib.hid (hk.out.setRowOther q (rowOf 8 (w64 (roundsN W H (j + 1)))) (by omega)); have hb9 := below_setRow' hbl (Nat.le_refl q) (rowOf 8 (w64 (roundsN W H (j + 1)))); clear hv hk hbl c1 c2 c3 c5 c6; generalize World.setRow _ _ _ = w10 at *)
              go_roundw
              case rel => exact ⟨j + 1, by omega, by go_num, hv9, hk9, hb9⟩
              case measure => simp [intOf]; omega
            · have : j = 64 := by omega
              subst this
              clear hW hk
              have X := Lib.hid (roundsN_words (W := W) hh.out 64)
              obtain ⟨x, HX⟩ : ∃ x : Nat → Nat, Hid (finN W H = fun k => (x k + H k) % 4294967296) ∧ roundsN W H 64 = x := ⟨roundsN W H 64, rfl, rfl⟩
              rw [HX.2] at hv X
              replace HX := HX.1
              go_wp2
              go_loopw [17] (fun i wr => ∃ j : Nat, j ≤ 8 ∧ i = .int .i64 j ∧ Hid (RowAt wr q 91 (rowOf 8 (w64 (part (fun k => (x k + H k) % 4294967296) x j)))) ∧ Below q w7 wr)
                (fun i _ => 8 - (intOf i).toNat)
              case atStart => exact ⟨0, by omega, rfl, by rw [part_zero]; exact hv, hbl⟩
              case round =>
                clear hv hbl
                obtain ⟨j, hj, rfl, hv, hbl⟩ := hrel
                by_cases hlt : j < 8
                · go_wp2
                  refine wp_region_still_tail 10 (by kernel_rfl) (by kernel_rfl) ?_
                  change wpStill _ _ wr.drew (fun a' => wpList _ _ _ _ a' wr.drew) _ _
                  replace hv : Hid (RowAt wr.drew q 91 (rowOf 8 (w64 (part (fun k => (x k + H k) % 4294967296) x j)))) := hv
                  replace hbl : Below q w7 wr.drew := hbl.drew
                  generalize wr.drew = w8 at *
                  have c1 := hv.out.cell j hlt
                  have f1 := hv.out.free j
                  have c2 := (r0.out.below hbl (by omega)).cell j hlt
                  unfold w64 at c1 c2
                  rw [part_above _ _ _ _ (Nat.le_refl j)] at c1
                  have l1 := X.out j
                  have l2 := hh.out j
                  have e3 : Hid ((rowOf 8 (w64 (part (fun k => (x k + H k) % 4294967296) x j))).setIfInBounds j (.int .u64 (((x j + H j) % 4294967296 : Nat) : Int)) = rowOf 8 (w64 (part (fun k => (x k + H k) % 4294967296) x (j + 1)))) := by
                    unfold Hid; rw [rowOf_upd64, ← part_upd]
                  simp only [List.take_succ_cons, List.take_zero, List.drop_succ_cons, List.drop_zero]
                  refine wpStill_of_quiet _ _ ?_
                  repeat (first | go_big_quiet_skip | (go_big_quiet_want; go_big_quiet_op; go_big_quiet_on))
                  refine wpQuiet_nil ?_
                  go_wp2
                  go_roundw
                  case rel =>
                    refine ⟨j + 1, by omega, by go_num, (hv.out.set j _).congr (Eq.trans ?_ e3.out), hbl.setCell (Nat.le_refl _) _⟩
                    congr 2
                  case measure => simp [intOf]; omega
                · have : j = 8 := by omega
                  subst this
                  have hr2 : Hid (RowAt wr q 91 (rowOf 8 (w64 (fun k => (x k + H k) % 4294967296)))) := hv.out.congr (rowOf_congr fun k hk => by unfold w64; rw [part_below _ _ _ _ hk])
                  have hq : Hid (RowAt wr (w.heap.size + 1) 91 (rowOf 8 (w64 zeroN))) := r1.out.below hbl (by omega)
                  clear hv
                  rw [← HX.out] at hr2
                  obtain ⟨y, hy⟩ : ∃ y, finN W H = y := ⟨_, rfl⟩
                  rw [hy] at hr2
                  replace hy := Lib.hid hy
                  go_wp2_with (first | (refine wpList_load_row rfl 91 _ rfl q rfl 91 _ (0, 0) _ hr2.out Tryd.underlying91 rfl (info_d8 _) ?_) | (refine wpList_store_row rfl 91 _ _ rfl (w.heap.size + 1) (rowOf 8 (w64 y)) rfl rfl 91 _ hq.out (info_d8 _) (by rw [rowOf_size, rowOf_size]) (rowOf_cells64 _ _) ?_))
                  refine bodyPost_ret (v := .agg (rowOf 8 (w64 y))) ?_ rfl ⟨by rw [gW.out, hy.out], below_setRow' (b0.trans (hbl.mono (by omega))) (by omega) _⟩
                  exact results_cell_row Tryd.results57 _ _ (w.heap.size + 1) 91 (rowOf 8 (w64 y)) (0, 0) _ rfl (hq.out.setRow _) Tryd.underlying91 rfl (info_d8 _)

end Go.Proofs.YtacekpjkgkkekaaDoor
/-
  Contracts: Fill, and the document's Fill.
-/
namespace Go.Proofs.YtacekpjkgkkekaaDoor
open Go.RowKit

theorem row_string {P : Program} {w : World} {e src dst : TypeId} {g n : Nat} {f : Nat → Nat} (hf : Bytes f) (hn : n ≤ maxLen) (hs : P.underlying src = some (.slice e)) (he : P.underlying e = some (.int .u8)) (hd : P.underlying dst = some .string)
    (h : RowAt w g e (rowOf n (w8 f))) : (convert src dst (.slice (some ⟨g, 0, none⟩) n n)).run P w = .ok (.string (bs ((List.range n).map fun j => UInt8.ofNat (f j)))) w := by
  refine own_string (base := 0) (n := n) _ hs he hd ⟨by simp, Or.inr ⟨g, n, rowOf n (w8 f), rfl, Nat.zero_le _, h, Nat.le_refl _, hn, by rw [rowOf_size, Nat.mul_one], ?_⟩⟩
  rw [Nat.mul_one, List.take_of_length_le (by rw [Array.length_toList, rowOf_size]; exact Nat.le_refl _)]
  unfold rowOf
  rw [List.map_map]
  apply List.map_congr_left
  intro j _
  show Value.int .u8 _ = Value.int .u8 _
  rw [UInt8.toNat_ofNat', Nat.mod_eq_of_lt (hf j)]

/-- How many bytes 0 there are, and how many in all. -/
def fillZ (n : Nat) : Nat := (128 - (n % 64 + 9)) % 64
/-- The eight bytes of v, the highest first: the first m of them. -/
def be8 (v m : Nat) : List UInt8 := (List.range m).map fun i => UInt8.ofNat (v / 256 ^ (7 - i))
/-- What comes behind n bytes. -/
def fillL (n : Nat) : List UInt8 := (128 :: List.replicate (fillZ n) 0) ++ be8 (8 * n) 8

theorem be8_succ (v m : Nat) : be8 v (m + 1) = be8 v m ++ [UInt8.ofNat (v / 256 ^ (7 - m))] := by
  simp [be8, List.range_succ]
theorem be8_length (v m : Nat) : (be8 v m).length = m := by simp [be8]
theorem fillL_length (n : Nat) : (fillL n).length = fillZ n + 9 := by
  simp [fillL, be8_length]

/-- The bytes, by their places, the last i of them laid. -/
def fillN (n i : Nat) : Nat → Nat := fun j => if j = 0 then 128 else if fillZ n + 9 - i ≤ j then 8 * n / 256 ^ (fillZ n + 8 - j) % 256 else 0

theorem fillN_bytes (n i : Nat) : Bytes (fillN n i) := by
  intro j
  unfold fillN
  split
  · decide
  · split
    · exact Nat.mod_lt _ (by decide)
    · decide

theorem fillN_zero (n : Nat) : ∀ j, j < fillZ n + 9 → fillN n 0 j = upd (fun _ => 0) 0 128 j := by
  intro j hj
  unfold fillN upd
  split
  · rfl
  · rw [if_neg (by omega)]

theorem fillN_step (n i : Nat) (hi : i < 8) : upd (fillN n i) (fillZ n + 9 - 1 - i) (8 * n / 256 ^ i % 256) = fillN n (i + 1) := by
  funext j
  unfold upd fillN
  by_cases h : j = fillZ n + 9 - 1 - i
  · subst h
    rw [if_pos rfl, if_neg (by omega), if_pos (by omega), show fillZ n + 8 - (fillZ n + 9 - 1 - i) = i by omega]
  · rw [if_neg h]
    split
    · rfl
    · by_cases h2 : fillZ n + 9 - i ≤ j
      · rw [if_pos h2, if_pos (by omega)]
      · rw [if_neg h2, if_neg (by omega)]

theorem ofNat_mod (x : Nat) : UInt8.ofNat (x % 256) = UInt8.ofNat x := by
  apply UInt8.toNat_inj.1
  simp

theorem fillN_all (n : Nat) : ((List.range (fillZ n + 9)).map fun j => UInt8.ofNat (fillN n 8 j)) = fillL n := by
  apply List.ext_getElem
  · simp [fillL_length]
  · intro j h1 h2
    have hj : j < fillZ n + 9 := by simpa using h1
    rw [List.getElem_map, List.getElem_range]
    unfold fillN
    simp only [fillL]
    by_cases h0 : j = 0
    · subst h0
      simp
    · rw [if_neg h0]
      by_cases h8 : fillZ n + 9 - 8 ≤ j
      · rw [if_pos h8, List.getElem_append_right (by simp; omega), ofNat_mod]
        unfold be8
        rw [List.getElem_map, List.getElem_range]
        simp only [List.length_cons, List.length_replicate]
        rw [show fillZ n + 8 - j = 7 - (j - (fillZ n + 1)) by omega]
      · rw [if_neg h8, List.getElem_append_left (by simp; omega)]
        obtain ⟨k, rfl⟩ : ∃ k, j = k + 1 := ⟨j - 1, by omega⟩
        simp

theorem made_row {w : World} {base e g n : Nat} (h : w.ownsRow base e 1 (.slice (some ⟨g, 0, none⟩) n n) n (madeCells #[Value.int .u8 0] n).toList) : RowAt w g e (rowOf n (w8 fun _ => 0)) := by
  rcases h.2 with ⟨h1, _⟩ | ⟨g', cap, cur, h1, _, h3, _, _, h6, h7⟩
  · cases h1
  · simp at h1
    obtain ⟨rfl, rfl⟩ := h1
    unfold RowAt
    rw [h3]
    have : cur = rowOf n (w8 fun _ => 0) := by
      apply Array.ext'
      rw [List.take_of_length_le (by rw [Array.length_toList, h6]; exact Nat.le_refl _)] at h7
      rw [h7, toList_madeCells_one]
      unfold rowOf
      rw [show ((List.map (w8 fun _ => 0) (List.range n)).toArray.toList) = List.map (fun _ => Value.int .u8 0) (List.range n) from rfl, List.map_const', List.length_range]
    rw [this]

set_option maxHeartbeats 400000 in
theorem fill_neg (n : Int) (hn : n < 0) (w : World) :
    Calls Tryd.prog 50 #[.int .i64 n] w fun e w' => e = .returned (.string (bs [])) ∧ w' = w := by
  go_enter Tryd.func50, Tryd.ntmps50
  go_wp2
  go_ret
  exact ⟨rfl, rfl⟩

theorem shift8 (n j : Nat) : 8 * (n : Int) / 2 ^ (8 * j) % 256 = ((8 * n / 256 ^ j % 256 : Nat) : Int) := by
  rw [Int.pow_mul]
  simp

set_option maxHeartbeats 400000 in
set_option maxRecDepth 8000 in
theorem fill_any (n : Nat) (hn : n ≤ 1000000) (w : World) :
    Calls Tryd.prog 50 #[.int .i64 n] w fun e w' => e = .returned (.string (bs (fillL n))) ∧ Below w.heap.size w w' := by
  obtain ⟨ib, hib, hb0, hb1, hb2⟩ := info_parts Tryd.info5
  obtain ⟨z, hz⟩ : ∃ z, fillZ n = z := ⟨_, rfl⟩
  have ez : ((128 - ((n : Int) % 64 + 1 + 8)) % 64) = (z : Int) := by rw [← hz]; unfold fillZ; omega
  have lz : z < 64 := by rw [← hz]; unfold fillZ; omega
  obtain ⟨L, hL⟩ : ∃ L, z + 9 = L := ⟨_, rfl⟩
  have eL : (1 : Int) + (z : Int) + 8 = (L : Int) := by omega
  have hd : ¬ ((n : Int) < 0) := by omega
  have L1 : 9 ≤ L := by omega
  have L2 : L ≤ 72 := by omega
  have hZ := Lib.hid hz
  have hLL := Lib.hid hL
  clear hz hL
  go_enter Tryd.func50, Tryd.ntmps50
  go_wp2_with (first | (refine wpList_make_full _ rfl (.tmp 19) (.tmp 19) 45 rfl w.heap.size 5 ib (.int .u8 0) 1 Tryd.underlying45 hib hb0 hb1 _ _ _ _ L rfl rfl ?e1 ?e2 ?e3 ?e4 ?e5 ?_))
  case e1 => rfl
  case e2 => rfl
  case e3 => omega
  case e4 => unfold maxLen; omega
  intro w1 hown1 hg1
  have hr1 := Lib.hid (made_row hown1)
  have hbl1 : Below w.heap.size w w1 := (Below.refl _ _).grown hg1 (Nat.le_refl _) (fun g hg => by cases hg)
  have c0 := hr1.out.cell 0 (by omega)
  have f0 := hr1.out.free 0
  unfold w8 at c0
  have hr2 : Hid (RowAt (w1.setCell ⟨w.heap.size, 0, none⟩ (.int .u8 128)) w.heap.size 5 (rowOf L (w8 (fillN n 0)))) := by
    refine (hr1.out.set 0 (.int .u8 128)).congr ?_
    rw [show (128 : Int) = ((128 : Nat) : Int) from rfl, rowOf_upd8]
    refine rowOf_congr fun j hj => ?_
    unfold w8
    rw [fillN_zero n j (by rw [hZ.out, hLL.out]; exact hj)]
  have hbl2 : Below w.heap.size w (w1.setCell ⟨w.heap.size, 0, none⟩ (.int .u8 128)) := hbl1.setCell (Nat.le_refl _) _
  clear hown1 hg1
  have L0 : (0 : Int) < (L : Int) := by omega
  go_wp2
  clear c0 f0 hr1 hbl1 ez eL
  generalize w1.setCell ⟨w.heap.size, 0, none⟩ (.int .u8 128) = w2 at *
  go_loopw [26] (fun i wr => ∃ j : Nat, j ≤ 8 ∧ i = .int .i64 j ∧ Hid (RowAt wr w.heap.size 5 (rowOf L (w8 (fillN n j)))) ∧ Below w.heap.size w wr)
    (fun i _ => 8 - (intOf i).toNat)
  case atStart => exact ⟨0, by omega, rfl, hr2, hbl2⟩
  case round =>
    clear hr2 hbl2
    obtain ⟨j, hj, rfl, hr, hbl⟩ := hrel
    by_cases hlt : j < 8
    · have e1 : (L : Int) - 1 - (j : Int) = ((L - 1 - j : Nat) : Int) := by have := hLL.out; omega
      have cj := hr.out.cell (L - 1 - j) (by have := hLL.out; omega)
      have fj := hr.out.free (L - 1 - j)
      have e3 : Hid ((rowOf L (w8 (fillN n j))).setIfInBounds (L - 1 - j) (.int .u8 ((8 * n / 256 ^ j % 256 : Nat) : Int)) = rowOf L (w8 (fillN n (j + 1)))) := by
        unfold Hid
        have := fillN_step n j hlt
        rw [hZ.out, hLL.out] at this
        rw [rowOf_upd8, this]
      have lk : L - 1 - j < L := by have := hLL.out; omega
      obtain ⟨k, hk⟩ : ∃ k, L - 1 - j = k := ⟨_, rfl⟩
      rw [hk] at e1 cj fj e3 lk
      have HK := Lib.hid hk
      clear hk
      have EV := Lib.hid (shift8 n j)
      go_wp2
      go_roundw
      case rel => exact ⟨j + 1, by omega, by go_num, by rw [EV.out]; exact (hr.out.set k _).congr e3.out, hbl.setCell (Nat.le_refl _) _⟩
      case measure => simp [intOf]; omega
    · have : j = 8 := by omega
      subst this
      have hcv := row_string (P := Tryd.prog) (src := 45) (dst := 9) (fillN_bytes n 8) (by unfold maxLen; omega) Tryd.underlying45 Tryd.underlying5 Tryd.underlying9 hr.out
      have E : ((List.range L).map fun j => UInt8.ofNat (fillN n 8 j)) = fillL n := by
        have := fillN_all n
        rw [hZ.out, hLL.out] at this
        exact this
      rw [E] at hcv
      clear E
      go_wp2
      go_ret
      exact ⟨rfl, hbl⟩

set_option maxHeartbeats 400000 in
set_option maxRecDepth 8000 in
theorem refFill_any (n : Nat) (hn : n ≤ 1000000) (w : World) :
    Calls Tryd.prog 56 #[.int .i64 n] w fun e w' => e = .returned (.string (bs (fillL n))) ∧ Below w.heap.size w w' := by
  obtain ⟨i0, hi, hz0, hz1, hz2⟩ := info_parts Tryd.info5
  have hd : ¬ ((n : Int) < 0) := by omega
  obtain ⟨z, hz⟩ : ∃ z, fillZ n = z := ⟨_, rfl⟩
  have lz : z < 64 := by rw [← hz]; unfold fillZ; omega
  have z1 : (n + z + 9) % 64 = 0 := by rw [← hz]; unfold fillZ; omega
  have z2 : Hid (∀ k, k < z → (n + k + 9) % 64 ≠ 0) := by intro k hk; rw [← hz] at hk; unfold fillZ at hk; omega
  have hZ := Lib.hid hz
  clear hz
  go_enter Tryd.func56, Tryd.ntmps56
  go_wp2
  have hown0 : (w.alloc (.cells #[.int .u8 128] 5)).ownsRow w.heap.size 5 1 (.slice (some ⟨w.heap.size, 0, none⟩) 1 1) (0 + 1) [bv 128] :=
    ⟨rfl, Or.inr ⟨w.heap.size, 1, #[.int .u8 128], rfl, Nat.le_refl _, RowAt.new _ _ _, by omega, by unfold maxLen; omega, rfl, rfl⟩⟩
  have hb0 : Below w.heap.size w (w.alloc (.cells #[.int .u8 128] 5)) := (Below.refl _ _).alloc (Nat.le_refl _) _
  generalize w.alloc (.cells #[.int .u8 128] 5) = w1 at *
  go_loopw [3] (fun v wr => ∃ (k : Nat) (xs : List Value), k ≤ z ∧ wr.ownsRow w.heap.size 5 1 v (k + 1) xs ∧ Hid (xs = (128 :: List.replicate k 0).map bv) ∧ Below w.heap.size w wr)
    (fun v _ => z + 1 - (match v with | .slice _ l _ => l | _ => 0))
  case atStart => exact ⟨0, _, by omega, hown0, rfl, hb0⟩
  case round =>
    clear hown0 hb0
    obtain ⟨k, xs, hk, hown, hxs, hbl⟩ := hrel
    have hsz := hbl.size
    obtain ⟨g, cap, rfl⟩ : ∃ g cap, u3 = .slice (some ⟨g, 0, none⟩) (k + 1) cap := by
      rcases hown.2 with ⟨_, h0⟩ | ⟨g, cap, cur, h1, _⟩
      · omega
      · exact ⟨g, cap, h1⟩
    by_cases hlt : k < z
    · have hne : (((n : Int) + ((k : Int) + 1) + 8) % 64 == 0) = false := by
        have := z2.out k hlt
        simp
        omega
      go_wp2_with (at_builtin; refine wpList_append_own _ rfl _ _ 45 rfl w.heap.size 5 i0 (.int .u8 0) 1 1 Tryd.underlying45 hi hz0 hz1 hz2 rfl (by decide) _ _ _ rfl (hown.alloc _) ⟨wr.heap.size, 0, none⟩ 1 1 [.int .u8 0] rfl rfl ?c1 ?c2 ?c3 ?c4 ?c5 ?_)
      case c1 =>
        intro q u hq
        match q, hq with
        | 0, hq => simp at hq; subst hq; simp [Addr.add]
      case c2 => intro u hu; simp at hu; subst hu; rfl
      case c3 => unfold maxLen; omega
      case c4 => omega
      case c5 => simp; omega
      · intro v' w2 hown' hgrow _
        have hxs2 : Hid (xs ++ [.int .u8 0] = (128 :: List.replicate (k + 1) 0).map bv) := by
          unfold Hid
          rw [hxs.out, List.replicate_succ', ← List.cons_append, List.map_append]
          rfl
        have hbl2 : Below w.heap.size w w2 := (hbl.alloc (by omega) _).grown hgrow (by simp; omega) (fun g hg => (hown.lt g hg).1)
        obtain ⟨g', cap', rfl⟩ : ∃ g cap, v' = .slice (some ⟨g, 0, none⟩) (k + 1 + 1) cap := by
          rcases hown'.2 with ⟨_, h0⟩ | ⟨g, cap, cur, h1, _⟩
          · omega
          · exact ⟨g, cap, h1⟩
        clear hgrow hown hbl hne
        go_wp2
        go_roundw
        case rel => exact ⟨k + 1, _, by omega, hown', hxs2, hbl2⟩
        case measure => simp; omega
    · have : k = z := by omega
      subst this
      have hne : (((n : Int) + ((k : Int) + 1) + 8) % 64 != 0) = false := by
        simp
        omega
      have hne2 : (((n : Int) + ((k : Int) + 1) + 8) % 64 == 0) = true := by
        simp
        omega
      have hxs0 : Hid (xs = (128 :: List.replicate k 0 ++ be8 (8 * n) 0).map bv) := by
        unfold Hid
        rw [show be8 (8 * n) 0 = [] from rfl, List.append_nil]
        exact hxs.out
      clear hxs
      obtain ⟨N, hN⟩ : ∃ N, 8 * n = N := ⟨_, rfl⟩
      have en : ((n : Int) * 8) = (N : Int) := by omega
      have lN : N ≤ 8000000 := by omega
      rw [hN] at hxs0
      have HN := Lib.hid hN
      clear hN
      go_wp2
      go_loopw [3, 4] (fun v i wr => ∃ (m : Nat) (i' : Int) (xs : List Value), m ≤ 8 ∧ i = .int .i64 i' ∧ i' = 7 - (m : Int) ∧ wr.ownsRow w.heap.size 5 1 v (k + 1 + m) xs ∧ Hid (xs = (128 :: List.replicate k 0 ++ be8 N m).map bv) ∧ Below w.heap.size w wr)
        (fun _ i _ => (intOf i + 1).toNat)
      case atStart => exact ⟨0, 7, xs, by omega, rfl, by omega, hown, hxs0, hbl⟩
      case round =>
        clear hxs0 hown hbl hsz hne hne2
        obtain ⟨m, i', xs, hm, rfl, him, hown, hxs, hbl⟩ := hrel
        have hsz := hbl.size
        by_cases hlt : m < 8
        · have hi0 : 0 ≤ i' := by omega
          obtain ⟨i, rfl⟩ := Int.eq_ofNat_of_zero_le hi0
          obtain ⟨c, hc⟩ : ∃ c, 8 * i = c := ⟨_, rfl⟩
          have e8 : (8 : Int) * (i : Int) = (c : Int) := by omega
          have i7 : i ≤ 7 := by omega
          have him2 := Lib.hid (show i = 7 - m by omega)
          have R := Lib.hid (fun w => right_any N c (by omega) (by omega) w)
          have hx : N / 2 ^ c ≤ N := Nat.div_le_self _ _
          have EX : Hid (N / 2 ^ c = N / 256 ^ (7 - m)) := by
            unfold Hid
            rw [← hc, Nat.pow_mul, him2.out]
          have him3 := Lib.hid him
          clear him hc
          go_wp2_with fail
          refine (R.out _).mono ?_
          rintro e w2 ⟨rfl, rfl⟩
          generalize N / 2 ^ c = x at *
          clear R
          go_wp2_with (at_builtin; refine wpList_append_own _ rfl _ _ 45 rfl w.heap.size 5 i0 (.int .u8 0) 1 1 Tryd.underlying45 hi hz0 hz1 hz2 rfl (by decide) _ _ _ rfl (hown.alloc _) ⟨w2.heap.size, 0, none⟩ 1 1 [.int .u8 ((x : Int) % 256)] rfl rfl ?c1 ?c2 ?c3 ?c4 ?c5 ?_)
          case c1 =>
            intro q u hq
            match q, hq with
            | 0, hq => simp at hq; subst hq; simp [Addr.add]
          case c2 => intro u hu; simp at hu; subst hu; rfl
          case c3 => unfold maxLen; omega
          case c4 => omega
          case c5 => simp; omega
          · intro v' w3 hown' hgrow _
            have hxs2 : Hid (xs ++ [.int .u8 ((x : Int) % 256)] = (128 :: List.replicate k 0 ++ be8 N (m + 1)).map bv) := by
              unfold Hid
              rw [be8_succ, ← EX.out, ← List.append_assoc, List.map_append, ← hxs.out]
              congr 1
            have hbl2 : Below w.heap.size w w3 := (hbl.alloc (by omega) _).grown hgrow (by simp; omega) (fun g hg => (hown.lt g hg).1)
            clear hgrow hown hbl
            go_wp2
            go_roundw
            case rel => exact ⟨m + 1, _, _, by omega, rfl, by have := him3.out; omega, hown', hxs2, hbl2⟩
            case measure => simp [intOf]
        · have : m = 8 := by omega
          subst this
          have hcv : (convert 45 9 u3).run Tryd.prog wr = .ok (.string (bs (fillL n))) wr := by
            refine own_string (P := Tryd.prog) (src := 45) (dst := 9) (fillL n) Tryd.underlying45 Tryd.underlying5 Tryd.underlying9 (base := w.heap.size) (n := k + 1 + 8) ?_
            unfold fillL
            rw [hZ.out, HN.out, ← hxs.out]
            exact hown
          have hi1 : ¬ (0 ≤ i') := by omega
          clear hown hxs him
          go_wp2
          go_ret
          exact ⟨rfl, hbl⟩

end Go.Proofs.YtacekpjkgkkekaaDoor
/-
  Contracts: Step, Short. What a copy out of a text, or out of a row, lays into a row.
-/
namespace Go.Proofs.YtacekpjkgkkekaaDoor
open Go.RowKit

/-- g's first n places laid over f's, from place o on. -/
def laid (f g : Nat → Nat) (o n : Nat) : Nat → Nat := fun j => if o ≤ j ∧ j < o + n then g (j - o) else f j

theorem laid_row (L : Nat) (f g : Nat → Nat) (o n : Nat) (h : o + n ≤ L) (cs : List Value) (hcs : cs = (List.range n).map (w8 g)) :
    ((rowOf L (w8 f)).toList.take o ++ cs ++ (rowOf L (w8 f)).toList.drop (o + n)).toArray = rowOf L (w8 (laid f g o n)) := by
  subst hcs
  unfold rowOf
  congr 1
  apply List.ext_getElem
  · simp
    omega
  · intro j h1 h2
    have hj : j < L := by simpa using h2
    rw [List.getElem_map, List.getElem_range]
    have e0 : ¬ (o ≤ j ∧ j < o + n) → w8 (laid f g o n) j = w8 f j := fun h => by unfold w8 laid; rw [if_neg h]
    have e1 : (o ≤ j ∧ j < o + n) → w8 (laid f g o n) j = w8 g (j - o) := fun h => by unfold w8 laid; rw [if_pos h]
    by_cases c1 : j < o
    · rw [e0 (by omega), List.getElem_append_left (by simp; omega), List.getElem_append_left (by simp; omega)]
      simp
    · by_cases c2 : j < o + n
      · rw [e1 (by omega), List.getElem_append_left (by simp; omega), List.getElem_append_right (by simp; omega)]
        simp
        rw [show min o L = o by omega]
      · rw [e0 (by omega), List.getElem_append_right (by simp; omega)]
        simp
        congr 1
        omega

/-- copy(dst, s), s a text, dst from place o of a row on: the first bytes that fit go over. -/
theorem run_copy_text {P : Program} (w : World) (dT sT ty elem : TypeId) (p o dLen dCap : Nat) (s : ByteArray) (f : Nat → Nat) (L : Nat) (t : TypeId)
    (hu : P.underlying dT = some (.slice elem)) (hs : (P.info? elem).map (·.size) = some 1) (hg : RowAt w p t (rowOf L (w8 f))) (n : Nat) (hn : n = min s.size dLen) (hfit : o + n ≤ L) :
    (Builtin.copy_ #[dT, sT] ty #[.slice (some ⟨p, o, none⟩) dLen dCap, .string s]).run P w = .ok (goInt n) (w.setRow p (rowOf L (w8 (laid f (byteL s.data.toList) o n)))) := by
  have hsz : s.data.toList.length = s.size := by simp
  have hcs : List.take n (List.map (fun b : UInt8 => Value.int IntKind.u8 (b.toNat : Int)) s.data.toList) = (List.range n).map (w8 (byteL s.data.toList)) := by
    apply List.ext_getElem
    · simp; omega
    · intro j h1 h2
      have hj : j < n := by simpa using h2
      simp [w8, byteL]
      rw [Array.getElem?_eq_getElem (by show j < s.data.size; have : s.data.size = s.size := rfl; omega)]
      rfl
  have hlen : ((List.range n).map (w8 (byteL s.data.toList))).length = n := by simp
  have hst := run_storeCells_at P p o t ((List.range n).map (w8 (byteL s.data.toList))) 0 (rowOf L (w8 f)) w hg (by rw [hlen, rowOf_size]; simpa using hfit) (w8_one _ _)
  rw [hlen] at hst
  simp only [Nat.add_zero] at hst
  rw [laid_row L f (byteL s.data.toList) o n hfit _ rfl] at hst
  cases hq : P.info? elem with
  | none => simp [hq] at hs
  | some i =>
    have hmin : Nat.min s.size dLen = n := hn.symm
    simp [Builtin.copy_, run_underlying hu, Builtin.lenOf, Builtin.firstCells, sizeOf, typeInfo, hq, hmin]
    rw [hcs, hst]
    simp [Result.andThen]

theorem wp_copy_known {P : Program} (w : World) {o : Oper} {a : Act} {K : Act → World → Prop} {Q : Exit → Act → World → Prop} (d s : Operand) (t t' : TypeId)
    (ho : o.op = .call { callee := .builtin .copy, args := #[d, s], argTypes := #[t, t'] }) (v u : Value) (hd : a.eval d = v) (hs : a.eval s = u) {v' : Value} {w' : World}
    (hr : (Builtin.copy_ #[t, t'] o.type #[v, u]).run P w = .ok v' w') (h : K (a.put o.dst v') w') : o.wp P a w K Q := by
  unfold Oper.wp execOp
  simp only [ho, resolve, invoke, builtin, Sem.run_bind, Sem.run_pure, Result.andThen_ok, List.map_toArray, List.map_cons, List.map_nil, hd, hs, hr]
  exact h

theorem wpList_copy_known {P : Program} (w : World) {ops : Array Oper} {rest : List Oper} {o : Oper} {a : Act} {Q : Exit → Act → World → Prop} (hgd : o.guard = none) (d s : Operand) (t t' : TypeId)
    (ho : o.op = .call { callee := .builtin .copy, args := #[d, s], argTypes := #[t, t'] }) (v u : Value) (hd : a.eval d = v) (hs : a.eval s = u) {v' : Value} {w' : World}
    (hr : (Builtin.copy_ #[t, t'] o.type #[v, u]).run P w = .ok v' w') (h : wpList P ops Q rest (a.put o.dst v') w') : wpList P ops Q (o :: rest) a w :=
  wpList_plain hgd fun _ hK => wp_copy_known w d s t t' ho v u hd hs hr (hK _ _ h)

theorem laid_all (f g : Nat → Nat) (L : Nat) : rowOf L (w8 (laid f g 0 L)) = rowOf L (w8 g) :=
  rowOf_congr fun j hj => by unfold w8 laid; rw [if_pos (by omega), Nat.sub_zero]

/-- copy(dst, src), both rows: the first bytes that fit go over. -/
theorem run_copy_bytes {P : Program} (w : World) (dT sT ty elem : TypeId) (p q dLen dCap sLen sCap : Nat) (f g : Nat → Nat) (L M : Nat) (t t' : TypeId)
    (hu : P.underlying dT = some (.slice elem)) (hs : (P.info? elem).map (·.size) = some 1) (hg : RowAt w p t (rowOf L (w8 f))) (hq : RowAt w q t' (rowOf M (w8 g))) (n : Nat) (hn : n = min sLen dLen) (hfit : n ≤ L) (hM : n ≤ M) :
    (Builtin.copy_ #[dT, sT] ty #[.slice (some ⟨p, 0, none⟩) dLen dCap, .slice (some ⟨q, 0, none⟩) sLen sCap]).run P w = .ok (goInt n) (w.setRow p (rowOf L (w8 (laid f g 0 n)))) := by
  have hlen : ((List.range n).map (w8 g)).length = n := by simp
  have h := run_copy_row (P := P) w dT sT ty elem p 0 dLen dCap ⟨q, 0, none⟩ sLen sCap (rowOf L (w8 f)) t ((List.range n).map (w8 g)) hu hs hg (by rw [hlen]; exact hn) (fun j v hj => by
    have hjn : j < n := by
      have := (List.getElem?_eq_some_iff.1 hj).1
      simpa using this
    rw [List.getElem?_map, List.getElem?_range hjn] at hj
    have hv : w8 g j = v := by simpa using hj
    have ha : (⟨q, 0, none⟩ : Addr).add j = ⟨q, j, none⟩ := by unfold Addr.add; split <;> simp_all
    rw [ha, hq.cell j (by omega), hv]) (by rw [hlen, rowOf_size]; omega) (w8_one _ _)
  rw [hlen, laid_row L f g 0 n (by omega) _ rfl] at h
  exact h

set_option maxHeartbeats 400000 in
set_option maxRecDepth 8000 in
theorem short_any (g : Nat → Nat) (w : World) :
    Calls Tryd.prog 33 #[.agg (rowOf 32 (w8 g))] w fun e w' => e = .returned (.agg (rowOf 16 (w8 g))) ∧ Below w.heap.size w w' := by
  have sl1 := run_slice_all (P := Tryd.prog) Tryd.underlying23 sz8 (w.heap.size + 1 + 1)
  have sl2 := run_slice_all (P := Tryd.prog) Tryd.underlying49 sz8 w.heap.size
  go_enter Tryd.func33, Tryd.ntmps33
  go_wp2
  rw [← z8_16]
  refine wp_region_still_tail 2 (by kernel_rfl) (by kernel_rfl) ?_
  change wpStill _ _ (World.drew _) (fun a' => wpList _ _ _ _ a' (World.drew _)) _ _
  have r0 : Hid (RowAt (World.drew (((w.alloc (.cells (rowOf 32 (w8 g)) 49)).alloc (.cells (rowOf 16 (w8 zeroN)) 23)).alloc (.cells (rowOf 16 (w8 zeroN)) 23))) w.heap.size 49 (rowOf 32 (w8 g))) := ((RowAt.new _ _ _).alloc _).alloc _
  have r1 : Hid (RowAt (World.drew (((w.alloc (.cells (rowOf 32 (w8 g)) 49)).alloc (.cells (rowOf 16 (w8 zeroN)) 23)).alloc (.cells (rowOf 16 (w8 zeroN)) 23))) (w.heap.size + 1) 23 (rowOf 16 (w8 zeroN))) := row_new1 w _ _ _ _
  have r2 : Hid (RowAt (World.drew (((w.alloc (.cells (rowOf 32 (w8 g)) 49)).alloc (.cells (rowOf 16 (w8 zeroN)) 23)).alloc (.cells (rowOf 16 (w8 zeroN)) 23))) (w.heap.size + 1 + 1) 23 (rowOf 16 (w8 zeroN))) := row_new2 w _ _ _ _
  have b0 : Below w.heap.size w (World.drew (((w.alloc (.cells (rowOf 32 (w8 g)) 49)).alloc (.cells (rowOf 16 (w8 zeroN)) 23)).alloc (.cells (rowOf 16 (w8 zeroN)) 23))) := ((((Below.refl _ _).alloc (Nat.le_refl _) _).alloc (by simp) _).alloc (by simp; omega) _).drew
  generalize World.drew _ = w1 at *
  have cp := Lib.hid (run_copy_bytes (P := Tryd.prog) w1 45 45 3 5 (w.heap.size + 1 + 1) w.heap.size 16 16 32 32 zeroN g 16 32 23 49 Tryd.underlying45 sz8 r2.out r0.out 16 rfl (by decide) (by decide))
  rw [laid_all] at cp
  simp only [List.take_succ_cons, List.take_zero, List.drop_succ_cons, List.drop_zero]
  refine wpStill_of_quiet _ _ ?_
  repeat (first | go_big_quiet_skip | (go_big_quiet_want; go_big_quiet_op; go_big_quiet_on))
  refine wpQuiet_nil ?_
  clear sl1 sl2
  have hr2 := Lib.hid (r2.out.setRow (rowOf 16 (w8 g)))
  have hr1 := Lib.hid (r1.out.setRowOther (w.heap.size + 1 + 1) (rowOf 16 (w8 g)) (by omega))
  have b2 := below_setRow' b0 (show w.heap.size ≤ w.heap.size + 1 + 1 by omega) (rowOf 16 (w8 g))
  refine wpList_copy_known _ rfl _ _ 45 45 rfl _ _ rfl rfl cp.out ?_
  generalize World.setRow _ _ _ = w2 at *
  clear cp b0 r0 r1 r2
  go_wp2_with (first | (refine wpList_load_row rfl 23 _ rfl (w.heap.size + 1 + 1) rfl 23 _ (0, 0) _ hr2.out Tryd.underlying23 rfl (info_key _) ?_) | (refine wpList_store_row rfl 23 _ _ rfl (w.heap.size + 1) (rowOf 16 (w8 g)) rfl rfl 23 _ hr1.out (info_key _) (by rw [rowOf_size, rowOf_size]) (rowOf_cells8 _ _) ?_))
  refine bodyPost_ret (v := .agg (rowOf 16 (w8 g))) ?_ rfl ⟨rfl, below_setRow' b2 (by omega) _⟩
  exact results_cell_row Tryd.results33 _ _ (w.heap.size + 1) 23 (rowOf 16 (w8 g)) (0, 0) _ rfl (hr1.out.setRow _) Tryd.underlying23 rfl (info_key _)

end Go.Proofs.YtacekpjkgkkekaaDoor
/-
  Plain mathematics of sums: a text's blocks, one behind the other; what a text that comes in parts has left.
-/
namespace Go.Proofs.YtacekpjkgkkekaaDoor

/-- What the first k blocks of a text come to. -/
def foldN (T : List UInt8) : Nat → Nat → Nat
  | 0 => firstN
  | k + 1 => stepN (foldN T k) (fun j => byteL T (64 * k + j))

theorem foldN_words (T : List UInt8) (k : Nat) : Words (foldN T k) := by
  cases k with
  | zero => exact firstN_words
  | succ k => exact stepN_words _ _

theorem byteL_append (T X : List UInt8) (j : Nat) (h : j < T.length) : byteL (T ++ X) j = byteL T j := by
  unfold byteL
  rw [List.getD_eq_getElem?_getD, List.getD_eq_getElem?_getD, List.getElem?_append_left h]

theorem byteL_append_right (T X : List UInt8) (j : Nat) (h : T.length ≤ j) : byteL (T ++ X) j = byteL X (j - T.length) := by
  unfold byteL
  rw [List.getD_eq_getElem?_getD, List.getD_eq_getElem?_getD, List.getElem?_append_right h]

theorem byteL_take (X : List UInt8) (n j : Nat) (h : j < n) : byteL (X.take n) j = byteL X j := by
  unfold byteL
  simp [List.getD_eq_getElem?_getD, h]

theorem byteL_drop (X : List UInt8) (n j : Nat) : byteL (X.drop n) j = byteL X (n + j) := by
  unfold byteL
  simp [List.getD_eq_getElem?_getD, List.getElem?_drop]

theorem foldN_append (T X : List UInt8) (k : Nat) (h : 64 * k ≤ T.length) : foldN (T ++ X) k = foldN T k := by
  induction k with
  | zero => rfl
  | succ k ih =>
    unfold foldN
    rw [ih (by omega)]
    exact stepN_congr _ fun j hj => byteL_append T X _ (by omega)

/-- The block holds what has come of it. -/
def Fed (T : List UInt8) (blk : Nat → Nat) : Prop := ∀ j, j < T.length % 64 → blk j = byteL T (64 * (T.length / 64) + j)

theorem laid_bytes {f g : Nat → Nat} (hf : Bytes f) (hg : Bytes g) (o n : Nat) : Bytes (laid f g o n) := by
  intro j
  unfold laid
  split
  · exact hg _
  · exact hf _

theorem fed_laid (T R : List UInt8) (blk : Nat → Nat) (n : Nat) (h : Fed T blk) : ∀ j, j < T.length % 64 + n → laid blk (byteL R) (T.length % 64) n j = byteL (T ++ R.take n) (64 * (T.length / 64) + j) := by
  intro j hj
  unfold laid
  by_cases c : T.length % 64 ≤ j
  · rw [if_pos (by omega), byteL_append_right _ _ _ (by omega), byteL_take _ _ _ (by omega)]
    congr 1
    omega
  · rw [if_neg (by omega), byteL_append _ _ _ (by omega)]
    exact h j (by omega)

theorem fed_more (T R : List UInt8) (blk : Nat → Nat) (n : Nat) (hn : n ≤ R.length) (h : Fed T blk) (hlt : T.length % 64 + n < 64) :
    Fed (T ++ R.take n) (laid blk (byteL R) (T.length % 64) n) ∧ (T ++ R.take n).length % 64 = T.length % 64 + n ∧ foldN (T ++ R.take n) ((T ++ R.take n).length / 64) = foldN T (T.length / 64) := by
  have hl : (T ++ R.take n).length = T.length + n := by simp; omega
  have h1 : (T.length + n) % 64 = T.length % 64 + n := by omega
  have h2 : (T.length + n) / 64 = T.length / 64 := by omega
  refine ⟨?_, by rw [hl, h1], by rw [hl, h2]; exact foldN_append _ _ _ (by omega)⟩
  intro j hj
  rw [hl, h1] at hj
  rw [hl, h2]
  exact fed_laid T R blk n h j hj

theorem fed_full (T R : List UInt8) (blk : Nat → Nat) (n : Nat) (hn : n ≤ R.length) (h : Fed T blk) (he : T.length % 64 + n = 64) (blk' : Nat → Nat) :
    Fed (T ++ R.take n) blk' ∧ (T ++ R.take n).length % 64 = 0 ∧ foldN (T ++ R.take n) ((T ++ R.take n).length / 64) = stepN (foldN T (T.length / 64)) (laid blk (byteL R) (T.length % 64) n) := by
  have hl : (T ++ R.take n).length = T.length + n := by simp; omega
  have h1 : (T.length + n) % 64 = 0 := by omega
  have h2 : (T.length + n) / 64 = T.length / 64 + 1 := by omega
  refine ⟨?_, by rw [hl, h1], ?_⟩
  · intro j hj
    rw [hl, h1] at hj
    omega
  · rw [hl, h2]
    show stepN (foldN (T ++ R.take n) (T.length / 64)) _ = _
    rw [foldN_append _ _ _ (by omega)]
    exact stepN_congr _ fun j hj => (fed_laid T R blk n h j (by omega)).symm

/-- The bytes of the sum of a text. -/
def sumN (T : List UInt8) : Nat → Nat := hashN (foldN (T ++ fillL T.length) ((T ++ fillL T.length).length / 64))

theorem full_length (T : List UInt8) : (T ++ fillL T.length).length % 64 = 0 := by
  rw [List.length_append, fillL_length]
  unfold fillZ
  omega

end Go.Proofs.YtacekpjkgkkekaaDoor
/-
  Contract: the closure of Sum that takes one part.
-/
namespace Go.Proofs.YtacekpjkgkkekaaDoor
open Go.RowKit

/-- The captured variables, where the text T has come. -/
def SumAt (w : World) (pb pa ph : Nat) (T : List UInt8) : Prop :=
  ∃ blk, Bytes blk ∧ Fed T blk ∧ RowAt w pb 64 (rowOf 64 (w8 blk)) ∧ RowAt w pa 3 #[.int .i64 ((T.length % 64 : Nat) : Int)] ∧ RowAt w ph 80 (rowOf 8 (w32 (foldN T (T.length / 64))))

theorem SumAt.below {B : Nat} {w w' : World} {pb pa ph : Nat} {T : List UInt8} (h : SumAt w pb pa ph T) (hb : Below B w w') (h1 : pb < B) (h2 : pa < B) (h3 : ph < B) : SumAt w' pb pa ph T := by
  obtain ⟨blk, a, b, c, d, e⟩ := h
  exact ⟨blk, a, b, c.below hb h1, d.below hb h2, e.below hb h3⟩

theorem row_one_set {w : World} {p : Nat} {t : TypeId} {v : Value} (h : RowAt w p t #[v]) (u : Value) : RowAt (w.setCell ⟨p, 0, none⟩ u) p t #[u] := (h.set 0 u).congr rfl

theorem bytes_drop (s : ByteArray) (k : Nat) : (s.extract k s.size).data.toList = s.data.toList.drop k := by
  rw [ByteArray.data_extract]
  have h : s.size = s.data.size := rfl
  rw [h, Array.toList_extract, List.extract_eq_take_drop]
  apply List.take_of_length_le
  simp

theorem bytes_take (s : ByteArray) (k : Nat) : (s.extract 0 k).data.toList = s.data.toList.take k := by
  rw [ByteArray.data_extract, Array.toList_extract, List.extract_eq_take_drop]
  simp

set_option maxHeartbeats 1000000 in
set_option maxRecDepth 8000 in
theorem add_any (base pb pa ph : Nat) (T : List UInt8) (s : ByteArray) (hm : s.size ≤ 9223372036854775807) (w : World) (hk : Hid (KRow w)) (hS : Hid (SumAt w pb pa ph T)) (b0 : 0 < base) (h1 : base ≤ pb) (h2 : base ≤ pa) (h3 : base ≤ ph) (n1 : pb ≠ pa) (n2 : pb ≠ ph) (n3 : pa ≠ ph) :
    Calls Tryd.prog 48 #[.string s, .pointer (some ⟨pb, 0, none⟩), .pointer (some ⟨pa, 0, none⟩), .pointer (some ⟨ph, 0, none⟩)] w
      fun e w' => e = .returned (.tuple #[]) ∧ Hid (SumAt w' pb pa ph (T ++ s.data.toList)) ∧ Below base w w' := by
  go_enter Tryd.func48, Tryd.ntmps48
  go_wp2
  go_loopw [0] (fun t wr => ∃ (c : List UInt8) (r : ByteArray), t = .string r ∧ r.size ≤ 9223372036854775807 ∧ Hid (s.data.toList = c ++ r.data.toList) ∧ Hid (SumAt wr pb pa ph (T ++ c)) ∧ Below base w wr)
    (fun t _ => match t with | .string r => r.size | _ => 0)
  case atStart => exact ⟨[], s, rfl, hm, rfl, by rw [List.append_nil]; exact hS, Below.refl _ _⟩
  case round =>
    clear hS
    obtain ⟨c, r, rfl, hrm, hcr, hS, hbl⟩ := hrel
    obtain ⟨blk, hB, hF, rb, ra, rh⟩ := hS.out
    have HB := Lib.hid hB
    have HF := Lib.hid hF
    have RB := Lib.hid rb
    have RA := Lib.hid ra
    have RH := Lib.hid rh
    clear hB hF rb ra rh hS
    by_cases hr0 : 0 < r.size
    · generalize hT : T ++ c = U at *
      have HT := Lib.hid hT
      clear hT
      obtain ⟨a, ha⟩ : ∃ a, U.length % 64 = a := ⟨_, rfl⟩
      have la : a < 64 := by rw [← ha]; exact Nat.mod_lt _ (by decide)
      rw [ha] at RA
      have HA := Lib.hid ha
      obtain ⟨n, hn⟩ : ∃ n, min r.size (64 - a) = n := ⟨_, rfl⟩
      have l1 : n ≤ r.size := by omega
      have l2 : a + n ≤ 64 := by omega
      have l0 : 0 < n := by omega
      have HN := Lib.hid hn
      have sl := run_slice_l (P := Tryd.prog) Tryd.underlying64 sz8 pb (a : Int) a rfl la
      have cp := Lib.hid (run_copy_text (P := Tryd.prog) wr 45 9 3 5 pb a (64 - a) (64 - a) r blk 64 64 Tryd.underlying45 sz8 RB.out n hn.symm l2)
      have ca := cell_of_one RA.out
      have rg : (0 : Int) < (r.size : Int) := by omega
      have rl : (n : Int) ≤ (r.size : Int) := by omega
      have R9 : r.data.toList.length = r.size := by simp
      have hnl : n ≤ r.data.toList.length := by rw [R9]; exact l1
      have hB2 := Lib.hid (laid_bytes HB.out (byteL_bytes r.data.toList) a n)
      have hcr2 : Hid (s.data.toList = (c ++ r.data.toList.take n) ++ (r.extract n r.size).data.toList) := by
        unfold Hid
        rw [hcr.out, List.append_assoc]
        congr 1
        rw [show (r.extract n r.size).data.toList = r.data.toList.drop n from ?_, List.take_append_drop]
        exact bytes_drop r n
      clear hn ha
      have rb2 := Lib.hid (RB.out.setRow (rowOf 64 (w8 (laid blk (byteL r.data.toList) a n))))
      have ra2 := Lib.hid (RA.out.setRowOther pb (rowOf 64 (w8 (laid blk (byteL r.data.toList) a n))) n1.symm)
      have rh2 := Lib.hid (RH.out.setRowOther pb (rowOf 64 (w8 (laid blk (byteL r.data.toList) a n))) n2.symm)
      have hb2 := below_setRow' hbl h1 (rowOf 64 (w8 (laid blk (byteL r.data.toList) a n)))
      have hrm2 : (r.extract n r.size).size ≤ 9223372036854775807 := by rw [ByteArray.size_extract]; omega
      have hms : (r.extract n r.size).size < r.size := by rw [ByteArray.size_extract]; omega
      by_cases hfull : a + n = 64
      · have ef : (a : Int) + (n : Int) = 64 := by omega
        have FF := Lib.hid (fun blk' => fed_full U r.data.toList blk n hnl HF.out (by rw [HA.out]; exact hfull) blk')
        rw [HA.out] at FF
        have hB3 := Lib.hid (laid_bytes HB.out (byteL_bytes r.data.toList) a n)
        have hW3 := Lib.hid (foldN_words U (U.length / 64))
        generalize laid blk (byteL r.data.toList) a n = blk2 at *
        generalize hV : U ++ r.data.toList.take n = V at *
        have HV := Lib.hid hV
        have HFU := Lib.hid hfull
        clear hV hfull HF HB
        go_wp2_with (first | (refine wpList_copy_known _ rfl _ _ 45 9 rfl _ _ rfl rfl cp.out ?_; clear cp sl ca; generalize World.setRow _ _ _ = w2 at *; have ca2 := cell_of_one ra2.out; have fa2 := free_of_one ra2.out; have rb3 := Lib.hid (rb2.out.setOther ⟨pa, 0, none⟩ (.int .i64 64) n1); have rh3 := Lib.hid (rh2.out.setOther ⟨pa, 0, none⟩ (.int .i64 64) n3.symm); have ra3 := Lib.hid (row_one_set ra2.out (.int .i64 64)); have hb3 := hb2.setCell (p := ⟨pa, 0, none⟩) h2 (.int .i64 64)) | (refine wpList_load_row rfl 80 _ rfl ph rfl 80 _ (0, 0) _ rh3.out Tryd.underlying80 rfl (info_w8 _) ?_) | (refine wpList_load_row rfl 64 _ rfl pb rfl 64 _ (0, 0) _ rb3.out Tryd.underlying64 rfl (info_b64 _) ?_))
        generalize World.setCell _ _ _ = w3 at *
        refine (step_any _ _ hW3 hB3 _ (hk.out.below hb3 b0 hb3.size)).mono ?_
        rintro e w4 ⟨rfl, hb4⟩
        have E := Lib.hid (FF.out blk2)
        rw [← E.out.2.2]
        have rb4 : Hid (RowAt w4 pb 64 (rowOf 64 (w8 blk2))) := rb3.out.below hb4 rb3.out.lt
        have ra4 : Hid (RowAt w4 pa 3 #[.int .i64 64]) := ra3.out.below hb4 ra3.out.lt
        have rh4 : Hid (RowAt w4 ph 80 (rowOf 8 (w32 (foldN U (U.length / 64))))) := rh3.out.below hb4 rh3.out.lt
        have hb5 : Below base w w4 := hb3.trans (hb4.mono (Nat.le_of_lt (Nat.lt_of_le_of_lt h1 rb3.out.lt)))
        obtain ⟨y, hy⟩ : ∃ y, foldN V (V.length / 64) = y := ⟨_, rfl⟩
        rw [hy]
        have HY := Lib.hid hy
        have ra5 := Lib.hid (ra4.out.setRowOther ph (rowOf 8 (w32 y)) n3)
        have rb5 := Lib.hid (rb4.out.setRowOther ph (rowOf 8 (w32 y)) n2)
        have rh5 := Lib.hid (rh4.out.setRow (rowOf 8 (w32 y)))
        have hb6 := below_setRow' hb5 h3 (rowOf 8 (w32 y))
        clear hy hb4 rb3 ra3 rh3 hb3 FF rb4 ra4 hb5 rb2 ra2 rh2 hb2 ca2 fa2
        go_wp2_with (refine wpList_store_row rfl 80 _ _ rfl ph (rowOf 8 (w32 y)) rfl rfl 80 _ rh4.out (info_w8 _) (by rw [rowOf_size, rowOf_size]) (rowOf_cells32 _ _) ?_; clear rh4; generalize World.setRow _ _ _ = w5 at *; have ca5 := cell_of_one ra5.out; have fa5 := free_of_one ra5.out)
        go_roundw
        case rel =>
          refine ⟨c ++ r.data.toList.take n, _, rfl, hrm2, hcr2, ?_, hb6.setCell (p := ⟨pa, 0, none⟩) h2 _⟩
          rw [← List.append_assoc, HT.out, HV.out]
          refine ⟨blk2, hB2.out, E.out.1, rb5.out.setOther _ _ n1, ?_, ?_⟩
          · rw [E.out.2.1]; exact row_one_set ra5.out _
          · rw [HY.out]; exact rh5.out.setOther _ _ n3.symm
        case measure => exact hms
      · obtain ⟨m, hmn⟩ : ∃ m, a + n = m := ⟨_, rfl⟩
        have ef : (a : Int) + (n : Int) = (m : Int) := by omega
        have lm : m < 64 := by omega
        have em : ((m : Int) == 64) = false := by simp; omega
        have HM := Lib.hid hmn
        have FF := Lib.hid (fed_more U r.data.toList blk n hnl HF.out (by rw [HA.out]; omega))
        rw [HA.out, HM.out] at FF
        generalize laid blk (byteL r.data.toList) a n = blk2 at *
        generalize hV : U ++ r.data.toList.take n = V at *
        have HV := Lib.hid hV
        clear hV hfull HF HB hmn
        go_wp2_with (first | (refine wpList_copy_known _ rfl _ _ 45 9 rfl _ _ rfl rfl cp.out ?_; clear cp sl ca; generalize World.setRow _ _ _ = w2 at *; have ca2 := cell_of_one ra2.out; have fa2 := free_of_one ra2.out; have rb3 := Lib.hid (rb2.out.setOther ⟨pa, 0, none⟩ (.int .i64 (m : Int)) n1); have rh3 := Lib.hid (rh2.out.setOther ⟨pa, 0, none⟩ (.int .i64 (m : Int)) n3.symm); have ra3 := Lib.hid (row_one_set ra2.out (.int .i64 (m : Int))); have hb3 := hb2.setCell (p := ⟨pa, 0, none⟩) h2 (.int .i64 (m : Int))))
        go_roundw
        case rel =>
          refine ⟨c ++ r.data.toList.take n, _, rfl, hrm2, hcr2, ?_, hb3⟩
          rw [← List.append_assoc, HT.out, HV.out]
          refine ⟨blk2, hB2.out, FF.out.1, rb3.out, ?_, ?_⟩
          · rw [FF.out.2.1]; exact ra3.out
          · rw [FF.out.2.2]; exact rh3.out
        case measure => exact hms
    · have hr1 : r.size = 0 := by omega
      have rg : ¬ (0 : Int) < (r.size : Int) := by omega
      have rn : r.data.toList = [] := by
        apply List.eq_nil_of_length_eq_zero
        simpa using hr1
      have hS2 : Hid (SumAt wr pb pa ph (T ++ s.data.toList)) := by
        rw [hcr.out, rn, List.append_nil]
        exact ⟨blk, HB.out, HF.out, RB.out, RA.out, RH.out⟩
      clear hr1 rn hcr
      go_wp2
      go_end0
      exact ⟨rfl, hS2, hbl⟩

end Go.Proofs.YtacekpjkgkkekaaDoor
