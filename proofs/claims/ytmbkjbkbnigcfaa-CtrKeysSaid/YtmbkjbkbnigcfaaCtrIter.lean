/-
  The iterator: it hands out the bytes of the stream, one behind the other.
-/
import Derived.Test.YtmbkjbkbnigcfaaCtrCount
import Derived.OwnWalkIn
import Derived.TacticsInMore
namespace Go.Proofs.Ytmbkjbkbnigcfaa
open Go.RowKit

/-- What the iterator has when k bytes have come: its cipher, its block, what it has captured. -/
structure ItI (s m p q : Nat) (key : Nat → Nat) (nonce fr to k : Nat) (w : World) : Prop where
  cip : Cip w p key
  blk : ∃ b, RowAt w q 23 (rowOf 16 (w8 b)) ∧ (0 < k → b = lockN key (cntN nonce ((fr + k - 1) / 16)))
  cap : Cap s key nonce fr to w
  hp : m ≤ p
  hq : m ≤ q
  hs : s + 3 < m

section
variable {s m p q nonce fr to k : Nat} {key : Nat → Nat} {A B : World}

theorem Cip.outer (h : Cip A p key) (k : Outer A B) : Cip B p key := by
  rcases h with ⟨x, h1, h2⟩ | h
  · exact .inl ⟨x, k.row h1 rfl, h2⟩
  · exact .inr (k.row h rfl)
theorem ItI.outer (h : ItI s m p q key nonce fr to k A) (o : Outer A B) : ItI s m p q key nonce fr to k B := by
  obtain ⟨b, hb, he⟩ := h.blk
  exact ⟨h.cip.outer o, ⟨b, o.row hb rfl, he⟩, h.cap.outer o, h.hp, h.hq, h.hs⟩
theorem ItI.after (h : ItI s m p q key nonce fr to k A) (hb : Below A.heap.size A B) : ItI s m p q key nonce fr to k B := h.outer (Outer.of_below hb)
theorem ItI.ne (h : ItI s m p q key nonce fr to k A) : p ≠ q := fun e => by
  obtain ⟨b, hb, _⟩ := h.blk
  subst e
  have hb' : A.heap[p]? = _ := hb
  rcases h.cip with ⟨x, h1, _⟩ | h1
  · have h1' : A.heap[p]? = _ := h1
    rw [hb'] at h1'
    injection h1' with h1'
    injection h1' with _ h2 _
    exact absurd h2 (by decide)
  · have h1' : A.heap[p]? = _ := h1
    rw [hb'] at h1'
    injection h1' with h1'
    injection h1' with _ h2 _
    exact absurd h2 (by decide)
theorem Cip.inner (h : Cip A p key) (hp : m ≤ p) (ha : Apart p A B) : Inner m A B := by
  rcases h with ⟨x, h1, _⟩ | h1
  · exact Inner.of_apart ha hp h1 rfl
  · exact Inner.of_apart ha hp h1 rfl
/-- A block was locked. -/
theorem ItI.locked (h : ItI s m p q key nonce fr to k A) (hm : Made B p key) (ha : Apart p A B) : ItI s m p q key nonce fr to k B := by
  obtain ⟨b, hb, he⟩ := h.blk
  exact ⟨.inr hm, ⟨b, ha.row hb h.ne.symm, he⟩, h.cap.inner (h.cip.inner h.hp ha) h.hs, h.hp, h.hq, h.hs⟩
/-- The block that was locked is laid. -/
theorem ItI.laid (h : ItI s m p q key nonce fr to k A) : ItI s m p q key nonce fr to (k + 1) (A.setRow q (rowOf 16 (w8 (lockN key (cntN nonce ((fr + k) / 16)))))) ∧
    RowAt (A.setRow q (rowOf 16 (w8 (lockN key (cntN nonce ((fr + k) / 16)))))) q 23 (rowOf 16 (w8 (lockN key (cntN nonce ((fr + k) / 16))))) ∧
    Inner m A (A.setRow q (rowOf 16 (w8 (lockN key (cntN nonce ((fr + k) / 16)))))) := by
  obtain ⟨b, hb, he⟩ := h.blk
  have hr := hb.setRow (rowOf 16 (w8 (lockN key (cntN nonce ((fr + k) / 16)))))
  have hi : Inner m A (A.setRow q (rowOf 16 (w8 (lockN key (cntN nonce ((fr + k) / 16)))))) := Inner.of_apart ((Apart.refl q A).setRow _) h.hq hb rfl
  refine ⟨⟨?_, ⟨_, hr, fun _ => by rw [show fr + (k + 1) - 1 = fr + k by omega]⟩, h.cap.inner hi h.hs, h.hp, h.hq, h.hs⟩, hr, hi⟩
  rcases h.cip with ⟨x, h1, h2⟩ | h1
  · exact .inl ⟨x, h1.setRowOther _ _ h.ne, h2⟩
  · exact .inr (RowAt.setRowOther h1 _ _ h.ne)
theorem ItI.kept (h : ItI s m p q key nonce fr to k A) (h0 : 0 < k) (hd : (fr + k) % 16 ≠ 0) : ItI s m p q key nonce fr to (k + 1) A ∧ RowAt A q 23 (rowOf 16 (w8 (lockN key (cntN nonce ((fr + k) / 16))))) := by
  obtain ⟨b, hb, he⟩ := h.blk
  have e : (fr + k - 1) / 16 = (fr + k) / 16 := by omega
  rw [he h0, e] at hb
  exact ⟨⟨h.cip, ⟨_, hb, fun _ => by rw [show fr + (k + 1) - 1 = fr + k by omega]⟩, h.cap, h.hp, h.hq, h.hs⟩, hb⟩
end

theorem wp_at_yield {P : Program} {ops : Array Oper} {Q : Exit → Act → World → Prop} {a : Act} {w : World} (h : (Code.region 8 ops false).wpIn Fence.wide 1 P Q a w) : (Code.region 8 ops false).wp P Q a w := wpIn_wide.1 h

set_option maxHeartbeats 2000000 in
set_option maxRecDepth 8000 in
theorem stream_seq (s : Nat) (key : Nat → Nat) (hk : Hid (Byt key)) (nonce fr to : Nat) (hn : Hid (nonce < 18446744073709551616)) (h1 : fr ≤ to) (h2 : to ≤ 5000) (w0 : World) (hs : s + 3 < w0.heap.size) (hc : Hid (Cap s key nonce fr to w0)) :
    SeqAll Try.prog 23 (capV s) (to - fr) (fun k => #[.int .u8 (streamN key nonce (fr + k) : Nat)]) w0 := by
  intro l J W hW hsz hJ hY h0
  have HY := Lib.hid hY
  have HJ := Lib.hid hJ
  have H0 := Lib.hid h0
  have cp : Hid (Cap s key nonce fr to W) := hc.out.inner hW hs
  clear hY hJ h0 hW hc
  show Calls _ _ #[.func (.yield l) #[] #[], .pointer (some ⟨s, 0, none⟩), .pointer (some ⟨s + 2, 0, none⟩), .pointer (some ⟨s + 3, 0, none⟩), .pointer (some ⟨s + 1, 0, none⟩)] W _
  have ld : Hid (RowAt W s 23 (rowOf 16 (w8 key))) := cp.out.key
  go_enter Try.func23, Try.ntmps23
  go_wp2_with (refine wpList_load_row rfl 23 _ rfl s rfl 23 (rowOf 16 (w8 key)) (0, 0) _ ld.out Try.underlying23 rfl (info_key _) ?_)
  refine (new_any key W).mono ?_
  rintro e w1 ⟨p, rfl, hp, hf, hb1⟩
  have j1 : Hid (J 0 (w1.alloc (.cells (rowOf 16 (w8 zeroN)) 23))) := HJ.out 0 _ _ (HJ.out 0 _ _ H0.out (Inner.of_below hb1)) (Inner.of_below ((Below.refl _ _).alloc (Nat.le_refl _) _))
  have i1 : Hid (ItI s W.heap.size p w1.heap.size key nonce fr to 0 (w1.alloc (.cells (rowOf 16 (w8 zeroN)) 23))) :=
    ⟨.inl (hf.below ((Below.refl _ _).alloc (Nat.le_refl _) _) hf.lt), ⟨zeroN, RowAt.new _ _ _, fun h => absurd h (by omega)⟩,
      (cp.out.outer (Outer.of_below hb1)).outer (Outer.of_below ((Below.refl _ _).alloc (Nat.le_refl _) _)), hp, hb1.size, by omega⟩
  have c1 : (w1.alloc (.cells (rowOf 16 (w8 zeroN)) 23)).cell? ⟨s + 2, 0, none⟩ = some (.int .i64 (fr : Int)) := cell_of_one i1.out.cap.fr
  clear hf hb1 H0 cp ld
  rw [z8_16] at j1 i1 c1
  generalize hq : w1.heap.size = q at *
  go_wp2
  clear hq
  generalize World.alloc w1 _ = w2 at *
  clear c1
  go_loopw [8] (fun i wr => ∃ k : Nat, k ≤ to - fr ∧ i = .int .i64 ((fr + k : Nat) : Int) ∧ Hid (J k wr) ∧ Hid (ItI s W.heap.size p q key nonce fr to k wr)) (fun i _ => to - (intOf i).toNat)
  case atStart => exact ⟨0, by omega, rfl, j1, i1⟩
  case round =>
    clear j1 i1
    obtain ⟨k, hkl, rfl, hj, hi⟩ := hrel
    obtain ⟨x, hx⟩ : ∃ x, x = fr + k := ⟨_, rfl⟩
    rw [← hx]
    replace hx := Lib.hid hx
    have ct := cell_of_one hi.out.cap.to
    by_cases hlt : k < to - fr
    · have cf := cell_of_one hi.out.cap.fr
      have cn := cell_of_one hi.out.cap.nonce
      have hx2 : (x : Int) < to := by have := hx.out; omega
      obtain ⟨c, hxc⟩ : ∃ c, x / 16 = c := ⟨_, rfl⟩
      obtain ⟨d, hxd⟩ : ∃ d, x % 16 = d := ⟨_, rfl⟩
      have ec : (x : Int) / 16 = (c : Int) := by omega
      have ed : (x : Int) % 16 = (d : Int) := by omega
      have hd16 : d < 16 := by omega
      have hc5 : c < 100000 := by have := hx.out; omega
      have hx5 : x < 5000 := by have := hx.out; omega
      replace hxc := Lib.hid hxc
      replace hxd := Lib.hid hxd
      have C := Lib.hid (fun w => counted_any nonce c hn hc5 w)
      by_cases hz : k = 0
      · have t1 : ((x : Int) == (fr : Int)) = true := by have := hx.out; simp; omega
        go_wp2_with fail
        refine (C.out wr).mono ?_
        rintro e w1 ⟨rfl, hb1⟩
        have j1 := Lib.hid (HJ.out k wr w1 hj.out (Inner.of_below hb1))
        have i1 := Lib.hid (hi.out.after hb1)
        clear hb1 C
        go_wp2_with fail
        refine (lock_any p key (cntN nonce c) hk (cnt_byt nonce c) w1 i1.out.cip).mono ?_
        rintro e w2 ⟨rfl, hm2, ha2⟩
        have j2 := Lib.hid (HJ.out k w1 w2 j1.out (i1.out.cip.inner i1.out.hp ha2))
        have i2 := Lib.hid (i1.out.locked hm2 ha2)
        clear hm2 ha2 j1 i1
        obtain ⟨b2, hb2, _⟩ := i2.out.blk
        have rb2 := Lib.hid hb2
        have L2 := i2.out.laid
        rw [← hx.out, hxc.out] at L2
        have iz := Lib.hid L2.1
        have rq := Lib.hid L2.2.1
        have jz := Lib.hid (HJ.out k w2 _ j2.out L2.2.2)
        clear L2 hb2 i2 j2
        go_wp2_with (refine wpList_store_row rfl 23 _ _ rfl q (rowOf 16 (w8 (lockN key (cntN nonce c)))) rfl rfl 23 _ rb2.out (info_key _) (by rw [rowOf_size, rowOf_size]) (rowOf_cells8 _ _) (Hid.out ?_))
        unfold Hid
        clear rb2
        generalize w2.setRow q (rowOf 16 (w8 (lockN key (cntN nonce c)))) = wz at *
        repeat (first | (with_reducible refine wp_at_yield ?_) | go_values | go_skip | go_guarded | go_step | go_upon | go_back)
        have cl := rq.out.cell d hd16
        rw [show w8 (lockN key (cntN nonce c)) d = .int .u8 ((streamN key nonce x : Nat) : Int) from by unfold w8 streamN; rw [hxc.out, hxd.out]] at cl
        obtain ⟨fn, tm, asg, bd, hy, hR⟩ := HY.out k wz jz.out hlt
        rw [← hx.out] at hy
        have hR' := Lib.hid hR
        clear hR
        try rw [ed]
        clear ed ec
        gi_wp2
        refine hR'.out.mono ?_
        rintro e w4 ⟨rfl, j4, o4⟩
        have it4 := Lib.hid (iz.out.outer o4)
        have j4' := Lib.hid j4
        clear hR' hy cl j4 o4 jz iz rq
        gi_wp2
        go_wp2
        go_roundw
        case rel => exact ⟨k + 1, by omega, by rw [← Nat.add_assoc, ← hx.out]; go_num, j4', it4⟩
        case measure => simp [intOf]; omega
      · have t1 : ((x : Int) == (fr : Int)) = false := by have := hx.out; simp; omega
        by_cases hd0 : d = 0
        · have t2 : ((x : Int) % 16 == 0) = true := by simp; omega
          subst hd0
          go_wp2_with fail
          refine (C.out wr).mono ?_
          rintro e w1 ⟨rfl, hb1⟩
          have j1 := Lib.hid (HJ.out k wr w1 hj.out (Inner.of_below hb1))
          have i1 := Lib.hid (hi.out.after hb1)
          clear hb1 C
          go_wp2_with fail
          refine (lock_any p key (cntN nonce c) hk (cnt_byt nonce c) w1 i1.out.cip).mono ?_
          rintro e w2 ⟨rfl, hm2, ha2⟩
          have j2 := Lib.hid (HJ.out k w1 w2 j1.out (i1.out.cip.inner i1.out.hp ha2))
          have i2 := Lib.hid (i1.out.locked hm2 ha2)
          clear hm2 ha2 j1 i1
          obtain ⟨b2, hb2, _⟩ := i2.out.blk
          have rb2 := Lib.hid hb2
          have L2 := i2.out.laid
          rw [← hx.out, hxc.out] at L2
          have iz := Lib.hid L2.1
          have rq := Lib.hid L2.2.1
          have jz := Lib.hid (HJ.out k w2 _ j2.out L2.2.2)
          clear L2 hb2 i2 j2
          go_wp2_with (refine wpList_store_row rfl 23 _ _ rfl q (rowOf 16 (w8 (lockN key (cntN nonce c)))) rfl rfl 23 _ rb2.out (info_key _) (by rw [rowOf_size, rowOf_size]) (rowOf_cells8 _ _) (Hid.out ?_))
          unfold Hid
          clear rb2
          generalize w2.setRow q (rowOf 16 (w8 (lockN key (cntN nonce c)))) = wz at *
          repeat (first | (with_reducible refine wp_at_yield ?_) | go_values | go_skip | go_guarded | go_step | go_upon | go_back)
          have cl := rq.out.cell 0 hd16
          rw [show w8 (lockN key (cntN nonce c)) 0 = .int .u8 ((streamN key nonce x : Nat) : Int) from by unfold w8 streamN; rw [hxc.out, hxd.out]] at cl
          obtain ⟨fn, tm, asg, bd, hy, hR⟩ := HY.out k wz jz.out hlt
          rw [← hx.out] at hy
          have hR' := Lib.hid hR
          clear hR
          try rw [ed]
          clear ed ec
          gi_wp2
          refine hR'.out.mono ?_
          rintro e w4 ⟨rfl, j4, o4⟩
          have it4 := Lib.hid (iz.out.outer o4)
          have j4' := Lib.hid j4
          clear hR' hy cl j4 o4 jz iz rq
          gi_wp2
          go_wp2
          go_roundw
          case rel => exact ⟨k + 1, by omega, by rw [← Nat.add_assoc, ← hx.out]; go_num, j4', it4⟩
          case measure => simp [intOf]; omega
        · have t2 : ((x : Int) % 16 == 0) = false := by simp; omega
          have L2 := hi.out.kept (by omega) (by have := hx.out; have := hxd.out; omega)
          rw [← hx.out, hxc.out] at L2
          have iz := Lib.hid L2.1
          have rq := Lib.hid L2.2
          have jz := hj
          clear L2 C
          repeat (first | (with_reducible refine wp_at_yield ?_) | go_values | go_skip | go_guarded | go_step | go_upon | go_back)
          have cl := rq.out.cell d hd16
          rw [show w8 (lockN key (cntN nonce c)) d = .int .u8 ((streamN key nonce x : Nat) : Int) from by unfold w8 streamN; rw [hxc.out, hxd.out]] at cl
          obtain ⟨fn, tm, asg, bd, hy, hR⟩ := HY.out k wr jz.out hlt
          rw [← hx.out] at hy
          have hR' := Lib.hid hR
          clear hR
          try rw [ed]
          clear ed ec
          gi_wp2
          refine hR'.out.mono ?_
          rintro e w4 ⟨rfl, j4, o4⟩
          have it4 := Lib.hid (iz.out.outer o4)
          have j4' := Lib.hid j4
          clear hR' hy cl j4 o4 jz iz rq
          gi_wp2
          go_wp2
          go_roundw
          case rel => exact ⟨k + 1, by omega, by rw [← Nat.add_assoc, ← hx.out]; go_num, j4', it4⟩
          case measure => simp [intOf]; omega
    · have hx2 : ¬ ((x : Int) < to) := by have := hx.out; omega
      have hke : k = to - fr := by omega
      subst hke
      go_wp2
      go_end0
      exact ⟨⟨_, rfl⟩, hj.out⟩

end Go.Proofs.Ytmbkjbkbnigcfaa
