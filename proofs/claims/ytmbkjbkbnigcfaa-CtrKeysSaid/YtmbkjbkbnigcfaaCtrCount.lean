/-
  Contracts: counted, stream.
-/
import Derived.Test.YtmbkjbkbnigcfaaCtrMath
import Derived.Test.YtmbkjbkbnigcfaaAesLock
import Derived.Test.YtmbkjbkbnigcfaaRange
namespace Go.Proofs.Ytmbkjbkbnigcfaa
open Go.RowKit

set_option maxHeartbeats 1000000 in
set_option maxRecDepth 8000 in
theorem counted_any (nonce i : Nat) (hn : Hid (nonce < 18446744073709551616)) (hi : i < 100000) (w : World) :
    Calls Try.prog 26 #[.int .u64 (nonce : Int), .int .i64 (i : Int)] w fun e w' => e = .returned (.agg (rowOf 16 (w8 (cntN nonce i)))) ∧ Below w.heap.size w w' := by
  have N1 : Hid (∀ w, Calls Try.prog 34 #[.int .u64 (nonce : Int), .int .i64 8] w fun e w' => e = .returned (.tuple #[.string (bs (numB 8 nonce)), .int .i64 0]) ∧ Below w.heap.size w w') :=
    fun w => number_yes nonce 8 (by omega) (by have := hn.out; unfold Hid; omega) (by omega) (by omega) (fits_8 _ (by have := hn.out; omega)) w
  have N2 : Hid (∀ w, Calls Try.prog 34 #[.int .u64 (i : Int), .int .i64 8] w fun e w' => e = .returned (.tuple #[.string (bs (numB 8 i)), .int .i64 0]) ∧ Below w.heap.size w w') :=
    fun w => number_yes i 8 (by omega) (by unfold Hid; omega) (by omega) (by omega) (fits_8 _ (by omega)) w
  obtain ⟨hl, hk⟩ := cnt_key nonce i _ rfl
  have T : Hid (∀ w, Calls Try.prog 35 #[.string (bs (numB 8 nonce) ++ bs (numB 8 i))] w fun e w' => e = .returned (.tuple #[.agg (rowOf 16 (w8 (cntN nonce i))), .string (bs ((bs (numB 8 nonce) ++ bs (numB 8 i)).data.toList.drop 16)), .int .i64 0]) ∧ Below w.heap.size w w') :=
    fun w => by rw [← hk]; exact takeKey_yes _ (Nat.le_of_eq hl.symm) w
  clear hl hk hn
  generalize cntN nonce i = f at *
  generalize bs (List.drop 16 _) = z at *
  have r0 : Hid (RowAt (w.alloc (.cells (rowOf 16 (w8 zeroN)) 23)) w.heap.size 23 (rowOf 16 (w8 zeroN))) := RowAt.new _ _ _
  have b0 : Below w.heap.size w (w.alloc (.cells (rowOf 16 (w8 zeroN)) 23)) := (Below.refl _ _).alloc (Nat.le_refl _) _
  go_enter Try.func26, Try.ntmps26
  go_wp2_with fail
  rw [← z8_16]
  generalize w.alloc (.cells (rowOf 16 (w8 zeroN)) 23) = w0 at *
  refine (N1.out w0).mono ?_
  rintro e w1 ⟨rfl, hb1⟩
  replace r0 := Lib.hid (r0.out.below hb1 r0.out.lt)
  replace b0 := b0.trans (hb1.mono b0.size)
  clear hb1
  go_wp2_with fail
  refine (N2.out w1).mono ?_
  rintro e w2 ⟨rfl, hb1⟩
  replace r0 := Lib.hid (r0.out.below hb1 r0.out.lt)
  replace b0 := b0.trans (hb1.mono b0.size)
  clear hb1
  have hz1 : (bs (numB 8 nonce)).size = 8 := by rw [bs_size, numB_length]
  have hz2 : (bs (numB 8 i)).size = 8 := by rw [bs_size, numB_length]
  go_wp2_with fail
  clear hz1 hz2
  refine (T.out w2).mono ?_
  rintro e w3 ⟨rfl, hb1⟩
  replace r0 := Lib.hid (r0.out.below hb1 r0.out.lt)
  replace b0 := b0.trans (hb1.mono b0.size)
  clear hb1 N1 N2 T
  have r1 : Hid (RowAt (w3.alloc (.cells (rowOf 16 (w8 zeroN)) 23)) w3.heap.size 23 (rowOf 16 (w8 zeroN))) := RowAt.new _ _ _
  have hlt := r0.out.lt
  have r2 : Hid (RowAt ((w3.alloc (.cells (rowOf 16 (w8 zeroN)) 23)).setRow w3.heap.size (rowOf 16 (w8 f))) w3.heap.size 23 (rowOf 16 (w8 f))) := r1.out.setRow _
  have r3 : Hid (RowAt ((w3.alloc (.cells (rowOf 16 (w8 zeroN)) 23)).setRow w3.heap.size (rowOf 16 (w8 f))) w.heap.size 23 (rowOf 16 (w8 zeroN))) := (r0.out.alloc _).setRowOther _ _ (by omega)
  rw [z8_16] at r1 r2 r3
  go_wp2_with (first | (refine wpList_store_row rfl 23 _ _ rfl w3.heap.size (rowOf 16 (w8 f)) rfl rfl 23 _ r1.out (info_key _) (by rw [rowOf_size]; rfl) (rowOf_cells8 _ _) ?_) | (refine wpList_load_row rfl 23 _ rfl w3.heap.size rfl 23 (rowOf 16 (w8 f)) (0, 0) _ r2.out Try.underlying23 rfl (info_key _) ?_) | (refine wpList_store_row rfl 23 _ _ rfl w.heap.size (rowOf 16 (w8 f)) rfl rfl 23 _ r3.out (info_key _) (by rw [rowOf_size]; rfl) (rowOf_cells8 _ _) ?_))
  refine bodyPost_ret (v := .agg (rowOf 16 (w8 f))) ?_ rfl ⟨rfl, below_setRow' (below_setRow' (b0.alloc b0.size _) (by omega) _) (Nat.le_refl _) _⟩
  exact results_cell_row Try.results26 _ _ w.heap.size 23 (rowOf 16 (w8 f)) (0, 0) _ rfl (r3.out.setRow _) Try.underlying23 rfl (info_key _)

/-- What the iterator has captured: key, nonce, from, to. -/
structure Cap (s : Nat) (key : Nat → Nat) (nonce fr to : Nat) (w : World) : Prop where
  key : RowAt w s 23 (rowOf 16 (w8 key))
  nonce : RowAt w (s + 1) 24 #[.int .u64 (nonce : Int)]
  fr : RowAt w (s + 2) 3 #[.int .i64 (fr : Int)]
  to : RowAt w (s + 3) 3 #[.int .i64 (to : Int)]

theorem Cap.outer {s : Nat} {key : Nat → Nat} {nonce fr to : Nat} {A B : World} (h : Cap s key nonce fr to A) (k : Outer A B) : Cap s key nonce fr to B :=
  ⟨k.row h.key rfl, k.row h.nonce rfl, k.row h.fr rfl, k.row h.to rfl⟩
theorem Cap.inner {s m : Nat} {key : Nat → Nat} {nonce fr to : Nat} {A B : World} (h : Cap s key nonce fr to A) (k : Inner m A B) (hm : s + 3 < m) : Cap s key nonce fr to B :=
  ⟨k.block _ _ h.key (.inl (by omega)), k.block _ _ h.nonce (.inl (by omega)), k.block _ _ h.fr (.inl (by omega)), k.block _ _ h.to (.inl (by omega))⟩

def capV (s : Nat) : Array Value := #[.pointer (some ⟨s, 0, none⟩), .pointer (some ⟨s + 2, 0, none⟩), .pointer (some ⟨s + 3, 0, none⟩), .pointer (some ⟨s + 1, 0, none⟩)]

theorem heap_new4 (w : World) (o1 o2 o3 o4 : Obj) : ((((w.alloc o1).alloc o2).alloc o3).alloc o4).heap[w.heap.size]? = some o1 ∧ ((((w.alloc o1).alloc o2).alloc o3).alloc o4).heap[w.heap.size + 1]? = some o2 ∧
    ((((w.alloc o1).alloc o2).alloc o3).alloc o4).heap[w.heap.size + 2]? = some o3 ∧ ((((w.alloc o1).alloc o2).alloc o3).alloc o4).heap[w.heap.size + 3]? = some o4 := by
  obtain ⟨h1, h2, h3⟩ := heap_new3 w o1 o2 o3
  have s3 : (((w.alloc o1).alloc o2).alloc o3).heap.size = w.heap.size + 3 := by rw [World.size_alloc, World.size_alloc, World.size_alloc]
  refine ⟨?_, ?_, ?_, ?_⟩
  · rw [Below.heap_alloc _ _ _ (by omega)]; exact h1
  · rw [Below.heap_alloc _ _ _ (by omega)]; exact h2
  · rw [Below.heap_alloc _ _ _ (by omega)]; exact h3
  · rw [← s3]; exact heap_alloc_new _ o4

set_option maxHeartbeats 1000000 in
set_option maxRecDepth 8000 in
theorem stream_make (key : Nat → Nat) (nonce fr to : Nat) (w : World) :
    Calls Try.prog 18 #[.agg (rowOf 16 (w8 key)), .int .u64 (nonce : Int), .int .i64 (fr : Int), .int .i64 (to : Int)] w fun e w' =>
      e = .returned (.func (.func 23) #[] (capV w.heap.size)) ∧ Cap w.heap.size key nonce fr to w' ∧ w'.heap.size = w.heap.size + 4 ∧ Below w.heap.size w w' := by
  go_enter Try.func18, Try.ntmps18
  go_wp2
  go_ret
  obtain ⟨h1, h2, h3, h4⟩ := heap_new4 w (.cells (rowOf 16 (w8 key)) 23) (.cells #[.int .u64 (nonce : Int)] 24) (.cells #[.int .i64 (fr : Int)] 3) (.cells #[.int .i64 (to : Int)] 3)
  exact ⟨rfl, ⟨h1, h2, h3, h4⟩, by rw [World.size_alloc, World.size_alloc, World.size_alloc, World.size_alloc], ((((Below.refl _ _).alloc (Nat.le_refl _) _).alloc (by simp) _).alloc (by simp; omega) _).alloc (by simp; omega) _⟩

end Go.Proofs.Ytmbkjbkbnigcfaa
