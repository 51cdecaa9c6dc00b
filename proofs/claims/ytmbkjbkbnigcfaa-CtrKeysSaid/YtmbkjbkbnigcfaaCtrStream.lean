/-
  Contract of ctr.Stream.
-/
import Derived.Test.YtmbkjbkbnigcfaaCtrCol
import Derived.Test.YtmbkjbkbnigcfaaWant
import Derived.Shelf.Abstract
namespace Go.Proofs.Ytmbkjbkbnigcfaa
open Go.RowKit Go.Shelf

theorem run_max0 (n y : Int) (h : (n < 0 ∧ y = 0) ∨ (¬ n < 0 ∧ y = n)) (w : World) : (Builtin.max_ #[3, 3] 3 #[.int .i64 n, .int .i64 0]).run Try.prog w = .ok (.int .i64 y) w := by
  rcases h with ⟨h, rfl⟩ | ⟨h, rfl⟩
  · go_simp
  · go_simp
theorem run_min4096 (n y : Int) (h : (n < 4096 ∧ y = n) ∨ (¬ n < 4096 ∧ y = 4096)) (w : World) : (Builtin.min_ #[3, 3] 3 #[.int .i64 n, .int .i64 4096]).run Try.prog w = .ok (.int .i64 y) w := by
  rcases h with ⟨h, rfl⟩ | ⟨h, rfl⟩
  · go_simp
    intro h2
    omega
  · go_simp
    intro h2
    omega

theorem wpList_max0 {ops : Array Oper} {rest : List Oper} {o : Oper} {a : Act} {w : World} {Q : Exit → Act → World → Prop} (hg : o.guard = none) (x : Operand) (ho : o.op = .call { callee := .builtin .max, args := #[x, .const (.int .i64 0)], argTypes := #[3, 3] }) (ht : o.type = 3)
    (n y : Int) (hx : a.eval x = .int .i64 n) (hy : (n < 0 ∧ y = 0) ∨ (¬ n < 0 ∧ y = n)) (h : wpList Try.prog ops Q rest (a.put o.dst (.int .i64 y)) w) : wpList Try.prog ops Q (o :: rest) a w := by
  have hc : a.eval (.const (.int .i64 0)) = .int .i64 0 := rfl
  refine wpList_val (.int .i64 y) (by unfold Region.wanted; rw [hg]) ?_ h
  simp [execOp, ho, ht, resolve, invoke, builtin, hx, hc, run_max0 n y hy, Result.andThen]
theorem wpList_min4096 {ops : Array Oper} {rest : List Oper} {o : Oper} {a : Act} {w : World} {Q : Exit → Act → World → Prop} (hg : o.guard = none) (x : Operand) (ho : o.op = .call { callee := .builtin .min, args := #[x, .const (.int .i64 4096)], argTypes := #[3, 3] }) (ht : o.type = 3)
    (n y : Int) (hx : a.eval x = .int .i64 n) (hy : (n < 4096 ∧ y = n) ∨ (¬ n < 4096 ∧ y = 4096)) (h : wpList Try.prog ops Q rest (a.put o.dst (.int .i64 y)) w) : wpList Try.prog ops Q (o :: rest) a w := by
  have hc : a.eval (.const (.int .i64 4096)) = .int .i64 4096 := rfl
  refine wpList_val (.int .i64 y) (by unfold Region.wanted; rw [hg]) ?_ h
  simp [execOp, ho, ht, resolve, invoke, builtin, hx, hc, run_min4096 n y hy, Result.andThen]

/-- A variable that holds a row just made. -/
theorem made_box {n₀ : Nat} {w1 : World} {v : Value} (h : w1.ownsRow n₀ 5 1 v 0 []) :
    Boxed (w1.alloc (.cells #[v] 34)) w1.heap.size 34 v ∧ (w1.alloc (.cells #[v] 34)).ownsRow n₀ 5 1 v 0 [] ∧ Below w1.heap.size w1 (w1.alloc (.cells #[v] 34)) :=
  ⟨Boxed.new w1 34 v, h.alloc _, (Below.refl _ _).alloc (Nat.le_refl _) _⟩

theorem one_byte (w : World) (v : Value) (t : TypeId) : ∀ j u, [v][j]? = some u → (w.alloc (.cells #[v] t)).cell? ((⟨w.heap.size, 0, none⟩ : Addr).add j) = some u := by
  intro j u hu
  match j, hu with
  | 0, hu => simp at hu; subst hu; simp [Addr.add]
theorem one_cell (b : Nat) : ∀ u ∈ [Value.int .u8 (b : Int)], u.oneCell' = true := by
  intro u hu
  simp at hu
  subst hu
  rfl
theorem bv_nat {b : Nat} (h : b < 256) : Value.int .u8 (b : Int) = bv (UInt8.ofNat b) := by
  unfold bv
  rw [UInt8.toNat_ofNat', Nat.mod_eq_of_lt h]

theorem wp_at_region3 {P : Program} {ops : Array Oper} {d : Bool} {Q : Exit → Act → World → Prop} {a : Act} {w : World} (h : Hid ((Code.region 3 ops d).wp P Q a w)) : (Code.region 3 ops d).wp P Q a w := h

set_option maxHeartbeats 2000000 in
set_option maxRecDepth 8000 in
theorem ctrStream_in (key : Nat → Nat) (hk : Hid (Byt key)) (nonce : Nat) (hn : Hid (nonce < 18446744073709551616)) (n y : Int) (m : Nat) (hm : m ≤ 4096) (h1 : Hid ((n < 0 ∧ y = 0) ∨ (¬ n < 0 ∧ y = n))) (h2 : Hid ((y < 4096 ∧ (m : Int) = y) ∨ (¬ y < 4096 ∧ (m : Int) = 4096))) (w : World) :
    Calls Try.prog 11 #[.agg (rowOf 16 (w8 key)), .int .u64 (nonce : Int), .int .i64 n] w fun e w' => e = .returned (.string (bs (listB m (streamN key nonce)))) ∧ Below w.heap.size w w' := by
  obtain ⟨i0, hi, hz0, hz1, hz2⟩ := info_parts Try.info5
  have hi' := Lib.hid hi; have hz0' := Lib.hid hz0; have hz1' := Lib.hid hz1; have hz2' := Lib.hid hz2
  clear hi hz0 hz1 hz2
  refine (callsIn_wide (n := 1)).1 (callsIn_of_wp_marks Try.func11 rfl trivial (wpIn_wide.2 ?_) rfl)
  simp only [Try.ntmps11, List.size_toArray, List.length_cons, List.length_nil, Nat.reduceAdd, Nat.reduceSub, Array.replicate_succ, Array.replicate_zero, List.push_toArray, List.append_toArray, List.nil_append, List.cons_append]
  go_wp2_with (first
    | (refine wpList_max0 rfl _ rfl rfl n y rfl h1.out ?_)
    | (refine wpList_min4096 rfl _ rfl rfl y m rfl h2.out ?_)
    | (refine wpList_make_own _ rfl _ _ 34 rfl w.heap.size 5 i0 (.int .u8 0) 1 Try.underlying34 hi'.out hz0'.out hz1'.out .i64 .i64 (m : Int) m rfl rfl rfl (by rw [hz2'.out]; omega) (by unfold maxLen; omega) (by simp) ?_; intro w1 hown hgrow; refine Hid.out ?_))
  unfold Hid
  rw [World.size_alloc] at hown
  have r1 : Hid (RowAt w1 w.heap.size 23 (rowOf 16 (w8 key))) := (hgrow.block _ (by simp) (by simp)).trans (RowAt.new w _ _)
  have b1 : Below w.heap.size w w1 := ((Below.refl _ _).alloc (Nat.le_refl _) _).grown hgrow (by simp) (fun _ e => by cases e)
  have MB := made_box hown
  have bx := Lib.hid MB.1
  have ow := Lib.hid MB.2.1
  have b2 := b1.trans (MB.2.2.mono b1.size)
  have r2 := Lib.hid (r1.out.below MB.2.2 r1.out.lt)
  have hB : w.heap.size ≤ w1.heap.size := b1.size
  clear MB hown hgrow b1 r1
  repeat (first | (with_reducible refine wp_at_region3 ?_) | go_values | go_skip | go_guarded | go_step | go_upon | go_back)
  unfold Hid
  generalize w1.alloc _ = w2 at *
  generalize hv : Value.slice (some { block := w.heap.size + 1, off := 0 }) 0 m = v at *
  replace hv := Lib.hid hv
  generalize w1.heap.size = B at *
  have SM := Lib.hid (stream_make key nonce 0 m w2)
  rw [show ((0 : Nat) : Int) = 0 from rfl] at SM
  go_wp2_with (refine wpList_load_row rfl 23 _ rfl w.heap.size rfl 23 (rowOf 16 (w8 key)) (0, 0) _ r2.out Try.underlying23 rfl (info_key _) ?_)
  refine SM.out.mono ?_
  rintro e w3 ⟨rfl, cp, hsz, hb3⟩
  have cp' := Lib.hid cp
  have C0 : Hid (Col w.heap.size B w3.heap.size [] w (listB 0 (fun j => streamN key nonce (0 + j))) w3) :=
    Col.inner (m := w3.heap.size) (W := w2) ⟨⟨w.heap.size + 1, m, (by show Boxed w2 B 34 (.slice (some ⟨w.heap.size + 1, 0, none⟩) 0 m); rw [hv.out]; exact bx.out), (by show w2.ownsRow w.heap.size 5 1 (.slice (some ⟨w.heap.size + 1, 0, none⟩) 0 m) 0 []; rw [hv.out]; exact ow.out)⟩, fun _ _ h => absurd h List.not_mem_nil, b2, rfl, hB, Nat.le_trans b2.size hb3.size⟩ (Inner.of_below hb3)
  have hs3 : w2.heap.size + 3 < w3.heap.size := by omega
  clear SM cp bx ow r2 b2 hsz hb3
  generalize w2.heap.size = s at *
  go_wp2
  refine wp_rangeFunc_all (w0 := w3) rfl (enters_of Try.func23 (by kernel_rfl) rfl) (stream_seq s key hk nonce 0 m hn (Nat.zero_le _) (by omega) w3 hs3 cp'.out) (Below.refl _ _) (fun _ => rfl)
    (fun k W => Col w.heap.size B w3.heap.size [] w (listB k (fun j => streamN key nonce (0 + j))) W) (fun k A A' h hAA => h.inner hAA) (fun k A j o o' h h1 h2 h3 => h.put o' h1 h2 h3) C0.out
    (fun k => { tmps := #[.agg (rowOf 16 (w8 key)), .int .u64 (nonce : Int), .int .i64 (m : Int), .pointer (some ⟨w.heap.size, 0, none⟩), undef, undef, .string ⟨#[]⟩, .pointer (some ⟨B, 0, none⟩), .int .u8 ((streamN key nonce (0 + k) : Nat) : Int), .int .i64 n, .int .i64 y, .int .i64 (m : Int), .int .i64 (m : Int), v, .agg (rowOf 16 (w8 key)), .int .u64 (nonce : Int), .int .i64 (m : Int), .func (.func 23) #[] (capV s), .int .u8 ((streamN key nonce (0 + k) : Nat) : Int), undef, undef, undef, undef, undef, undef], defers := [] }) ?assign ?body ?done
  case assign =>
    intro l k W K hK
    refine wpIn_round_list l (by kernel_rfl) (fun ⟨_, _, h⟩ => h) ?_
    simp only [List.zip_toArray, List.zip_cons_cons, List.zip_nil_right, List.foldl_toArray, List.foldl_cons, List.foldl_nil, List.setIfInBounds_toArray, List.set_cons_succ, List.set_cons_zero]
    generalize streamN key nonce (0 + k) = x at *
    go_wp2
    exact hK
  case body =>
    intro l k W hI hkm
    have hI' := Lib.hid hI
    clear hI
    have hsz := hI'.out.size
    have hbyte := stream_byt hk.out nonce (0 + k)
    obtain ⟨g0, c0, hv0, hr0⟩ := hI'.out.row
    rw [listB_length] at hr0 hv0
    have hc := hv0.cell
    have hv0' := Lib.hid hv0
    have hr0' := Lib.hid hr0
    clear hv0 hr0
    refine wpIn_block (wpIn_round_list l (by kernel_rfl) roundPostN_block ?_)
    generalize hx : streamN key nonce (0 + k) = x at *
    replace hx := Lib.hid hx
    go_wp2_with (at_builtin; refine wpList_append_own _ rfl _ _ 34 rfl w.heap.size 5 i0 (.int .u8 0) 1 1 Try.underlying34 hi'.out hz0'.out hz1'.out hz2'.out rfl (by decide) _ _ _ rfl (hr0'.out.alloc _) ⟨W.heap.size, 0, none⟩ 1 1 [.int .u8 (x : Int)] rfl rfl (one_byte W _ _) (one_cell x) (by unfold maxLen; omega) (by omega) (by simp; omega) ?_; intro v1 w4 hown hgrow _; refine Hid.out ?_)
    unfold Hid
    have hown' : w4.ownsRow w.heap.size 5 1 v1 ((listB k fun j => streamN key nonce (0 + j)).length + 1) ((listB k fun j => streamN key nonce (0 + j)).map bv ++ [bv (UInt8.ofNat x)]) := by rw [listB_length, ← bv_nat hbyte]; exact hown
    have AP := hI'.out.append (v := .slice (some ⟨g0, 0, none⟩) k c0) hv0'.out (by rw [listB_length]; exact hr0'.out) hown' hgrow
    have hv4 : Boxed w4 B 34 (.slice (some ⟨g0, 0, none⟩) k c0) := (hv0'.out.alloc _).kept hgrow (hv0'.out.not_row (by decide) hr0'.out)
    obtain ⟨g4, c4, rfl⟩ := ownsRow_succ hown
    have hc4 := hv4.cell
    have hf4 := hv4.frozen
    have AP1 := Lib.hid AP
    clear hown hown' hgrow AP hv4
    have e1 : Hid ((listB k fun j => streamN key nonce (0 + j)) ++ [UInt8.ofNat x] = listB (k + 1) fun j => streamN key nonce (0 + j)) := by unfold Hid; rw [listB_succ, hx.out]
    go_wp2
    refine ⟨rfl, ?_, AP1.out.2⟩
    have := AP1.out.1
    rw [e1.out] at this
    simpa only [Nat.zero_add] using this
  case done =>
    intro D W hD hI hK
    rw [Nat.sub_zero] at hI
    obtain ⟨g0, c0, hv0, hr0⟩ := hI.row
    rw [listB_length] at hv0 hr0
    have hc := hv0.cell
    have hcv := own_string (P := Try.prog) (src := 34) (dst := 9) (listB m fun j => streamN key nonce (0 + j)) Try.underlying34 Try.underlying5 Try.underlying9 hr0
    have hK' := Lib.hid hK
    have hlow := hI.low
    have hle : w.heap.size ≤ D := Nat.le_trans hI.hm hD
    clear hI hK hv0 hr0
    go_wp2
    refine ⟨by simp, .inl ⟨_, _, rfl, run_takeDeferred hK'.out, ?_⟩⟩
    exact ⟨_, results_tmp rfl _ _ _, rfl, hlow.trans ⟨rfl, rfl, rfl, by rw [World.putObj_size]; exact Nat.le_refl _, fun k hk => World.putObj_heap_other (by omega)⟩⟩

end Go.Proofs.Ytmbkjbkbnigcfaa
