/-
  Contracts of the functions of package field that take keys.
-/
import Derived.Test.YtapebaoajknepaaTakeOne
import Derived.Deep.WholeRow
import Derived.StillTailTactics
namespace Go.Proofs.Ytapebaoajknepaa
open Go.RowKit

/-- What the closure of TakeKey leaves. -/
def KeptKey (base p q : Nat) (w : World) (cs : Array Value) (at_ : Nat) (e : Ending) (w' : World) : Prop :=
  e = .returned (.tuple #[]) ∧ w'.heap[p]? = some (.cells cs 23 (0, 0)) ∧ w'.heap[q]? = some (.cells #[.int .i64 (at_ : Int)] 3 (0, 0)) ∧ Below base w w'

set_option maxHeartbeats 400000 in
set_option maxRecDepth 8000 in
theorem keepKey (base p q : Nat) (b : UInt8) (at_ : Nat) (cs : Array Value) (w : World) (hat : at_ < 16) (hcs : Hid (cs.size = 16))
    (hp : w.heap[p]? = some (.cells cs 23 (0, 0))) (hq : w.heap[q]? = some (.cells #[.int .i64 (at_ : Int)] 3 (0, 0))) (hbp : base ≤ p) (hbq : base ≤ q) (hpq : p ≠ q) :
    Calls Try.prog 52 #[.int .u8 (b.toNat : Int), .pointer (some ⟨p, 0, none⟩), .pointer (some ⟨q, 0, none⟩)] w (KeptKey base p q w (cs.setIfInBounds at_ (bv b)) (at_ + 1)) := by
  obtain ⟨v0, hv0⟩ : ∃ v0, w.cell? ⟨p, at_, none⟩ = some v0 := by
    have hc := cell_of_row w p at_ cs _ _ hp
    have := hcs.out
    exact ⟨cs[at_], by rw [hc]; exact Array.getElem?_eq_getElem (by omega)⟩
  have fp := frozen_of_row w p at_ cs _ hp
  have cq := cell_of_one hq
  have fq := free_of_one hq
  have HP := Lib.hid hp
  have HQ := Lib.hid hq
  clear hp hq
  go_enter Try.func52, Try.ntmps52
  go_wp2
  go_end0
  refine ⟨rfl, ?_, ?_, ?_⟩
  · rw [heap_setCell_other _ _ _ _ (by simpa using hpq)]
    exact heap_setCell_same w p at_ cs _ _ HP.out
  · rw [one_setCell (v := .int .i64 (at_ : Int)) (t := 3)]
    · rfl
    · rw [heap_setCell_other _ _ _ _ (by simpa using hpq.symm)]
      exact HQ.out
  · exact ((Below.refl _ _).setCell hbp _).setCell hbq _

/-- The sixteen cells of a key that has some bytes already. -/
def keyC (tk : List UInt8) : Array Value := (tk.map bv ++ List.replicate (16 - tk.length) (Value.int .u8 0)).toArray

theorem keyC_size (tk : List UInt8) (h : tk.length ≤ 16) : (keyC tk).size = 16 := by
  unfold keyC
  simp
  omega

theorem keyC_zero : keyC [] = #[.int .u8 0, .int .u8 0, .int .u8 0, .int .u8 0, .int .u8 0, .int .u8 0, .int .u8 0, .int .u8 0, .int .u8 0, .int .u8 0, .int .u8 0, .int .u8 0, .int .u8 0, .int .u8 0, .int .u8 0, .int .u8 0] := rfl

theorem keyC_set (tk : List UInt8) (b : UInt8) (h : tk.length < 16) : (keyC tk).setIfInBounds tk.length (bv b) = keyC (tk ++ [b]) := by
  unfold keyC
  have e : 16 - tk.length = (16 - (tk ++ [b]).length) + 1 := by simp; omega
  rw [e, List.replicate_succ]
  apply Array.ext'
  simp

theorem keyC_cells (tk : List UInt8) : (keyC tk).all (·.oneCell') = true := by
  rw [Array.all_eq_true_iff_forall_mem]
  intro v hv
  unfold keyC at hv
  simp only [List.mem_toArray, List.mem_append, List.mem_map, List.mem_replicate] at hv
  rcases hv with ⟨b, _, rfl⟩ | ⟨_, rfl⟩ <;> rfl

/-- What takeEach over TakeKey's closure leaves. -/
def EachKey (base p : Nat) (w : World) (tk : List UInt8) (r : ByteArray) (e : Ending) (w' : World) : Prop :=
  e = .returned (.tuple #[.string r, .int .i64 0]) ∧ w'.heap[p]? = some (.cells (keyC tk) 23 (0, 0)) ∧ Below base w w'

set_option maxHeartbeats 400000 in
set_option maxRecDepth 8000 in
theorem eachKey_yes (base p q : Nat) (s : ByteArray) (w : World) (hks : Hid (16 ≤ s.data.toList.length))
    (hp : w.heap[p]? = some (.cells (keyC []) 23 (0, 0))) (hq : w.heap[q]? = some (.cells #[.int .i64 0] 3 (0, 0))) (hbp : base ≤ p) (hbq : base ≤ q) (hpq : p ≠ q) :
    Calls Try.prog 50 #[.string s, .int .i64 16, .func (.func 51) #[] #[], .func (.func 52) #[] #[.pointer (some ⟨p, 0, none⟩), .pointer (some ⟨q, 0, none⟩)]] w
      (EachKey base p w (s.data.toList.take 16) (bs (s.data.toList.drop 16))) := by
  have HP := Lib.hid hp
  have HQ := Lib.hid hq
  clear hp hq
  go_enter Try.func50, Try.ntmps50
  go_wp2
  go_loopw [0, 14] (fun t i wr => ∃ (j : Nat) (tk : List UInt8) (r : ByteArray), j ≤ 16 ∧ i = .int .i64 j ∧ t = .string r ∧ Hid (s.data.toList = tk ++ r.data.toList) ∧ Hid (tk.length = j) ∧
      Hid (wr.heap[p]? = some (.cells (keyC tk) 23 (0, 0))) ∧ Hid (wr.heap[q]? = some (.cells #[.int .i64 (j : Int)] 3 (0, 0))) ∧ Below base w wr)
    (fun _ i _ => 16 - (intOf i).toNat)
  case atStart => exact ⟨0, [], s, by omega, rfl, rfl, rfl, rfl, HP, HQ, Below.refl _ _⟩
  case round =>
    obtain ⟨j, tk, r, hj, rfl, rfl, hs, htk, hp, hq, hbl⟩ := hrel
    by_cases hlt : j < 16
    · obtain ⟨b, r1, hr1⟩ := list_more hs.out htk.out hlt hks.out
      have hb : Hid (r.data.toList = b :: (bs r1).data.toList) := hr1
      have hs1 : Hid (s.data.toList = (tk ++ [b]) ++ (bs r1).data.toList) := by unfold Hid; rw [hs.out, hr1]; simp [bs]
      have htk1 : Hid ((tk ++ [b]).length = j + 1) := by unfold Hid; rw [← htk.out]; simp
      have hsz : Hid ((keyC tk).size = 16) := keyC_size tk (by rw [htk.out]; omega)
      have hset : Hid ((keyC tk).setIfInBounds j (bv b) = keyC (tk ++ [b])) := by unfold Hid; rw [← htk.out]; exact keyC_set tk b (by rw [htk.out]; exact hlt)
      clear hr1
      go_wp2_with fail
      refine (takeByte_yes r (bs r1) b hb _).mono ?_
      rintro e w' ⟨rfl, n, rfl⟩
      go_wp2_with fail
      refine (keepKey base p q b j (keyC tk) (wr.drewN n) hlt hsz hp.out hq.out hbp hbq hpq).mono ?_
      rintro e w' ⟨rfl, hp', hq', hbl'⟩
      rw [hset.out] at hp'
      have hp2 := Lib.hid hp'; clear hp'
      have hq2 := Lib.hid hq'; clear hq'
      have hbl2 : Below base w w' := (below_drewN hbl n).trans hbl'
      clear hbl'
      go_wp2
      go_roundw
      case rel => exact ⟨j + 1, tk ++ [b], bs r1, by omega, by go_num, rfl, hs1, htk1, hp2, hq2, hbl2⟩
      case measure => simp [intOf]; omega
    · have : j = 16 := by omega
      subst this
      have E := list_end hs.out htk.out
      have E1 := Lib.hid E.1
      have E2 := Lib.hid E.2
      clear E
      go_wp2
      go_ret2
      refine ⟨?_, ?_, hbl⟩
      · rw [← E2.out, bs_data]; rfl
      · rw [← E1.out]; exact hp.out

set_option maxHeartbeats 400000 in
set_option maxRecDepth 8000 in
theorem eachKey_no (base p q : Nat) (s : ByteArray) (w : World) (hks : Hid (s.data.toList.length < 16))
    (hp : w.heap[p]? = some (.cells (keyC []) 23 (0, 0))) (hq : w.heap[q]? = some (.cells #[.int .i64 0] 3 (0, 0))) (hbp : base ≤ p) (hbq : base ≤ q) (hpq : p ≠ q) :
    Calls Try.prog 50 #[.string s, .int .i64 16, .func (.func 51) #[] #[], .func (.func 52) #[] #[.pointer (some ⟨p, 0, none⟩), .pointer (some ⟨q, 0, none⟩)]] w
      (EachShort base w) := by
  have HP := Lib.hid hp
  have HQ := Lib.hid hq
  clear hp hq
  go_enter Try.func50, Try.ntmps50
  go_wp2
  go_loopw [0, 14] (fun t i wr => ∃ (j : Nat) (tk : List UInt8) (r : ByteArray), j < 16 ∧ i = .int .i64 j ∧ t = .string r ∧ Hid (s.data.toList = tk ++ r.data.toList) ∧ Hid (tk.length = j) ∧
      Hid (wr.heap[p]? = some (.cells (keyC tk) 23 (0, 0))) ∧ Hid (wr.heap[q]? = some (.cells #[.int .i64 (j : Int)] 3 (0, 0))) ∧ Below base w wr)
    (fun _ i _ => 16 - (intOf i).toNat)
  case atStart => exact ⟨0, [], s, by omega, rfl, rfl, rfl, rfl, HP, HQ, Below.refl _ _⟩
  case round =>
    obtain ⟨j, tk, r, hlt, rfl, rfl, hs, htk, hp, hq, hbl⟩ := hrel
    rcases hr1 : r.data.toList with _ | ⟨b, r1⟩
    · have h0 : Hid (r.size = 0) := by unfold Hid; rw [← ba_size, hr1]; rfl
      clear hr1
      go_wp2_with fail
      refine (takeByte_no r h0.out _).mono ?_
      rintro e w' ⟨rfl, rfl⟩
      go_wp2
      go_ret2
      exact ⟨rfl, hbl⟩
    · have hb : Hid (r.data.toList = b :: (bs r1).data.toList) := hr1
      have hs1 : Hid (s.data.toList = (tk ++ [b]) ++ (bs r1).data.toList) := by unfold Hid; rw [hs.out, hr1]; simp [bs]
      have htk1 : Hid ((tk ++ [b]).length = j + 1) := by unfold Hid; rw [← htk.out]; simp
      have hsz : Hid ((keyC tk).size = 16) := keyC_size tk (by rw [htk.out]; omega)
      have hset : Hid ((keyC tk).setIfInBounds j (bv b) = keyC (tk ++ [b])) := by unfold Hid; rw [← htk.out]; exact keyC_set tk b (by rw [htk.out]; exact hlt)
      have hj1 : j + 1 < 16 := by
        have h1 := hks.out
        have h2 := congrArg List.length hs1.out
        rw [List.length_append, htk1.out] at h2
        omega
      clear hr1
      go_wp2_with fail
      refine (takeByte_yes r (bs r1) b hb _).mono ?_
      rintro e w' ⟨rfl, n, rfl⟩
      go_wp2_with fail
      refine (keepKey base p q b j (keyC tk) (wr.drewN n) hlt hsz hp.out hq.out hbp hbq hpq).mono ?_
      rintro e w' ⟨rfl, hp', hq', hbl'⟩
      rw [hset.out] at hp'
      have hp2 := Lib.hid hp'; clear hp'
      have hq2 := Lib.hid hq'; clear hq'
      have hbl2 : Below base w w' := (below_drewN hbl n).trans hbl'
      clear hbl'
      go_wp2
      go_roundw
      case rel => exact ⟨j + 1, tk ++ [b], bs r1, hj1, by go_num, rfl, hs1, htk1, hp2, hq2, hbl2⟩
      case measure => simp [intOf]; omega

theorem heap_new3 (w : World) (o1 o2 o3 : Obj) : (((w.alloc o1).alloc o2).alloc o3).heap[w.heap.size]? = some o1 ∧ (((w.alloc o1).alloc o2).alloc o3).heap[w.heap.size + 1]? = some o2 ∧ (((w.alloc o1).alloc o2).alloc o3).heap[w.heap.size + 1 + 1]? = some o3 := by
  have s1 : (w.alloc o1).heap.size = w.heap.size + 1 := World.size_alloc _ _
  have s2 : ((w.alloc o1).alloc o2).heap.size = w.heap.size + 1 + 1 := by rw [World.size_alloc, s1]
  refine ⟨?_, ?_, ?_⟩
  · rw [Below.heap_alloc _ _ _ (by omega), Below.heap_alloc _ _ _ (by omega)]
    exact heap_alloc_new w o1
  · rw [Below.heap_alloc _ _ _ (by omega), ← s1]
    exact heap_alloc_new _ o2
  · rw [← s2]
    exact heap_alloc_new _ o3

theorem keyInfo (tk : List UInt8) (h : tk.length ≤ 16) : (Try.prog.info? 23).map (·.size) = some (keyC tk).size := by
  rw [keyC_size tk h]
  kernel_rfl

theorem results_row_two {P : Program} {fn : Func} {p u v : Tmp} {ty : TypeId} (h : fn.results = #[.cell p ty, .tmp u, .tmp v]) (tmps : Array Value) (w : World) (g : Nat) (t : TypeId) (cs : Array Value) (fr : Nat × Nat) (d : TypeDesc)
    (hp : tmps.getD p undef = .pointer (some ⟨g, 0, none⟩)) (hg : w.heap[g]? = some (.cells cs t fr))
    (hu : P.underlying ty = some d) (hd : (match d with | .struct _ | .array _ _ => true | _ => false) = true) (hi : (P.info? ty).map (·.size) = some cs.size) :
    (results fn tmps).run P w = .ok (.tuple #[.agg cs, tmps.getD u undef, tmps.getD v undef]) w := by
  have hp' : tmps[p]?.getD undef = .pointer (some ⟨g, 0, none⟩) := by simpa using hp
  simp [results, h, hp', asAddr, run_loadVar_row w g t ty cs fr d hg hu hd hi]

theorem heap_setRow_same (w : World) (g : Nat) (old cs : Array Value) (t : TypeId) (h : w.heap[g]? = some (.cells old t (0, 0))) : (w.setRow g cs).heap[g]? = some (.cells cs t (0, 0)) := setRow_heap w g old cs t _ h

set_option maxHeartbeats 400000 in
set_option maxRecDepth 8000 in
theorem takeKey_yes (s : ByteArray) (hks : Hid (16 ≤ s.data.toList.length)) (w : World) :
    Calls Try.prog 47 #[.string s] w fun e w' => e = .returned (.tuple #[.agg (keyC (s.data.toList.take 16)), .string (bs (s.data.toList.drop 16)), .int .i64 0]) ∧ Below w.heap.size w w' := by
  have hlen : (s.data.toList.take 16).length ≤ 16 := by rw [List.length_take]; omega
  have hi := keyInfo _ hlen
  have hl16 := Lib.hid (keyC_size _ hlen)
  generalize hT : s.data.toList.take 16 = T at *
  have HT := Lib.hid hT
  have HI := Lib.hid hi
  clear hT hi hlen
  go_enter Try.func47, Try.ntmps47
  go_wp2_with fail
  rw [← keyC_zero]
  refine (eachKey_yes (w.heap.size + 1) (w.heap.size + 1) (w.heap.size + 1 + 1) s _ hks (heap_new3 w _ _ _).2.1 (heap_new3 w _ _ _).2.2 (Nat.le_refl _) (by omega) (by omega)).mono ?_
  rintro e w1 ⟨rfl, hp, hbl⟩
  rw [HT.out] at hp
  have hr : Hid (w1.heap[w.heap.size]? = some (.cells (keyC []) 23 (0, 0))) := (hbl.block _ (by omega)).trans (heap_new3 w _ _ _).1
  have HPp := Lib.hid hp
  have hb2 : Below w.heap.size w w1 := ((((Below.refl _ _).alloc (Nat.le_refl _) _).alloc (by simp) _).alloc (by simp; omega) _).trans (hbl.mono (by omega))
  clear hbl hp
  go_wp2_with (first | (refine wpList_load_row rfl 23 _ rfl (w.heap.size + 1) rfl 23 (keyC T) (0, 0) _ HPp.out Try.underlying23 rfl HI.out ?_) | (refine wpList_store_row rfl 23 _ _ rfl w.heap.size (keyC T) rfl rfl 23 (keyC []) hr.out HI.out (by rw [hl16.out]; rfl) (keyC_cells T) ?_))
  refine bodyPost_ret (v := .tuple #[.agg (keyC T), .string (bs (s.data.toList.drop 16)), .int .i64 0]) ?_ rfl ⟨rfl, below_setRow' hb2 (Nat.le_refl _) _⟩
  exact results_row_two Try.results47 _ _ w.heap.size 23 (keyC T) (0, 0) _ rfl (heap_setRow_same _ _ _ _ _ hr.out) Try.underlying23 rfl HI.out

set_option maxHeartbeats 400000 in
set_option maxRecDepth 8000 in
theorem takeKey_short (s : ByteArray) (hks : Hid (s.data.toList.length < 16)) (w : World) :
    Calls Try.prog 47 #[.string s] w fun e w' => e = .returned (.tuple #[.agg (keyC []), .string (bs []), .int .i64 10]) ∧ Below w.heap.size w w' := by
  have HI := Lib.hid (keyInfo [] (by decide))
  go_enter Try.func47, Try.ntmps47
  go_wp2_with fail
  rw [← keyC_zero]
  refine (eachKey_no (w.heap.size + 1) (w.heap.size + 1) (w.heap.size + 1 + 1) s _ hks (heap_new3 w _ _ _).2.1 (heap_new3 w _ _ _).2.2 (Nat.le_refl _) (by omega) (by omega)).mono ?_
  rintro e w1 ⟨rfl, hbl⟩
  have hr : Hid (w1.heap[w.heap.size]? = some (.cells (keyC []) 23 (0, 0))) := (hbl.block _ (by omega)).trans (heap_new3 w _ _ _).1
  have hb2 : Below w.heap.size w w1 := ((((Below.refl _ _).alloc (Nat.le_refl _) _).alloc (by simp) _).alloc (by simp; omega) _).trans (hbl.mono (by omega))
  clear hbl
  go_wp2_with (first | (refine wpList_store_row rfl 23 _ _ rfl w.heap.size (keyC []) rfl rfl 23 (keyC []) hr.out HI.out rfl (keyC_cells []) ?_))
  refine bodyPost_ret (v := .tuple #[.agg (keyC []), .string (bs []), .int .i64 10]) ?_ rfl ⟨rfl, below_setRow' hb2 (Nat.le_refl _) _⟩
  exact results_row_two Try.results47 _ _ w.heap.size 23 (keyC []) (0, 0) _ rfl (heap_setRow_same _ _ _ _ _ hr.out) Try.underlying23 rfl HI.out

theorem keyC_step (s : ByteArray) (j : Nat) (hj : j < 16) (hs : j < s.size) : (keyC (s.data.toList.take j)).setIfInBounds j (.int .u8 ((s[j]'hs).toNat : Int)) = keyC (s.data.toList.take (j + 1)) := by
  have hl : j < s.data.toList.length := by rw [ba_size]; exact hs
  have hlen : (s.data.toList.take j).length = j := by rw [List.length_take]; omega
  have := keyC_set (s.data.toList.take j) (s[j]'hs) (by omega)
  rw [hlen] at this
  rw [List.take_succ_eq_append_getElem hl]
  exact this

set_option maxHeartbeats 400000 in
set_option maxRecDepth 8000 in
theorem refTakeKey_short (s : ByteArray) (h : (s.size : Int) < 16) (w : World) :
    Calls Try.prog 37 #[.string s] w fun e w' => e = .returned (.tuple #[.agg (keyC []), .string (bs []), .int .i64 10]) ∧ Below w.heap.size w w' := by
  go_enter Try.func37, Try.ntmps37
  go_wp2
  rw [← keyC_zero]
  refine bodyPost_ret (v := .tuple #[.agg (keyC []), .string (bs []), .int .i64 10]) ?_ rfl ⟨rfl, ((Below.refl _ _).alloc (Nat.le_refl _) _).alloc (by simp) _⟩
  exact results_row_two Try.results37 _ _ w.heap.size 23 (keyC []) (0, 0) _ rfl (heap_alloc2_old w _ _) Try.underlying23 rfl (keyInfo [] (by decide))

set_option maxHeartbeats 400000 in
set_option maxRecDepth 8000 in
theorem refTakeKey_yes (s : ByteArray) (h : 16 ≤ s.size) (hm : s.size ≤ 9223372036854775807) (w : World) :
    Calls Try.prog 37 #[.string s] w fun e w' => e = .returned (.tuple #[.agg (keyC (s.data.toList.take 16)), .string (bs (s.data.toList.drop 16)), .int .i64 0]) ∧ Below w.heap.size w w' := by
  have d : decide ((s.size : Int) < 16) = false := by simp; omega
  have hlen : ∀ j, j ≤ 16 → (s.data.toList.take j).length = j := fun j hj => by rw [List.length_take, ba_size]; omega
  have HL := Lib.hid hlen
  have E : Hid (s.extract 16 s.size = bs (s.data.toList.drop 16)) := by
    unfold Hid; apply ba_ext; rw [ba_drop]; rfl
  have h16 : (16 : Int) ≤ (s.size : Int) := by omega
  clear hlen
  go_enter Try.func37, Try.ntmps37
  go_wp2
  rw [← keyC_zero]
  go_loopw [6] (fun i wr => ∃ j : Nat, j ≤ 16 ∧ i = .int .i64 j ∧ Hid (wr.heap[w.heap.size]? = some (.cells (keyC []) 23 (0, 0))) ∧ Hid (wr.heap[w.heap.size + 1]? = some (.cells (keyC (s.data.toList.take j)) 23 (0, 0))) ∧ Below w.heap.size w wr)
    (fun i _ => 16 - (intOf i).toNat)
  case atStart => exact ⟨0, by omega, rfl, heap_alloc2_old w _ _, heap_alloc2_new w _ _, ((Below.refl _ _).alloc (Nat.le_refl _) _).alloc (by simp) _⟩
  case round =>
    obtain ⟨j, hj, rfl, hr, hp, hbl⟩ := hrel
    by_cases hlt : j < 16
    · have hjs : j < s.size := by omega
      obtain ⟨v0, hv0⟩ : ∃ v0, wr.cell? ⟨w.heap.size + 1, j, none⟩ = some v0 := by
        have hc := cell_of_row wr (w.heap.size + 1) j _ _ _ hp.out
        have hsz : (keyC (s.data.toList.take j)).size = 16 := keyC_size _ (by rw [HL.out j hj]; exact hj)
        exact ⟨_, by rw [hc]; exact Array.getElem?_eq_getElem (by omega)⟩
      have fp := frozen_of_row wr (w.heap.size + 1) j _ _ hp.out
      have hp1 : Hid ((wr.setCell ⟨w.heap.size + 1, j, none⟩ (.int .u8 ((s[j]'hjs).toNat : Int))).heap[w.heap.size + 1]? = some (.cells (keyC (s.data.toList.take (j + 1))) 23 (0, 0))) := by
        unfold Hid
        rw [← keyC_step s j hlt hjs]
        exact heap_setCell_same wr _ j _ _ _ hp.out
      have hr1 : Hid ((wr.setCell ⟨w.heap.size + 1, j, none⟩ (.int .u8 ((s[j]'hjs).toNat : Int))).heap[w.heap.size]? = some (.cells (keyC []) 23 (0, 0))) := by
        unfold Hid
        rw [heap_setCell_other _ _ _ _ (by simp)]
        exact hr.out
      go_wp2
      go_roundw
      case rel => exact ⟨j + 1, by omega, by go_num, hr1, hp1, hbl.setCell (by simp) _⟩
      case measure => simp [intOf]; omega
    · have : j = 16 := by omega
      subst this
      have HI := Lib.hid (keyInfo (s.data.toList.take 16) (by rw [HL.out 16 (by omega)]; omega))
      have hl16 := Lib.hid (keyC_size (s.data.toList.take 16) (by rw [HL.out 16 (by omega)]; omega))
      generalize hT : s.data.toList.take 16 = T at *
      have HT := Lib.hid hT
      clear hT
      go_wp2
      refine wp_region_any (by kernel_rfl) ?_
      change wpAny _ _ _ _ _ _ _ (World.drew _)
      refine wpAny_take (i := 1) (v := .string s) rfl (by kernel_rfl) (by kernel_rfl) (by kernel_rfl) (fun _ _ _ h => h) (Or.inl ⟨by rfl, fun w => by go_simp⟩) ?_
      refine wpAny_take (i := 2) (v := .string (s.extract 16 s.size)) rfl (by kernel_rfl) (by kernel_rfl) (by kernel_rfl) (fun _ _ _ h => h) (Or.inl ⟨by rfl, fun w => by go_simp⟩) ?_
      refine wpAny_ready (rs := [0]) (by kernel_rfl) (by simp) (AllReady.cons rfl (fun K hK => ?_) AllReady.nil)
      rw [if_pos (by rfl)]
      refine wp_load_row 23 _ rfl (w.heap.size + 1) rfl 23 (keyC T) (0, 0) _ hp.out Try.underlying23 rfl HI.out (hK _ _ ?_)
      clear hK K
      refine wpAny_ready (rs := [3]) (by kernel_rfl) (by simp) (AllReady.cons rfl (fun K hK => ?_) AllReady.nil)
      rw [if_pos (by rfl)]
      refine wp_store_row 23 _ _ rfl w.heap.size (keyC T) rfl rfl 23 (keyC []) hr.out HI.out (by rw [hl16.out]; rfl) (keyC_cells T) (hK _ _ ?_)
      clear hK K
      refine wpAny_ready (rs := [4]) (by kernel_rfl) (by simp) (AllReady.cons rfl (fun K hK => ?_) AllReady.nil)
      go_simp
      refine hK _ _ ?_
      clear hK K
      refine wpAny_ready (rs := [5]) (by kernel_rfl) (by simp) (AllReady.cons rfl (fun K hK => ?_) AllReady.nil)
      go_simp
      refine hK _ _ ?_
      clear hK K
      refine wpAny_done (by kernel_rfl) ?_ _
      go_wp2
      refine bodyPost_ret (v := .tuple #[.agg (keyC T), .string (bs (s.data.toList.drop 16)), .int .i64 0]) ?_ rfl ⟨by rw [HT.out], below_setRow' hbl.drew (Nat.le_refl _) _⟩
      rw [← E.out]
      exact results_row_two Try.results37 _ _ w.heap.size 23 (keyC T) (0, 0) _ rfl (heap_setRow_same _ _ (keyC []) _ _ hr.out) Try.underlying23 rfl HI.out

/-- TakeKey's answers. -/
def tkK (L : List UInt8) : Array Value := if L.length < 16 then keyC [] else keyC (L.take 16)
def tkR (L : List UInt8) : ByteArray := if L.length < 16 then bs [] else bs (L.drop 16)
def tkE (L : List UInt8) : Int := if L.length < 16 then 10 else 0

theorem takeKey_any (s : ByteArray) (w : World) :
    Calls Try.prog 47 #[.string s] w fun e w' => e = .returned (.tuple #[.agg (tkK s.data.toList), .string (tkR s.data.toList), .int .i64 (tkE s.data.toList)]) ∧ Below w.heap.size w w' := by
  unfold tkK tkR tkE
  by_cases h : s.data.toList.length < 16
  · rw [if_pos h, if_pos h, if_pos h]; exact takeKey_short s h w
  · rw [if_neg h, if_neg h, if_neg h]; exact takeKey_yes s (Nat.le_of_not_lt h) w

theorem refTakeKey_any (s : ByteArray) (hm : s.size ≤ 9223372036854775807) (w : World) :
    Calls Try.prog 37 #[.string s] w fun e w' => e = .returned (.tuple #[.agg (tkK s.data.toList), .string (tkR s.data.toList), .int .i64 (tkE s.data.toList)]) ∧ Below w.heap.size w w' := by
  unfold tkK tkR tkE
  by_cases h : s.data.toList.length < 16
  · rw [if_pos h, if_pos h, if_pos h]; exact refTakeKey_short s (by rw [ba_size] at h; omega) w
  · rw [if_neg h, if_neg h, if_neg h]; exact refTakeKey_yes s (by rw [ba_size] at h; omega) hm w

end Go.Proofs.Ytapebaoajknepaa
