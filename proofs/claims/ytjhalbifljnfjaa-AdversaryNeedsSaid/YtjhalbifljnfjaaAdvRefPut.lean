/-
  Contracts: the document's SameBools, put; SameInts of any numbers; its (the nodes handed over).
-/
import Derived.Test.YtjhalbifljnfjaaAdvAtoms
import Derived.Test.YtjhalbifljnfjaaTermRefMay
namespace Go.Proofs.Ytjhalbifljnfjaa
open Go.RowKit
set_option linter.unusedVariables false

set_option maxHeartbeats 2000000 in
set_option maxRecDepth 8000 in
theorem sameBools_any (n : Nat) (hn : n ≤ 1000000) (X : Nat → Bool) (a1 a2 : Option Addr) (c1 c2 : Nat) (w : World) (h1 : Hid (SeesB w a1 n X)) (h2 : Hid (SeesB w a2 n X)) :
    Calls Try.prog 11 #[.slice a1 n c1, .slice a2 n c2] w fun e w' => e = .returned (.bool true) ∧ Below w.heap.size w w' := by
  have d0 : ((n : Int) != (n : Int)) = false := by simp
  go_enter Try.func11, Try.ntmps11
  go_wp2
  go_loopw [5] (fun c wr => ∃ k : Nat, k ≤ n ∧ c = .int .i64 k ∧ Below w.heap.size w wr) (fun c _ => n - (intOf c).toNat)
  case atStart => exact ⟨0, Nat.zero_le _, rfl, Below.refl _ _⟩
  case round =>
    obtain ⟨k, hk, rfl, hb⟩ := hrel
    by_cases hlt : k < n
    · have lk : (k : Int) < (n : Int) := by omega
      have s1 := Lib.hid (h1.out.after hb.drew)
      have s2 := Lib.hid (h2.out.after hb.drew)
      have g1 := Lib.hid (s1.out.cell hlt)
      have g2 := Lib.hid (s2.out.cell hlt)
      unfold boolV at g1 g2
      obtain ⟨b, hbb⟩ : ∃ b, X k = b := ⟨_, rfl⟩
      rw [hbb] at g1 g2
      clear hbb
      go_wp2
      refine wp_region_one (by kernel_rfl) (by kernel_rfl) ?_
      replace hb := hb.drew
      generalize wr.drew = w9 at *
      go_big_quiet_want; go_big_quiet_op; go_big_quiet_on
      go_big_quiet_want; go_big_quiet_op; go_big_quiet_on
      refine wpQuiet_val (by rfl) _ (fun w' _ => at_bools s1.out hlt rfl rfl rfl rfl w') ?_
      simp only [Act.put, List.setIfInBounds_toArray, List.set_cons_succ, List.set_cons_zero]
      refine wpQuiet_val (by rfl) _ (fun w' e => by subst e; exact get_bool g1.out rfl rfl) ?_
      simp only [Act.put, List.setIfInBounds_toArray, List.set_cons_succ, List.set_cons_zero]
      go_big_quiet_want; go_big_quiet_op; go_big_quiet_on
      go_big_quiet_want; go_big_quiet_op; go_big_quiet_on
      refine wpQuiet_val (by rfl) _ (fun w' _ => at_bools s2.out hlt rfl rfl rfl rfl w') ?_
      simp only [Act.put, List.setIfInBounds_toArray, List.set_cons_succ, List.set_cons_zero]
      refine wpQuiet_val (by rfl) _ (fun w' e => by subst e; exact get_bool g2.out rfl rfl) ?_
      simp only [Act.put, List.setIfInBounds_toArray, List.set_cons_succ, List.set_cons_zero]
      refine wpQuiet_val (by rfl) (.bool false) (fun w' _ => by cases b <;> go_simp) ?_
      simp only [Act.put, List.setIfInBounds_toArray, List.set_cons_succ, List.set_cons_zero]
      refine wpQuiet_nil ?_
      go_wp2
      go_roundw
      case rel => exact ⟨k + 1, by omega, by go_num, hb⟩
      case measure => simp [intOf]; omega
    · have lk : ¬ (k : Int) < (n : Int) := by omega
      go_wp2
      go_ret
      exact ⟨rfl, hb⟩

set_option maxHeartbeats 2000000 in
set_option maxRecDepth 8000 in
theorem sameZ_any (n : Nat) (hn : n ≤ 1000000) (f : Nat → Int) (a1 a2 : Option Addr) (c1 c2 : Nat) (w : World) (h1 : Hid (SeesZ w a1 n f)) (h2 : Hid (SeesZ w a2 n f)) :
    Calls Try.prog 16 #[.slice a1 n c1, .slice a2 n c2] w fun e w' => e = .returned (.bool true) ∧ Below w.heap.size w w' := by
  have d0 : ((n : Int) != (n : Int)) = false := by simp
  go_enter Try.func16, Try.ntmps16
  go_wp2
  go_loopw [5] (fun c wr => ∃ k : Nat, k ≤ n ∧ c = .int .i64 k ∧ Below w.heap.size w wr) (fun c _ => n - (intOf c).toNat)
  case atStart => exact ⟨0, Nat.zero_le _, rfl, Below.refl _ _⟩
  case round =>
    obtain ⟨k, hk, rfl, hb⟩ := hrel
    by_cases hlt : k < n
    · have lk : (k : Int) < (n : Int) := by omega
      have dk : ((f k : Int) != f k) = false := by simp
      have s1 := Lib.hid (h1.out.after hb.drew)
      have s2 := Lib.hid (h2.out.after hb.drew)
      have g1 := Lib.hid (s1.out.cell hlt)
      have g2 := Lib.hid (s2.out.cell hlt)
      unfold intV at g1 g2
      go_wp2
      refine wp_region_one (by kernel_rfl) (by kernel_rfl) ?_
      replace hb := hb.drew
      generalize wr.drew = w9 at *
      go_big_quiet_want; go_big_quiet_op; go_big_quiet_on
      go_big_quiet_want; go_big_quiet_op; go_big_quiet_on
      refine wpQuiet_val (by rfl) _ (fun w' _ => at_intsV s1.out hlt rfl rfl rfl rfl w') ?_
      simp only [Act.put, List.setIfInBounds_toArray, List.set_cons_succ, List.set_cons_zero]
      refine wpQuiet_val (by rfl) _ (fun w' e => by subst e; exact get_int g1.out rfl rfl) ?_
      simp only [Act.put, List.setIfInBounds_toArray, List.set_cons_succ, List.set_cons_zero]
      go_big_quiet_want; go_big_quiet_op; go_big_quiet_on
      go_big_quiet_want; go_big_quiet_op; go_big_quiet_on
      refine wpQuiet_val (by rfl) _ (fun w' _ => at_intsV s2.out hlt rfl rfl rfl rfl w') ?_
      simp only [Act.put, List.setIfInBounds_toArray, List.set_cons_succ, List.set_cons_zero]
      refine wpQuiet_val (by rfl) _ (fun w' e => by subst e; exact get_int g2.out rfl rfl) ?_
      simp only [Act.put, List.setIfInBounds_toArray, List.set_cons_succ, List.set_cons_zero]
      refine wpQuiet_val (by rfl) (.bool false) (fun w' _ => by go_simp) ?_
      simp only [Act.put, List.setIfInBounds_toArray, List.set_cons_succ, List.set_cons_zero]
      refine wpQuiet_nil ?_
      go_wp2
      go_roundw
      case rel => exact ⟨k + 1, by omega, by go_num, hb⟩
      case measure => simp [intOf]; omega
    · have lk : ¬ (k : Int) < (n : Int) := by omega
      go_wp2
      go_ret
      exact ⟨rfl, hb⟩

/-- What its comes to. -/
def ItsEnd (K : Nds) (n : Nat) (w : World) (e : Ending) (w' : World) : Prop := ∃ a' c', e = .returned (.slice a' n c') ∧ Hid (SeesN w' a' n K) ∧ Below w.heap.size w w'

set_option maxHeartbeats 2000000 in
set_option maxRecDepth 8000 in
theorem its_any (K : Nds) (n : Nat) (hn : n ≤ 1000) (a : Option Addr) (c : Nat) (w : World) (hs : Hid (SeesN w a n K)) :
    Calls Try.prog 10 #[.slice a n c] w (ItsEnd K n w) := by
  go_enter Try.func10, Try.ntmps10
  go_wp2
  go_loopw [3, 4] (fun v c wr => ∃ k : Nat, k ≤ n ∧ c = .int .i64 k ∧ Hid (wr.ownsRow w.heap.size 50 3 v k (cellL (k * 3) (flatN K))) ∧ Below w.heap.size w wr) (fun _ c _ => n - (intOf c).toNat)
  case atStart => exact ⟨0, Nat.zero_le _, rfl, World.ownsRow_made _ _ _ (Nat.le_refl _) (by decide) rfl, (Below.refl _ _).alloc (Nat.le_refl _) _⟩
  case round =>
    obtain ⟨k, hk, rfl, hown, hb⟩ := hrel
    by_cases hlt : k < n
    · have lk : (k : Int) < (n : Int) := by omega
      have s1 := Lib.hid (hs.out.after hb)
      go_wp2_with (first | (refine wpList_known rfl (at_nodes s1.out hlt rfl rfl rfl rfl _) ?_) | (refine wpList_known rfl (get_node s1.out hlt rfl rfl) ?_) | (at_builtin; refine wpList_append_refNode rfl _ _ rfl w.heap.size _ k K _ _ _ rfl rfl rfl rfl wr hown.out rfl rfl rfl (by omega) hb.size ?_; intro v3 w3 own3 g3 b3))
      have b4 := hb.trans b3.out
      go_roundw
      case rel => exact ⟨k + 1, by omega, by go_num, own3, b4⟩
      case measure => simp [intOf]; omega
    · have lk : ¬ (k : Int) < (n : Int) := by omega
      have ek : k = n := by omega
      subst ek
      obtain ⟨a', c', rfl, sn, _, _, _⟩ := own_nodes hown.out
      replace sn := Lib.hid sn
      go_wp2
      go_ret
      exact ⟨a', c', rfl, sn, hb⟩

/-- How far put has come at place i: not yet put, or put. -/
def PutI (z : Int) (l : List Int) (i : Nat) (done : Bool) (out : List Int) : Prop :=
  (done = false → out = l.take i ∧ ∀ x ∈ l.take i, x < z) ∧ (done = true → out ++ l.drop i = putZ z l)
theorem take_snoc {l : List Int} {i : Nat} (h : i < l.length) : l.take (i + 1) = l.take i ++ [l.getD i 0] := by
  rw [List.take_add_one, List.getElem?_eq_getElem h]
  simp [h]
theorem drop_cons {l : List Int} {i : Nat} (h : i < l.length) : l.drop i = l.getD i 0 :: l.drop (i + 1) := by
  rw [List.drop_eq_getElem_cons h]
  simp [h]
theorem put_start (z : Int) (l : List Int) : PutI z l 0 false [] := ⟨fun _ => ⟨by simp, by simp⟩, fun e => (by cases e)⟩
theorem put_go {z : Int} {l : List Int} {i : Nat} {done : Bool} {out : List Int} (h : PutI z l i done out) (hi : i < l.length) :
    (done = true → PutI z l (i + 1) true (out ++ [l.getD i 0])) ∧ (done = false → l.getD i 0 = z → PutI z l (i + 1) true (out ++ [l.getD i 0])) ∧ (done = false → z < l.getD i 0 → PutI z l (i + 1) true (out ++ [z] ++ [l.getD i 0])) ∧ (done = false → l.getD i 0 ≠ z → ¬ z < l.getD i 0 → PutI z l (i + 1) false (out ++ [l.getD i 0])) := by
  have hd := drop_cons hi
  have ht := take_snoc hi
  have hsplit : (∀ x ∈ l.take i, x < z) → putZ z l = l.take i ++ putZ z (l.drop i) := fun h2 => by
    have := putZ_less z (l.take i) (l.drop i) h2
    rwa [List.take_append_drop] at this
  refine ⟨fun e => ⟨fun e => (by cases e), fun _ => ?_⟩, fun e e2 => ⟨fun e => (by cases e), fun _ => ?_⟩, fun e e2 => ⟨fun e => (by cases e), fun _ => ?_⟩, fun e e2 e3 => ⟨fun _ => ?_, fun e => (by cases e)⟩⟩
  · rw [← h.2 e, hd]; simp
  · obtain ⟨h1, h2⟩ := h.1 e
    rw [hsplit h2, hd, putZ_eq e2, h1]
    simp
  · obtain ⟨h1, h2⟩ := h.1 e
    rw [hsplit h2, hd, putZ_gt e2, h1]
    simp
  · obtain ⟨h1, h2⟩ := h.1 e
    rw [ht, h1]
    refine ⟨rfl, fun x hx => ?_⟩
    rcases List.mem_append.1 hx with hx | hx
    · exact h2 x hx
    · have : x = l.getD i 0 := by simpa using hx
      omega
theorem put_done {z : Int} {l : List Int} {out : List Int} : (PutI z l l.length true out → out = putZ z l) ∧ (PutI z l l.length false out → out ++ [z] = putZ z l) := by
  constructor
  · intro h
    have := h.2 rfl
    simpa using this
  · intro h
    obtain ⟨h1, h2⟩ := h.1 rfl
    rw [List.take_length] at h1 h2
    have := putZ_less z l [] h2
    rw [List.append_nil] at this
    rw [this, h1]
    rfl
theorem put_len {z : Int} {l : List Int} {i : Nat} {done : Bool} {out : List Int} (h : PutI z l i done out) : out.length ≤ l.length + 1 := by
  cases done
  · rw [(h.1 rfl).1]; simp; omega
  · have := congrArg List.length (h.2 rfl)
    have := putZ_length z l
    simp at *
    omega

def PutEnd (l : List Int) (w : World) (e : Ending) (w' : World) : Prop := ∃ v, e = .returned v ∧ Hid (w'.ownsRow w.heap.size 3 1 v l.length (zCells l)) ∧ Below w.heap.size w w'

set_option maxHeartbeats 4000000 in
set_option maxRecDepth 8000 in
theorem refPut_any (l : List Int) (hl : l.length ≤ 100000) (z : Int) (a : Option Addr) (c : Nat) (w : World) (hs : Hid (SeesZ w a l.length (fun j => l.getD j 0))) :
    Calls Try.prog 28 #[.slice a l.length c, .int .i64 z] w (PutEnd (putZ z l) w) := by
  go_enter Try.func28, Try.ntmps28
  go_wp2
  go_loopw [5, 6, 7] (fun v d c wr => ∃ (i : Nat) (done : Bool) (out : List Int), i ≤ l.length ∧ c = .int .i64 (i : Int) ∧ d = .bool done ∧ Hid (PutI z l i done out) ∧ Hid (wr.ownsRow w.heap.size 3 1 v out.length (zCells out)) ∧ Below w.heap.size w wr) (fun _ _ c _ => l.length - (intOf c).toNat)
  case atStart => exact ⟨0, false, [], Nat.zero_le _, rfl, rfl, put_start z l, World.ownsRow_made _ _ _ (Nat.le_refl _) (by decide) rfl, (Below.refl _ _).alloc (Nat.le_refl _) _⟩
  case round =>
    obtain ⟨i, done, out, hi, rfl, rfl, hP, hown, hb⟩ := hrel
    have hol : out.length ≤ 1000000 := by have := put_len hP.out; omega
    by_cases hlt : i < l.length
    · have li : (i : Int) < (l.length : Int) := by omega
      have s1 := Lib.hid (hs.out.after hb)
      have g1 : Hid (wr.cell? (elV a i) = some (.int .i64 (l.getD i 0))) := s1.out.cell hlt
      obtain ⟨p1, p2, p3, p4⟩ := put_go hP.out hlt
      have h2 : Hid (∀ w2, Below w.heap.size w w2 → w2.cell? (elV a i) = some (.int .i64 (l.getD i 0))) := fun w2 hb2 => (hs.out.after hb2).cell hlt
      generalize l.getD i 0 = y at *
      cases done
      · clear p1
        by_cases e1 : y = z
        · have q := Lib.hid (p2 rfl e1)
          have f1 : ((y : Int) == z) = true := by simpa using e1
          replace e1 := Lib.hid e1
          clear p2 p3 p4 hP
          go_wp2_with (first | (refine wpList_wknown rfl (at_intsV s1.out hlt rfl rfl rfl rfl _) ?_) | (refine wpList_wknown rfl (get_int g1.out rfl rfl) ?_) | (at_builtin; refine wpList_append_z rfl _ _ rfl w.heap.size _ out _ rfl wr hown.out rfl rfl rfl hol hb.size ?_; intro v9 w9 own9 g9 b9))
          have b10 := hb.trans b9.out
          go_roundw
          case rel => exact ⟨i + 1, true, _, by omega, by go_num, rfl, q, own9, b10⟩
          case measure => simp [intOf]; omega
        · have f1 : ((y : Int) == z) = false := by simpa using e1
          by_cases e2 : z < y
          · have q := Lib.hid (p3 rfl e2)
            replace e1 := Lib.hid e1
            clear p2 p3 p4 hP
            go_wp2_with (first | (refine wpList_wknown rfl (at_intsV s1.out hlt rfl rfl rfl rfl _) ?_) | (refine wpList_wknown rfl (get_int g1.out rfl rfl) ?_) | (at_builtin; refine wpList_append_z rfl _ _ rfl w.heap.size _ out _ rfl wr hown.out rfl rfl rfl hol hb.size ?_; intro v8 w8 own8 g8 b8; refine Hid.out ?_))
            unfold Hid
            have b8' := hb.trans b8.out
            have s8 := Lib.hid (hs.out.after b8')
            have k8 := Lib.hid (h2.out w8 b8')
            have hol8 : (out ++ [z]).length ≤ 1000000 := by have := put_len q.out; simp at this ⊢; omega
            clear g8 b8 s1 g1 hb hown h2
            go_wp2_with (first | (refine wpList_wknown rfl (at_intsV s8.out hlt rfl rfl rfl rfl _) ?_) | (refine wpList_wknown rfl (get_int k8.out rfl rfl) ?_) | (at_builtin; refine wpList_append_z rfl _ _ rfl w.heap.size _ (out ++ [z]) _ rfl w8 own8.out rfl rfl rfl hol8 b8'.size ?_; intro v9 w9 own9 g9 b9))
            have b10 := b8'.trans b9.out
            go_roundw
            case rel => exact ⟨i + 1, true, _, by omega, by go_num, rfl, q, own9, b10⟩
            case measure => simp [intOf]; omega
          · have q := Lib.hid (p4 rfl e1 e2)
            replace e1 := Lib.hid e1
            clear p2 p3 p4 hP
            go_wp2_with (first | (refine wpList_wknown rfl (at_intsV s1.out hlt rfl rfl rfl rfl _) ?_) | (refine wpList_wknown rfl (get_int g1.out rfl rfl) ?_) | (at_builtin; refine wpList_append_z rfl _ _ rfl w.heap.size _ out _ rfl wr hown.out rfl rfl rfl hol hb.size ?_; intro v9 w9 own9 g9 b9))
            have b10 := hb.trans b9.out
            go_roundw
            case rel => exact ⟨i + 1, false, _, by omega, by go_num, rfl, q, own9, b10⟩
            case measure => simp [intOf]; omega
      · have q := Lib.hid (p1 rfl)
        clear p1 p2 p3 p4 hP
        obtain ⟨b, hbb⟩ : ∃ b, ((y : Int) == z) = b := ⟨_, rfl⟩
        cases b
        · go_wp2_with (first | (refine wpList_wknown rfl (at_intsV s1.out hlt rfl rfl rfl rfl _) ?_) | (refine wpList_wknown rfl (get_int g1.out rfl rfl) ?_) | (at_builtin; refine wpList_append_z rfl _ _ rfl w.heap.size _ out _ rfl wr hown.out rfl rfl rfl hol hb.size ?_; intro v9 w9 own9 g9 b9))
          have b10 := hb.trans b9.out
          go_roundw
          case rel => exact ⟨i + 1, true, _, by omega, by go_num, rfl, q, own9, b10⟩
          case measure => simp [intOf]; omega
        · go_wp2_with (first | (refine wpList_wknown rfl (at_intsV s1.out hlt rfl rfl rfl rfl _) ?_) | (refine wpList_wknown rfl (get_int g1.out rfl rfl) ?_) | (at_builtin; refine wpList_append_z rfl _ _ rfl w.heap.size _ out _ rfl wr hown.out rfl rfl rfl hol hb.size ?_; intro v9 w9 own9 g9 b9))
          have b10 := hb.trans b9.out
          go_roundw
          case rel => exact ⟨i + 1, true, _, by omega, by go_num, rfl, q, own9, b10⟩
          case measure => simp [intOf]; omega
    · have li : ¬ (i : Int) < (l.length : Int) := by omega
      have ei : i = l.length := by omega
      subst ei
      cases done
      · have e := Lib.hid (put_done.2 hP.out)
        clear hP
        go_wp2_with (first | (at_builtin; refine wpList_append_z rfl _ _ rfl w.heap.size _ out _ rfl wr hown.out rfl rfl rfl hol hb.size ?_; intro v9 w9 own9 g9 b9))
        have b10 := hb.trans b9.out
        go_ret
        exact ⟨_, rfl, by rw [← e.out]; exact own9, b10⟩
      · have e := Lib.hid (put_done.1 hP.out)
        clear hP
        go_wp2
        go_ret
        exact ⟨_, rfl, by rw [← e.out]; exact hown, hb⟩

end Go.Proofs.Ytjhalbifljnfjaa
