/-
  Contracts of the document's own taking of a list, and of its comparison of lists.
-/
import Derived.Test.YtemlfpiclpopbaaTakeList
namespace Go.Proofs.Ytemlfpiclpopbaa
open Go.RowKit

theorem ttR_len (L : List UInt8) : (ttR L).length ≤ L.length := by
  unfold ttR
  split
  · rw [List.length_drop, List.length_drop]; omega
  · simp

/-- How the document's taking of a list ends. -/
def RefTaEnd (k : Nat) (L : List UInt8) (w : World) (e : Ending) (w' : World) : Prop :=
  (tlE k L = 0 → ∃ v, e = .returned (.tuple #[v, .string (bs (tlR k L)), .int .i64 0]) ∧ w'.ownsRow w.heap.size 9 1 v k ((tlT k L).map Value.string)) ∧
  (tlE k L ≠ 0 → e = .returned (.tuple #[.slice none 0 0, .string (bs []), .int .i64 (tlE k L)])) ∧ Below w.heap.size w w'

set_option maxHeartbeats 400000 in
theorem refTakeList_in (s R : ByteArray) (N : Nat) (h1 : 0 < s.size) (hm : s.size ≤ 3000) (hN : Hid (wrap64 (s[0].toNat : Int) = (N : Int))) (hNlt : N ≤ 255) (hR : Hid (s.extract 1 s.size = R)) (hRs : R.size ≤ 3000) (w : World) :
    Calls Try.prog 24 #[.string s] w (RefTaEnd N R.data.toList w) := by
  obtain ⟨i0, hi, hz0, hz1, hz2⟩ := info_parts Try.infoStr
  have h0 : ((s.size : Int) == 0) = false := beq_eq_false_iff_ne.2 (by omega)
  have i1 : (0 : Int) < (s.size : Int) := by omega
  have i2 : (1 : Int) ≤ (s.size : Int) := by omega
  go_enter Try.func24, Try.ntmps24
  go_wp2
  rw [hR.out, hN.out]
  go_loopw [0, 6, 7] (fun t v i wr => ∃ (j rem : Nat) (acc : List ByteArray) (r : ByteArray), j ≤ N ∧ Hid (j + rem = N) ∧ i = .int .i64 j ∧ t = .string r ∧ r.size ≤ 3000 ∧ Hid (tlE N R.data.toList = tlE rem r.data.toList) ∧
      Hid (tlR N R.data.toList = tlR rem r.data.toList) ∧ Hid (tlT N R.data.toList = acc ++ tlT rem r.data.toList) ∧ wr.ownsRow w.heap.size 9 1 v j (acc.map Value.string) ∧ Below w.heap.size w wr)
    (fun _ _ i _ => N - (intOf i).toNat)
  case atStart => exact ⟨0, N, [], R, by omega, by unfold Hid; omega, rfl, rfl, hRs, rfl, rfl, rfl, World.ownsRow_made _ _ _ (Nat.le_refl _) (by unfold maxLen; omega) (by simp), (Below.refl _ _).alloc (Nat.le_refl _) _⟩
  case round =>
    obtain ⟨j, rem, acc, r, hj, hrem, rfl, rfl, hrs, hE, hRR, hT, hown, hbl⟩ := hrel
    have hbs := hbl.size
    by_cases hlt : j < N
    · obtain ⟨rem, rfl⟩ : ∃ q, rem = q + 1 := ⟨rem - 1, by have := hrem.out; omega⟩
      by_cases h0 : ttE r.data.toList = 0
      · have hE1 : Hid (tlE N R.data.toList = tlE rem (bs (ttR r.data.toList)).data.toList) := by unfold Hid; rw [hE.out, tlE_ok h0]; rfl
        have hR1 : Hid (tlR N R.data.toList = tlR rem (bs (ttR r.data.toList)).data.toList) := by unfold Hid; rw [hRR.out]; rfl
        have hT1 : Hid (tlT N R.data.toList = (acc ++ [bs (ttT r.data.toList)]) ++ tlT rem (bs (ttR r.data.toList)).data.toList) := by unfold Hid; rw [hT.out, List.append_assoc]; rfl
        have hrem1 : Hid (j + 1 + rem = N) := by have := hrem.out; unfold Hid; omega
        have hrs1 : (bs (ttR r.data.toList)).size ≤ 3000 := by
          have := ttR_len r.data.toList
          rw [ba_size] at this
          rw [← ba_size]
          exact Nat.le_trans this hrs
        have H0 := Lib.hid h0
        clear h0
        generalize hT0 : bs (ttT r.data.toList) = tx at *
        generalize hR0 : bs (ttR r.data.toList) = rx at *
        have HT0 := Lib.hid hT0; clear hT0
        have HR0 := Lib.hid hR0; clear hR0
        go_wp2_with fail
        refine (refTakeText_any r hrs _).mono ?_
        rintro e w1 ⟨rfl, hb1⟩
        rw [H0.out, HT0.out, HR0.out]
        have hown1 := own_below hown hb1
        have hbl1 : Below w.heap.size w w1 := hbl.trans (hb1.mono (by omega))
        have hs1 := hb1.size
        clear hb1 hown hbl
        go_wp2_with (at_builtin; refine wpList_append_own _ rfl _ _ 38 rfl w.heap.size 9 i0 (.string ByteArray.empty) 1 16 Try.underlying38 hi hz0 hz1 hz2 rfl (by decide) _ _ _ rfl (hown1.alloc _) ⟨w1.heap.size, 0, none⟩ 1 1 [.string tx] rfl rfl ?c1 ?c2 ?c3 ?c4 ?c5 ?_)
        case c1 =>
          intro q u hq
          match q, hq with
          | 0, hq => simp at hq; subst hq; simp [Addr.add]
        case c2 => intro u hu; simp at hu; subst hu; rfl
        case c3 => unfold maxLen; omega
        case c4 => omega
        case c5 => simp; omega
        intro v2 w2 hown2 hgrow _
        have hown3 : w2.ownsRow w.heap.size 9 1 v2 (j + 1) ((acc ++ [tx]).map Value.string) := by rw [List.map_append]; exact hown2
        have hbl3 : Below w.heap.size w w2 := (hbl1.alloc (by omega) _).grown hgrow (by simp; omega) (fun g hg => (hown1.lt g hg).1)
        clear hown1 hown2 hbl1 hgrow
        go_wp2
        go_roundw
        case rel => exact ⟨j + 1, rem, acc ++ [tx], rx, by omega, hrem1, by go_num, rfl, hrs1, hE1, hR1, hT1, hown3, hbl3⟩
        case measure => simp [intOf]; omega
      · have hE1 : Hid (tlE N R.data.toList = ttE r.data.toList) := by unfold Hid; rw [hE.out, tlE_err h0]
        have hT0 := Lib.hid (ttT_err r.data.toList h0)
        obtain ⟨c, hc⟩ : ∃ c, c = ttE r.data.toList := ⟨_, rfl⟩
        rw [← hc] at h0 hE1
        have hcb : (c == 0) = false := beq_eq_false_iff_ne.2 h0
        have hcn : (c != 0) = true := by rw [bne_iff_ne]; exact h0
        have HC := Lib.hid hc; clear hc
        have H0 := Lib.hid h0; clear h0
        go_wp2_with fail
        refine (refTakeText_any r hrs _).mono ?_
        rintro e w1 ⟨rfl, hb1⟩
        rw [hT0.out.1, hT0.out.2, ← HC.out]
        have hbl1 : Below w.heap.size w w1 := hbl.trans (hb1.mono (by omega))
        clear hb1 hown hbl
        go_wp2
        go_ret3
        exact ⟨fun h => absurd (hE1.out.symm.trans h) H0.out, fun _ => by rw [hE1.out]; rfl, hbl1⟩
    · have hje : j = N := by omega
      have hr0 : rem = 0 := by have := hrem.out; omega
      subst hr0
      have hjN := Lib.hid hje
      clear hje
      have hE1 : Hid (tlE N R.data.toList = 0) := hE
      have hR1 : Hid (bs (tlR N R.data.toList) = r) := by unfold Hid; rw [hRR.out]; exact bs_data r
      have hT1 : Hid (tlT N R.data.toList = acc) := by unfold Hid; rw [hT.out]; exact List.append_nil _
      have hown1 : Hid (wr.ownsRow w.heap.size 9 1 u6 N ((tlT N R.data.toList).map Value.string)) := by unfold Hid; rw [hT1.out, ← hjN.out]; exact hown
      clear hown
      go_wp2
      go_ret3
      exact ⟨fun _ => ⟨_, by rw [hR1.out]; rfl, hown1.out⟩, fun h => absurd hE1.out h, hbl⟩

theorem head_val (s : ByteArray) (h : 0 < s.size) : wrap64 (s[0].toNat : Int) = (numV (s.data.toList.take 1) : Int) := by
  have b0 : s[0].toNat < 256 := s[0].toNat_lt
  have e : numV (s.data.toList.take 1) = s[0].toNat := by
    have hl : s.data.toList.length = s.size := ba_size s
    rw [List.take_succ_eq_append_getElem (by omega)]
    simp [numV]
    rfl
  rw [e]
  unfold wrap64
  omega

set_option maxHeartbeats 400000 in
theorem refTakeList_short (s : ByteArray) (h : s.size = 0) (w : World) :
    Calls Try.prog 24 #[.string s] w fun e w' => e = .returned (.tuple #[.slice none 0 0, .string (bs []), .int .i64 10]) ∧ w = w' := by
  have h0 : ((s.size : Int) == 0) = true := beq_iff_eq.2 (by omega)
  have H := Lib.hid h; clear h
  go_enter Try.func24, Try.ntmps24
  go_wp2
  go_ret3
  exact ⟨rfl, rfl⟩

theorem refTakeList_any (s : ByteArray) (hm : s.size ≤ 3000) (w : World) : Calls Try.prog 24 #[.string s] w (TaEnd s.data.toList w) := by
  by_cases h : 0 < s.size
  · have hl : ¬ s.data.toList.length < 1 := by rw [ba_size]; omega
    have hE : taE s.data.toList = tlE (numV (s.data.toList.take 1)) (s.data.toList.drop 1) := by unfold taE; rw [if_neg hl]
    have hR : (bs (s.data.toList.drop 1)).data.toList = s.data.toList.drop 1 := rfl
    refine (refTakeList_in s (bs (s.data.toList.drop 1)) _ h hm (head_val s h) ?_ ?_ ?_ w).mono ?_
    · have := numV1_lt (s.data.toList.take 1) (by rw [List.length_take]; omega); omega
    · unfold Hid; apply ba_ext; rw [ba_drop]; rfl
    · rw [← ba_size, hR, List.length_drop, ba_size]; omega
    · rintro e w' ⟨hy, hno, hb⟩
      rw [hR] at hy hno
      by_cases h0 : tlE (numV (s.data.toList.take 1)) (s.data.toList.drop 1) = 0
      · obtain ⟨v, rfl, hown⟩ := hy h0
        exact taEnd_ok (hE.trans h0) rfl hown hb
      · rw [hno h0]
        exact taEnd_err hE h0 hb
  · have hE : taE s.data.toList = 10 := by unfold taE; rw [if_pos (by rw [ba_size]; omega)]
    refine (refTakeList_short s (by omega) w).mono ?_
    rintro e w' ⟨rfl, rfl⟩
    exact taEnd_err hE (by decide) (Below.refl _ _)

set_option maxHeartbeats 400000 in
theorem same_yes (a b : Option Addr) (c d : Nat) (ss : List ByteArray) (hl : ss.length ≤ 1000000) (w : World) (ha : Hid (Sees w a ss)) (hb : Hid (Sees w b ss)) :
    Calls Try.prog 25 #[.slice a ss.length c, .slice b ss.length d] w fun e w' => e = .returned (.bool true) ∧ Below w.heap.size w w' := by
  go_enter Try.func25, Try.ntmps25
  go_wp2
  go_loopw [5] (fun i wr => ∃ j : Nat, j ≤ ss.length ∧ i = .int .i64 j ∧ Below w.heap.size w wr) (fun i _ => ss.length - (intOf i).toNat)
  case atStart => exact ⟨0, by omega, rfl, Below.refl _ _⟩
  case round =>
    obtain ⟨j, hj, rfl, hbl⟩ := hrel
    by_cases hlt : j < ss.length
    · obtain ⟨ad, ea, hadb, hca⟩ := (Sees.below ha.out hbl (Nat.le_refl _)) j hlt
      obtain ⟨bd, eb, hbdb, hcb⟩ := (Sees.below hb.out hbl (Nat.le_refl _)) j hlt
      subst ea
      subst eb
      generalize hse : ss[j] = s at hca hcb
      clear hse
      have j0 : (0 : Int) ≤ (j : Int) := by omega
      have j1 : (j : Int) < (ss.length : Int) := by omega
      go_wp2
      go_quiet (fail)
      go_wp2
      go_roundw
      case rel => exact ⟨j + 1, by omega, by go_num, below_drewN hbl _⟩
      case measure => simp [intOf]; omega
    · go_wp2
      go_ret
      exact ⟨rfl, hbl⟩

end Go.Proofs.Ytemlfpiclpopbaa
