/-
  Contracts of the functions that take lists of texts.
-/
import Derived.Test.YtemlfpiclpopbaaList
namespace Go.Proofs.Ytemlfpiclpopbaa
open Go.RowKit

/-- 'n' texts taken one behind the other: the error, what is behind them, the texts. -/
def tlE : Nat → List UInt8 → Int
  | 0, _ => 0
  | n + 1, L => if ttE L = 0 then tlE n (ttR L) else ttE L
def tlR : Nat → List UInt8 → List UInt8
  | 0, L => L
  | n + 1, L => tlR n (ttR L)
def tlT : Nat → List UInt8 → List ByteArray
  | 0, _ => []
  | n + 1, L => bs (ttT L) :: tlT n (ttR L)

theorem tlT_length : ∀ (n : Nat) (L : List UInt8), (tlT n L).length = n
  | 0, _ => rfl
  | n + 1, L => by simp [tlT, tlT_length n]

theorem tlE_ok {n : Nat} {L : List UInt8} (h : ttE L = 0) : tlE (n + 1) L = tlE n (ttR L) := by rw [tlE, if_pos h]
theorem tlE_err {n : Nat} {L : List UInt8} (h : ttE L ≠ 0) : tlE (n + 1) L = ttE L := by rw [tlE, if_neg h]

theorem Try.infoStr : (Try.prog.info? 9).map (fun i => (i.zero, i.size, i.bytes)) = some (some (.string ByteArray.empty), 1, 16) := by kernel_rfl

/-- What the call owns stays owned where everything that was there is as it was. -/
theorem own_below {w w' : World} {base : Nat} {e : TypeId} {size n : Nat} {v : Value} {xs : List Value} (h : w.ownsRow base e size v n xs) (hb : Below w.heap.size w w') : w'.ownsRow base e size v n xs := by
  refine ⟨h.1, ?_⟩
  rcases h.2 with hn | ⟨g, cap, cur, hv, hg, hh, r⟩
  · exact .inl hn
  · exact .inr ⟨g, cap, cur, hv, hg, (hb.block g (lt_of_block hh)).trans hh, r⟩

/-- A row's block is not a block of another element type. -/
theorem own_ne {w : World} {base : Nat} {e t : TypeId} {size n p : Nat} {v u : Value} {xs : List Value} (h : w.ownsRow base e size v n xs) (hp : w.heap[p]? = some (.cells #[u] t (0, 0))) (hne : e ≠ t) : v.ownBlock ≠ some p := by
  rcases h.2 with ⟨rfl, _⟩ | ⟨g, cap, cur, rfl, _, hh, _⟩
  · simp [Value.ownBlock]
  · intro he
    have hgp : g = p := by simpa [Value.ownBlock] using he
    subst hgp
    rw [hh] at hp
    injection hp with hp
    injection hp with _ ht
    exact hne ht

/-- The shape of a slice that owns something. -/
theorem own_form {w : World} {base : Nat} {e : TypeId} {size n : Nat} {v : Value} {xs : List Value} (h : w.ownsRow base e size v n xs) (hn : 0 < n) : ∃ g cap, v = .slice (some ⟨g, 0, none⟩) n cap := by
  rcases h.2 with ⟨_, h0⟩ | ⟨g, cap, _, hv, _⟩
  · omega
  · exact ⟨g, cap, hv⟩

/-- A slice of texts that is owned is seen. -/
theorem own_sees {w : World} {base : Nat} {e : TypeId} {n : Nat} {v : Value} {ss : List ByteArray} (h : w.ownsRow base e 1 v n (ss.map Value.string)) : n = ss.length ∧ ∃ a c, v = .slice a ss.length c ∧ Sees w a ss := by
  have hl : ss.length = n := by simpa using h.1
  subst hl
  refine ⟨rfl, ?_⟩
  rcases h.2 with ⟨rfl, h0⟩ | ⟨g, cap, cur, hv, _, hg, _⟩
  · exact ⟨none, 0, by rw [h0], fun j hj => by omega⟩
  · subst hv
    refine ⟨_, cap, rfl, fun j hj => ⟨_, rfl, lt_of_block hg, ?_⟩⟩
    exact h.cells rfl j _ (by simp [List.getElem?_eq_getElem hj])

/-- What TakeList's closure leaves. -/
def KeptText (base p : Nat) (w : World) (n : Nat) (xs : List Value) (e : Ending) (w' : World) : Prop :=
  e = .returned (.tuple #[]) ∧ ∃ v', w'.heap[p]? = some (.cells #[v'] 38 (0, 0)) ∧ w'.ownsRow base 9 1 v' n xs ∧ Below base w w'

set_option maxHeartbeats 400000 in
theorem keepText (base p : Nat) (t : ByteArray) (v : Value) (n : Nat) (xs : List Value) (w : World) (hn : n ≤ 1000000)
    (hp : w.heap[p]? = some (.cells #[v] 38 (0, 0))) (hown : w.ownsRow base 9 1 v n xs) (hb : base ≤ w.heap.size) (hbp : base ≤ p) :
    Calls Try.prog 35 #[.string t, .pointer (some ⟨p, 0, none⟩)] w (KeptText base p w (n + 1) (xs ++ [.string t])) := by
  obtain ⟨i0, hi, hz0, hz1, hz2⟩ := info_parts Try.infoStr
  have cp := cell_of_one hp
  have hlt := lt_of_block hp
  have hne := Lib.hid (own_ne hown hp (by decide))
  have HP := Lib.hid hp
  clear hp
  go_enter Try.func35, Try.ntmps35
  go_wp2_with (at_builtin; refine wpList_append_own _ rfl _ _ 38 rfl base 9 i0 (.string ByteArray.empty) 1 16 Try.underlying38 hi hz0 hz1 hz2 rfl (by decide) _ _ _ rfl (hown.alloc _) ⟨w.heap.size, 0, none⟩ 1 1 [.string t] rfl rfl ?c1 ?c2 ?c3 ?c4 ?c5 ?_)
  case c1 =>
    intro q u hq
    match q, hq with
    | 0, hq => simp at hq; subst hq; simp [Addr.add]
  case c2 => intro u hu; simp at hu; subst hu; rfl
  case c3 => unfold maxLen; omega
  case c4 => omega
  case c5 => simp; omega
  intro v' w1 hown' hgrow _
  have hp1 : w1.heap[p]? = some (.cells #[v] 38 (0, 0)) := (hgrow.block p (by simp; omega) (fun e => hne.out e.symm)).trans ((Below.heap_alloc w _ p hlt).trans HP.out)
  have cp1 := cell_of_one hp1
  have fp1 := free_of_one hp1
  obtain ⟨g, cap, hv'⟩ := own_form hown' (by omega)
  subst hv'
  have hne1 := own_ne hown' hp1 (by decide)
  have hown2 := Lib.hid (ownsRow_setCell_other hown' (a := ⟨p, 0, none⟩) hne1 (.slice (some ⟨g, 0, none⟩) (n + 1) cap))
  have hp2 : Hid ((w1.setCell ⟨p, 0, none⟩ (.slice (some ⟨g, 0, none⟩) (n + 1) cap)).heap[p]? = some (.cells #[.slice (some ⟨g, 0, none⟩) (n + 1) cap] 38 (0, 0))) := one_setCell hp1
  have hbl : Below base w w1 := ((Below.refl _ _).alloc hb _).grown hgrow (by simp; omega) (fun k hk => (hown.lt k hk).1)
  clear hp1 hne1 hown' hgrow
  go_wp2
  go_end0
  exact ⟨rfl, _, hp2.out, hown2.out, hbl.setCell hbp _⟩

/-- What takeEach over TakeList's closure leaves. -/
def EachList (base p : Nat) (w : World) (k : Nat) (L : List UInt8) (e : Ending) (w' : World) : Prop :=
  ∃ v', w'.heap[p]? = some (.cells #[v'] 38 (0, 0)) ∧ (tlE k L = 0 → e = .returned (.tuple #[.string (bs (tlR k L)), .int .i64 0]) ∧ w'.ownsRow base 9 1 v' k ((tlT k L).map Value.string)) ∧
    (tlE k L ≠ 0 → e = .returned (.tuple #[.string (bs []), .int .i64 (tlE k L)])) ∧ Below base w w'

set_option maxHeartbeats 400000 in
theorem eachList (base p : Nat) (s : ByteArray) (k : Nat) (w : World) (hk : k ≤ 255) (hp : w.heap[p]? = some (.cells #[.slice none 0 0] 38 (0, 0))) (hb : base ≤ w.heap.size) (hbp : base ≤ p) :
    Calls Try.prog 34 #[.string s, .int .i64 (k : Int), .func (.func 17) #[] #[], .func (.func 35) #[] #[.pointer (some ⟨p, 0, none⟩)]] w
      (EachList base p w k s.data.toList) := by
  have HP := Lib.hid hp
  clear hp
  go_enter Try.func34, Try.ntmps34
  go_wp2
  go_loopw [0, 14] (fun t i wr => ∃ (j rem : Nat) (acc : List ByteArray) (r : ByteArray) (v : Value), j ≤ k ∧ Hid (j + rem = k) ∧ i = .int .i64 j ∧ t = .string r ∧ Hid (tlE k s.data.toList = tlE rem r.data.toList) ∧
      Hid (tlR k s.data.toList = tlR rem r.data.toList) ∧ Hid (tlT k s.data.toList = acc ++ tlT rem r.data.toList) ∧ Hid (wr.heap[p]? = some (.cells #[v] 38 (0, 0))) ∧ wr.ownsRow base 9 1 v j (acc.map Value.string) ∧ Below base w wr)
    (fun _ i _ => k - (intOf i).toNat)
  case atStart => exact ⟨0, k, [], s, _, by omega, by unfold Hid; omega, rfl, rfl, rfl, rfl, rfl, HP, World.ownsRow_nil _ _ _ _, Below.refl _ _⟩
  case round =>
    obtain ⟨j, rem, acc, r, v, hj, hrem, rfl, rfl, hE, hR, hT, hp, hown, hbl⟩ := hrel
    have hbs := hbl.size
    by_cases hlt : j < k
    · obtain ⟨rem, rfl⟩ : ∃ q, rem = q + 1 := ⟨rem - 1, by have := hrem.out; omega⟩
      by_cases h0 : ttE r.data.toList = 0
      · have hE1 : Hid (tlE k s.data.toList = tlE rem (bs (ttR r.data.toList)).data.toList) := by unfold Hid; rw [hE.out, tlE_ok h0]; rfl
        have hR1 : Hid (tlR k s.data.toList = tlR rem (bs (ttR r.data.toList)).data.toList) := by unfold Hid; rw [hR.out]; rfl
        have hT1 : Hid (tlT k s.data.toList = (acc ++ [bs (ttT r.data.toList)]) ++ tlT rem (bs (ttR r.data.toList)).data.toList) := by unfold Hid; rw [hT.out, List.append_assoc]; rfl
        have hrem1 : Hid (j + 1 + rem = k) := by have := hrem.out; unfold Hid; omega
        have H0 := Lib.hid h0
        clear h0
        generalize hT0 : bs (ttT r.data.toList) = tx at *
        generalize hR0 : bs (ttR r.data.toList) = rx at *
        have HT0 := Lib.hid hT0; clear hT0
        have HR0 := Lib.hid hR0; clear hR0
        go_wp2_with fail
        refine (takeText_any r _).mono ?_
        rintro e w1 ⟨rfl, hb1⟩
        rw [H0.out, HT0.out, HR0.out]
        have hown1 := own_below hown hb1
        have hp1 := Lib.hid ((hb1.block p (lt_of_block hp.out)).trans hp.out)
        have hbl1 : Below base w w1 := hbl.trans (hb1.mono (by omega))
        have hs1 := hb1.size
        clear hb1 hown hbl
        go_wp2_with fail
        refine (keepText base p tx v j _ w1 (by omega) hp1.out hown1 (by omega) hbp).mono ?_
        rintro e w2 ⟨rfl, v2, hp2', hown2, hbl2⟩
        have hp2 := Lib.hid hp2'; clear hp2'
        have hbl3 : Below base w w2 := hbl1.trans hbl2
        have hown3 : w2.ownsRow base 9 1 v2 (j + 1) ((acc ++ [tx]).map Value.string) := by rw [List.map_append]; exact hown2
        clear hown1 hown2 hbl1 hbl2
        go_wp2
        go_roundw
        case rel => exact ⟨j + 1, rem, acc ++ [tx], rx, v2, by omega, hrem1, by go_num, rfl, hE1, hR1, hT1, hp2, hown3, hbl3⟩
        case measure => simp [intOf]; omega
      · have hE1 : Hid (tlE k s.data.toList = ttE r.data.toList) := by unfold Hid; rw [hE.out, tlE_err h0]
        have hT0 := Lib.hid (ttT_err r.data.toList h0)
        obtain ⟨c, hc⟩ : ∃ c, c = ttE r.data.toList := ⟨_, rfl⟩
        rw [← hc] at h0 hE1
        have hcb : (c == 0) = false := beq_eq_false_iff_ne.2 h0
        have hcn : (c != 0) = true := by rw [bne_iff_ne]; exact h0
        have HC := Lib.hid hc; clear hc
        have H0 := Lib.hid h0; clear h0
        go_wp2_with fail
        refine (takeText_any r _).mono ?_
        rintro e w1 ⟨rfl, hb1⟩
        rw [hT0.out.1, hT0.out.2, ← HC.out]
        have hp1 := Lib.hid ((hb1.block p (lt_of_block hp.out)).trans hp.out)
        have hbl1 : Below base w w1 := hbl.trans (hb1.mono (by omega))
        clear hb1 hown hbl
        go_wp2
        go_ret2
        exact ⟨v, hp1.out, fun h => absurd (hE1.out.symm.trans h) H0.out, fun _ => by rw [hE1.out]; rfl, hbl1⟩
    · have hje : j = k := by omega
      have hr0 : rem = 0 := by have := hrem.out; omega
      subst hje
      subst hr0
      have hE1 : Hid (tlE j s.data.toList = 0) := hE
      have hR1 : Hid (bs (tlR j s.data.toList) = r) := by unfold Hid; rw [hR.out]; exact bs_data r
      have hT1 : Hid (tlT j s.data.toList = acc) := by unfold Hid; rw [hT.out]; exact List.append_nil _
      have hown1 : Hid (wr.ownsRow base 9 1 v j ((tlT j s.data.toList).map Value.string)) := by unfold Hid; rw [hT1.out]; exact hown
      clear hown
      go_wp2
      go_ret2
      exact ⟨v, hp.out, fun _ => ⟨by rw [hR1.out]; rfl, hown1.out⟩, fun h => absurd hE1.out h, hbl⟩

/-- TakeList's answers. -/
def taE (L : List UInt8) : Int := if L.length < 1 then 10 else tlE (numV (L.take 1)) (L.drop 1)
def taR (L : List UInt8) : List UInt8 := if taE L = 0 then tlR (numV (L.take 1)) (L.drop 1) else []
def taT (L : List UInt8) : List ByteArray := if taE L = 0 then tlT (numV (L.take 1)) (L.drop 1) else []

theorem ta_err (L : List UInt8) (h : taE L ≠ 0) : taR L = [] ∧ taT L = [] := by
  unfold taR taT; rw [if_neg h, if_neg h]; exact ⟨rfl, rfl⟩
theorem ta_ok (L : List UInt8) (h : taE L = 0) : taR L = tlR (numV (L.take 1)) (L.drop 1) ∧ taT L = tlT (numV (L.take 1)) (L.drop 1) := by
  unfold taR taT; rw [if_pos h, if_pos h]; exact ⟨rfl, rfl⟩

theorem numV1_lt (l : List UInt8) (h : l.length ≤ 1) : numV l < 256 := by
  have h1 := numV_lt l
  have h2 : 256 ^ l.length ≤ 256 ^ 1 := Nat.pow_le_pow_right (by decide) h
  omega

/-- TakeList's end. -/
def TaEnd (L : List UInt8) (w : World) (e : Ending) (w' : World) : Prop :=
  ∃ a c, e = .returned (.tuple #[.slice a (taT L).length c, .string (bs (taR L)), .int .i64 (taE L)]) ∧ Sees w' a (taT L) ∧ Below w.heap.size w w'

theorem taEnd_err {L : List UInt8} {w w' : World} {c : Int} (h : taE L = c) (hc : c ≠ 0) (hb : Below w.heap.size w w') : TaEnd L w (.returned (.tuple #[.slice none 0 0, .string (bs []), .int .i64 c])) w' := by
  subst h
  unfold TaEnd
  rw [(ta_err L hc).1, (ta_err L hc).2]
  exact ⟨none, 0, rfl, fun j hj => by simp at hj, hb⟩

theorem taEnd_ok {L : List UInt8} {w w' : World} {v : Value} {r : ByteArray} {base n : Nat} {e : TypeId} (h : taE L = 0) (hr : r = bs (tlR (numV (L.take 1)) (L.drop 1))) (ho : w'.ownsRow base e 1 v n ((tlT (numV (L.take 1)) (L.drop 1)).map Value.string)) (hb : Below w.heap.size w w') :
    TaEnd L w (.returned (.tuple #[v, .string r, .int .i64 0])) w' := by
  unfold TaEnd
  rw [(ta_ok L h).1, (ta_ok L h).2, h]
  obtain ⟨_, a, c, rfl, hs⟩ := own_sees ho
  subst hr
  exact ⟨a, c, rfl, hs, hb⟩

set_option maxHeartbeats 400000 in
theorem takeList_any (s : ByteArray) (w : World) : Calls Try.prog 23 #[.string s] w (TaEnd s.data.toList w) := by
  by_cases h1 : s.data.toList.length < 1
  · have HE : Hid (taE s.data.toList = 10) := by unfold Hid taE; rw [if_pos h1]
    have H1 := Lib.hid h1; clear h1
    go_enter Try.func23, Try.ntmps23
    go_wp2_with fail
    refine (takeNumber_short s 1 (by decide) (by decide) H1 _).mono ?_
    rintro e w1 ⟨rfl, hb1⟩
    go_wp2
    go_ret3
    exact taEnd_err HE.out (by decide) hb1
  · have HE : Hid (taE s.data.toList = tlE (numV (s.data.toList.take 1)) (s.data.toList.drop 1)) := by unfold Hid taE; rw [if_neg h1]
    obtain ⟨N, hN⟩ : ∃ N, N = numV (s.data.toList.take 1) := ⟨_, rfl⟩
    obtain ⟨R, hR⟩ : ∃ R : ByteArray, R.data.toList = s.data.toList.drop 1 := ⟨bs (s.data.toList.drop 1), rfl⟩
    have hNlt : N ≤ 255 := by have := numV1_lt (s.data.toList.take 1) (by rw [List.length_take]; omega); omega
    have H1 : Hid ((1 : Int).toNat ≤ s.data.toList.length) := by unfold Hid; show 1 ≤ _; omega
    have HN := Lib.hid hN
    have HR := Lib.hid hR
    clear h1 hN hR
    go_enter Try.func23, Try.ntmps23
    go_wp2_with fail
    refine (takeNumber_named s R 1 N (by decide) (by decide) H1 HN HR _).mono ?_
    rintro e w1 ⟨rfl, hb1⟩
    go_wp2_with fail
    refine (eachList w.heap.size w1.heap.size R N _ hNlt (heap_alloc_new w1 _) (by have := hb1.size; simp; omega) hb1.size).mono ?_
    rintro e w2 ⟨v, hp, hyes, hno, hb2⟩
    have hbl : Below w.heap.size w w2 := (hb1.alloc hb1.size _).trans hb2
    clear hb1 hb2
    have hcell := cell_of_one hp
    have HP := Lib.hid hp
    clear hp
    by_cases h0 : tlE N R.data.toList = 0
    · obtain ⟨rfl, hown⟩ := hyes h0
      have HE2 : Hid (taE s.data.toList = 0) := by unfold Hid; rw [HE.out, ← HN.out, ← HR.out]; exact h0
      have HR2 : Hid (bs (tlR N R.data.toList) = bs (tlR (numV (s.data.toList.take 1)) (s.data.toList.drop 1))) := by unfold Hid; rw [← HN.out, ← HR.out]
      have HO : Hid (w2.ownsRow w.heap.size 9 1 v N ((tlT (numV (s.data.toList.take 1)) (s.data.toList.drop 1)).map Value.string)) := by unfold Hid; rw [← HN.out, ← HR.out]; exact hown
      clear hyes hno h0 hown
      generalize bs (tlR N R.data.toList) = rx at *
      go_wp2
      go_ret3
      exact taEnd_ok HE2.out HR2.out HO.out hbl
    · have he := hno h0
      subst he
      have HE2 : Hid (taE s.data.toList = tlE N R.data.toList) := by unfold Hid; rw [HE.out, ← HN.out, ← HR.out]
      clear hyes hno
      generalize tlE N R.data.toList = c at *
      have hcb : (c == 0) = false := beq_eq_false_iff_ne.2 h0
      have hcn : (c != 0) = true := by rw [bne_iff_ne]; exact h0
      have H0 := Lib.hid h0; clear h0
      go_wp2
      go_ret3
      exact taEnd_err HE2.out H0.out hbl

end Go.Proofs.Ytemlfpiclpopbaa
