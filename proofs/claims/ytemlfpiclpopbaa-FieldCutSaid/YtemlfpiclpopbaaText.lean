/-
  Contracts of the functions of package field that write and take texts.
-/
import Derived.Test.YtemlfpiclpopbaaShown
import Derived.Lib.AppendStr
import Derived.Lib.SlBytesConst
namespace Go.Proofs.Ytemlfpiclpopbaa
open Go.RowKit

/-- The bytes of a text: its length in two, and the text. -/
def txt (s : ByteArray) : List UInt8 := numB 2 s.size ++ s.data.toList

theorem txt_length (s : ByteArray) : (txt s).length = 2 + s.size := by
  unfold txt; rw [List.length_append, numB_length, ba_size]

theorem strCells_bv (s : ByteArray) : Lib.strCells s = s.data.toList.map bv := rfl

set_option maxHeartbeats 400000 in
theorem appendText_any (base : Nat) (v : Value) (m : Nat) (xs : List Value) (s : ByteArray) (hs : s.size ≤ 1000) (w : World)
    (hown : w.ownsRow base 5 1 v m xs) (hb : base ≤ w.heap.size) (hm : m ≤ 10000000) :
    Calls Try.prog 32 #[v, .string s] w (Appended base w (m + (2 + s.size)) (xs ++ (txt s).map bv)) := by
  obtain ⟨i0, hi, hz0, hz1, hz2⟩ := info_parts Try.info5
  go_enter Try.func32, Try.ntmps32
  go_wp2_with fail
  refine (appendNumber_any base v m xs _ 2 (by omega) (by decide) (by decide) _ hown hb (by omega)).mono ?_
  rintro e w1 ⟨v1, rfl, hown1, hbl1⟩
  have hb1 := hbl1.size
  clear hown
  go_wp2_with (at_builtin; refine Lib.wpList_append_own_string _ rfl _ _ 48 9 rfl base 5 i0 Try.underlying48 Try.underlying9 hi hz0 hz1 hz2 _ _ _ rfl hown1 s rfl ?c1 ?c2 ?c3 ?_)
  case c1 => unfold maxLen; simp; omega
  case c2 => simp; omega
  case c3 => omega
  intro v2 w2 hown2 hgrow _
  have hbl2 : Below base w w2 := hbl1.grown hgrow (by omega) (fun g hg => (hown1.lt g hg).1)
  have hown3 : w2.ownsRow base 5 1 v2 (m + (2 + s.size)) (xs ++ (txt s).map bv) := by
    unfold txt
    rw [List.map_append, ← List.append_assoc, ← strCells_bv, ← Nat.add_assoc]
    simpa using hown2
  clear hown1 hown2 hgrow hbl1
  go_wp2
  go_ret
  exact ⟨_, rfl, hown3, hbl2⟩

set_option maxHeartbeats 400000 in
theorem text_yes (s : ByteArray) (hs : s.size ≤ 1000) (w : World) :
    Calls Try.prog 15 #[.string s] w fun e w' => e = .returned (.tuple #[.string (bs (txt s)), .int .i64 0]) ∧ Below w.heap.size w w' := by
  go_enter Try.func15, Try.ntmps15
  go_wp2_with fail
  refine (appendText_any w.heap.size _ 0 [] s hs _ (World.ownsRow_nil _ _ _ _) (Nat.le_refl _) (by omega)).mono ?_
  rintro e w1 ⟨v', rfl, hown, hbl⟩
  have hcv := own_string (P := Try.prog) (src := 48) (dst := 9) (txt s) Try.underlying48 Try.underlying5 Try.underlying9 hown
  go_wp2
  go_ret2
  exact ⟨rfl, hbl⟩

set_option maxHeartbeats 400000 in
theorem text_no (s : ByteArray) (hs : 1000 < s.size) (w : World) :
    Calls Try.prog 15 #[.string s] w fun e w' => e = .returned (.tuple #[.string (bs []), .int .i64 11]) ∧ Below w.heap.size w w' := by
  go_enter Try.func15, Try.ntmps15
  go_wp2
  go_ret2
  exact ⟨rfl, Below.refl _ _⟩

theorem bs_append (a : List UInt8) (s : ByteArray) : bs a ++ s = bs (a ++ s.data.toList) := by
  apply ba_ext
  simp [bs]

theorem two_cells (n : Nat) (hn : n ≤ 1000) (w : World) :
    (convert 48 9 (.slice (some ⟨w.heap.size, 0, none⟩) 2 2)).run Try.prog (w.alloc (.cells #[.int .u8 ((n : Int) % 256), .int .u8 ((n : Int) / 256)] 5)) =
      .ok (.string (bs (numB 2 n))) (w.alloc (.cells #[.int .u8 ((n : Int) % 256), .int .u8 ((n : Int) / 256)] 5)) := by
  have h2 : n / 256 < 256 := by omega
  have e1 : Value.int .u8 ((n : Int) / 256) = bv (UInt8.ofNat (n / 256)) := by
    rw [← byte_val]
    congr 1
    omega
  rw [byte_val, e1]
  refine run_convert_bytes_back _ 48 9 5 ⟨w.heap.size, 0, none⟩ 2 (numB 2 n) Try.underlying48 Try.underlying5 Try.underlying9 (fun j hj => ?_)
  have hj2 : j < 2 := by rw [numB_length] at hj; exact hj
  have hc := cell_two_new w (bv (UInt8.ofNat n)) (bv (UInt8.ofNat (n / 256))) 5 j
  match j, hj2 with
  | 0, _ => exact hc _ rfl
  | 1, _ => exact hc _ rfl

set_option maxHeartbeats 400000 in
theorem refText_yes (s : ByteArray) (hs : s.size ≤ 1000) (w : World) :
    Calls Try.prog 16 #[.string s] w fun e w' => e = .returned (.tuple #[.string (bs (txt s)), .int .i64 0]) ∧ Below w.heap.size w w' := by
  have hcv := two_cells s.size hs w
  have E := Lib.hid (bs_append (numB 2 s.size) s)
  have hl : (bs (numB 2 s.size)).size = 2 := rfl
  go_enter Try.func16, Try.ntmps16
  go_wp2
  go_ret2
  refine ⟨?_, (Below.refl _ _).alloc (Nat.le_refl _) _⟩
  unfold txt
  rw [← E.out]
  rfl

set_option maxHeartbeats 400000 in
theorem refText_no (s : ByteArray) (hs : 1000 < s.size) (w : World) :
    Calls Try.prog 16 #[.string s] w fun e w' => e = .returned (.tuple #[.string (bs []), .int .i64 11]) ∧ Below w.heap.size w w' := by
  go_enter Try.func16, Try.ntmps16
  go_wp2
  go_ret2
  exact ⟨rfl, Below.refl _ _⟩

/-- TakeNumber of some bytes, under names. -/
theorem takeNumber_named (s R : ByteArray) (k : Int) (N : Nat) (h1 : 1 ≤ k) (h2 : k ≤ 8) (hks : Hid (k.toNat ≤ s.data.toList.length)) (hN : Hid (N = numV (s.data.toList.take k.toNat))) (hR : Hid (R.data.toList = s.data.toList.drop k.toNat)) (w : World) :
    Calls Try.prog 13 #[.string s, .int .i64 k] w fun e w' => e = .returned (.tuple #[.int .u64 (N : Int), .string R, .int .i64 0]) ∧ Below w.heap.size w w' := by
  have h := takeNumber_yes s k h1 h2 hks w
  rw [← hN.out, ← hR.out, bs_data] at h
  exact h

theorem numV2_lt (l : List UInt8) (h : l.length ≤ 2) : numV l < 65536 := by
  have h1 := numV_lt l
  have h2 : 256 ^ l.length ≤ 256 ^ 2 := Nat.pow_le_pow_right (by decide) h
  omega

theorem ba_take (s : ByteArray) (k : Nat) : (s.extract 0 k).data.toList = s.data.toList.take k := by
  rw [Lib.extract_data]; simp

/-- TakeText's answers. -/
def ttN (L : List UInt8) : Nat := numV (L.take 2)
def ttE (L : List UInt8) : Int := if L.length < 2 then 10 else if 1000 < ttN L then 11 else if (L.drop 2).length < ttN L then 10 else 0
def ttT (L : List UInt8) : List UInt8 := if ttE L = 0 then (L.drop 2).take (ttN L) else []
def ttR (L : List UInt8) : List UInt8 := if ttE L = 0 then (L.drop 2).drop (ttN L) else []

theorem ttE_cases (L : List UInt8) : (L.length < 2 ∧ ttE L = 10) ∨ (2 ≤ L.length ∧ 1000 < ttN L ∧ ttE L = 11) ∨ (2 ≤ L.length ∧ ttN L ≤ 1000 ∧ (L.drop 2).length < ttN L ∧ ttE L = 10) ∨
    (2 ≤ L.length ∧ ttN L ≤ 1000 ∧ ttN L ≤ (L.drop 2).length ∧ ttE L = 0) := by
  unfold ttE
  by_cases h1 : L.length < 2
  · exact .inl ⟨h1, if_pos h1⟩
  · rw [if_neg h1]
    by_cases h2 : 1000 < ttN L
    · exact .inr (.inl ⟨by omega, h2, if_pos h2⟩)
    · rw [if_neg h2]
      by_cases h3 : (L.drop 2).length < ttN L
      · exact .inr (.inr (.inl ⟨by omega, by omega, h3, if_pos h3⟩))
      · exact .inr (.inr (.inr ⟨by omega, by omega, by omega, if_neg h3⟩))

theorem ttT_err (L : List UInt8) (h : ttE L ≠ 0) : ttT L = [] ∧ ttR L = [] := by
  unfold ttT ttR; rw [if_neg h, if_neg h]; exact ⟨rfl, rfl⟩
theorem ttT_ok (L : List UInt8) (h : ttE L = 0) : ttT L = (L.drop 2).take (ttN L) ∧ ttR L = (L.drop 2).drop (ttN L) := by
  unfold ttT ttR; rw [if_pos h, if_pos h]; exact ⟨rfl, rfl⟩

/-- TakeText's end. -/
def TtEnd (L : List UInt8) (w : World) (e : Ending) (w' : World) : Prop :=
  e = .returned (.tuple #[.string (bs (ttT L)), .string (bs (ttR L)), .int .i64 (ttE L)]) ∧ Below w.heap.size w w'

theorem ttEnd_err {L : List UInt8} {w w' : World} {c : Int} (h : ttE L = c) (hc : c ≠ 0) (hb : Below w.heap.size w w') : TtEnd L w (.returned (.tuple #[.string (bs []), .string (bs []), .int .i64 c])) w' := by
  subst h
  unfold TtEnd
  rw [(ttT_err L hc).1, (ttT_err L hc).2]
  exact ⟨rfl, hb⟩

theorem ttEnd_ok {L : List UInt8} {w w' : World} {a b : ByteArray} (h : ttE L = 0) (ha : a.data.toList = (L.drop 2).take (ttN L)) (hb : b.data.toList = (L.drop 2).drop (ttN L)) (hbl : Below w.heap.size w w') :
    TtEnd L w (.returned (.tuple #[.string a, .string b, .int .i64 0])) w' := by
  unfold TtEnd
  rw [(ttT_ok L h).1, (ttT_ok L h).2, h, ← ha, ← hb, bs_data, bs_data]
  exact ⟨rfl, hbl⟩

set_option maxHeartbeats 400000 in
theorem takeText_any (s : ByteArray) (w : World) :
    Calls Try.prog 17 #[.string s] w (TtEnd s.data.toList w) := by
  rcases ttE_cases s.data.toList with ⟨h1, hE⟩ | ⟨h1, h2, hE⟩ | ⟨h1, h2, h3, hE⟩ | ⟨h1, h2, h3, hE⟩
  · have HE := Lib.hid hE; clear hE
    have H1 := Lib.hid h1; clear h1
    go_enter Try.func17, Try.ntmps17
    go_wp2_with fail
    refine (takeNumber_short s 2 (by decide) (by decide) H1 _).mono ?_
    rintro e w1 ⟨rfl, hb1⟩
    go_wp2
    go_ret3
    exact ttEnd_err HE.out (by decide) hb1
  all_goals
    have HE := Lib.hid hE
    have H1 := Lib.hid h1
    obtain ⟨N, hN⟩ : ∃ N, N = ttN s.data.toList := ⟨_, rfl⟩
    obtain ⟨R, hR⟩ : ∃ R : ByteArray, R.data.toList = s.data.toList.drop 2 := ⟨bs (s.data.toList.drop 2), rfl⟩
    have hNlt : N < 65536 := by rw [hN]; exact numV2_lt _ (by rw [List.length_take]; omega)
    rw [← hN] at h2
  · have HN := Lib.hid hN
    have HR := Lib.hid hR
    clear hE h1 hN hR
    go_enter Try.func17, Try.ntmps17
    go_wp2_with fail
    refine (takeNumber_named s R 2 N (by decide) (by decide) H1 HN HR _).mono ?_
    rintro e w1 ⟨rfl, hb1⟩
    go_wp2
    go_ret3
    exact ttEnd_err HE.out (by decide) hb1
  · have hRs : R.size < N := by rw [← hN, ← hR, ba_size] at h3; exact h3
    have HN := Lib.hid hN
    have HR := Lib.hid hR
    clear hE h1 h3 hN hR
    go_enter Try.func17, Try.ntmps17
    go_wp2_with fail
    refine (takeNumber_named s R 2 N (by decide) (by decide) H1 HN HR _).mono ?_
    rintro e w1 ⟨rfl, hb1⟩
    go_wp2
    go_ret3
    exact ttEnd_err HE.out (by decide) hb1
  · have hRs : N ≤ R.size := by rw [← hN, ← hR, ba_size] at h3; exact h3
    have HN := Lib.hid hN
    have HR := Lib.hid hR
    have hRi : (N : Int) ≤ (R.size : Int) := by omega
    have hN0 : (0 : Int) ≤ (N : Int) := by omega
    have d3 : decide (R.size < N) = false := by simp; omega
    clear hE h1 h3 hN hR
    go_enter Try.func17, Try.ntmps17
    go_wp2_with fail
    refine (takeNumber_named s R 2 N (by decide) (by decide) H1 HN HR _).mono ?_
    rintro e w1 ⟨rfl, hb1⟩
    go_wp2
    go_quiet (fail)
    go_wp2
    go_ret3
    refine ttEnd_ok HE.out ?_ ?_ (below_drewN hb1 _)
    · rw [ba_take, HR.out, HN.out]
    · rw [ba_drop, HR.out, HN.out]

theorem two_val (s : ByteArray) (h0 : 0 < s.size) (h1 : 1 < s.size) : wrap64 (wrap64 (s[0].toNat : Int) + wrap64 ((256 : Int) * wrap64 (s[1].toNat : Int))) = (ttN s.data.toList : Int) := by
  have b0 : s[0].toNat < 256 := s[0].toNat_lt
  have b1 : s[1].toNat < 256 := s[1].toNat_lt
  have e : ttN s.data.toList = s[0].toNat + 256 * s[1].toNat := by
    unfold ttN
    have hl : s.data.toList.length = s.size := ba_size s
    rw [List.take_succ_eq_append_getElem (by omega), List.take_succ_eq_append_getElem (by omega)]
    simp [numV]
    rfl
  rw [e]
  unfold wrap64
  omega

set_option maxHeartbeats 400000 in
theorem refTakeText_any (s : ByteArray) (hm : s.size ≤ 3000) (w : World) :
    Calls Try.prog 18 #[.string s] w (TtEnd s.data.toList w) := by
  rcases ttE_cases s.data.toList with ⟨h1, hE⟩ | h
  · have HE := Lib.hid hE; clear hE
    have h1' : s.size < 2 := by rw [← ba_size]; exact h1
    clear h1
    go_enter Try.func18, Try.ntmps18
    go_wp2
    go_ret3
    exact ttEnd_err HE.out (by decide) (Below.refl _ _)
  · have h1 : 2 ≤ s.size := by rw [← ba_size]; rcases h with h | h | h <;> exact h.1
    have i0 : (0 : Int) < (s.size : Int) := by omega
    have i1 : (1 : Int) < (s.size : Int) := by omega
    have n0 : 0 < s.size := by omega
    have n1 : 1 < s.size := by omega
    have d0 : decide ((s.size : Int) < 2) = false := by simp; omega
    have H := Lib.hid h; clear h
    have T := Lib.hid (two_val s n0 n1)
    obtain ⟨N, hN⟩ : ∃ N, N = ttN s.data.toList := ⟨_, rfl⟩
    rw [← hN] at T
    have hNlt : N < 65536 := by rw [hN]; exact numV2_lt _ (by rw [List.length_take]; omega)
    have HN := Lib.hid hN; clear hN
    have hls : Hid ((s.data.toList.drop 2).length = s.size - 2) := by unfold Hid; rw [List.length_drop, ba_size]
    go_enter Try.func18, Try.ntmps18
    go_wp2
    go_quiet (fail)
    rw [T.out]
    rcases H.out with ⟨_, h2, hE⟩ | ⟨_, h2, h3, hE⟩ | ⟨_, h2, h3, hE⟩
    · rw [← HN.out] at h2
      have HE := Lib.hid hE; clear hE
      go_wp2
      go_ret3
      exact ttEnd_err HE.out (by decide) (below_drewN (Below.refl _ _) _)
    · rw [← HN.out] at h2 h3
      rw [hls.out] at h3
      have HE := Lib.hid hE; clear hE
      go_wp2
      go_ret3
      exact ttEnd_err HE.out (by decide) (below_drewN (Below.refl _ _) _)
    · rw [← HN.out] at h2 h3
      rw [hls.out] at h3
      have HE := Lib.hid hE; clear hE
      have c1 : (0 : Int) ≤ 2 + (N : Int) := by omega
      have c2 : (2 : Int) ≤ 2 + (N : Int) := by omega
      have c3 : 2 + (N : Int) ≤ (s.size : Int) := by omega
      have c4 : (2 + (N : Int)).toNat = 2 + N := by omega
      have c5 : IntKind.i64.wrap (2 + (N : Int)) = 2 + (N : Int) := IntWalk.i64_in _ (by omega)
      have d5 : decide ((s.size : Int) < 2 + (N : Int)) = false := by simp; omega
      go_wp2
      go_quiet (fail)
      go_wp2
      go_ret3
      trace_state
      refine ttEnd_ok HE.out ?_ ?_ (below_drewN (below_drewN (Below.refl _ _) _) _)
      · rw [Lib.extract_data, ← HN.out]; simp
      · rw [ba_drop, ← HN.out, List.drop_drop]

end Go.Proofs.Ytemlfpiclpopbaa
