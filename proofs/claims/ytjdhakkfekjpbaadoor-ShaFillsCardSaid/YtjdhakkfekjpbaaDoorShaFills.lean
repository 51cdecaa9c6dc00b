/-
  The walk of the law ShaFills.
-/
import Derived.Test.YtjdhakkfekjpbaaDoorShaEq
import Derived.Test.YtjdhakkfekjpbaaDoorShaOpen
namespace Go.Proofs.YtjdhakkfekjpbaaDoor
open Go.RowKit

theorem fill_at0 (n : Nat) (h : 0 < (bs (fillL n)).size) : ((bs (fillL n))[0]'h).toNat = 128 := rfl

theorem fill_be (n i : Nat) (hi : i < 8) (h : fillZ n + 1 + i < (fillL n).length) : (fillL n)[fillZ n + 1 + i] = UInt8.ofNat (8 * n / 256 ^ (7 - i)) := by
  simp only [fillL]
  rw [List.getElem_append_right (by simp)]
  unfold be8
  rw [List.getElem_map, List.getElem_range]
  simp only [List.length_cons, List.length_replicate]
  rw [show fillZ n + 1 + i - (fillZ n + 1) = i by omega]

theorem fill_last (n k : Nat) (hk : k = fillZ n + 8) (h : k < (bs (fillL n)).size) : ((((bs (fillL n))[k]'h).toNat : Nat) : Int) = (n : Int) * 8 % 256 := by
  subst hk
  have e := fill_be n 7 (by decide) (by rw [fillL_length]; omega)
  have e2 : (bs (fillL n))[fillZ n + 8]'h = (fillL n)[fillZ n + 1 + 7]'(by rw [fillL_length]; omega) := rfl
  rw [e2, e, UInt8.toNat_ofNat']
  simp
  omega

theorem fill_last2 (n k : Nat) (hk : k = fillZ n + 7) (h : k < (bs (fillL n)).size) : ((((bs (fillL n))[k]'h).toNat : Nat) : Int) = (n : Int) * 8 / 256 % 256 := by
  subst hk
  have e := fill_be n 6 (by decide) (by rw [fillL_length]; omega)
  have e2 : (bs (fillL n))[fillZ n + 7]'h = (fillL n)[fillZ n + 1 + 6]'(by rw [fillL_length]; omega) := rfl
  rw [e2, e, UInt8.toNat_ofNat']
  simp
  omega

set_option maxHeartbeats 400000 in
set_option maxRecDepth 8000 in
theorem walk_ShaFills (n : Int) (hn : (Lit.int .u16 n).wf = true) (w : World) (hk : KRow w) :
    Calls Tryd.prog 6 #[.int .u16 n] w fun e w' => e = .returned (.bool true) ∧ Below w.heap.size w w' := by
  have HK := Lib.hid hk
  have hb := wf_u16 hn
  obtain ⟨n, rfl⟩ := Int.eq_ofNat_of_zero_le hb.1
  have hn2 : n < 65536 := by omega
  clear hk hn hb
  have F := Lib.hid (fun w => fill_any n (by omega) w)
  have Z := Lib.hid (fun w => fill_neg (-1 - (n : Int)) (by omega) w)
  have hL : (bs (fillL n)).size = fillZ n + 9 := by
    show (fillL n).toArray.size = _
    rw [List.size_toArray, fillL_length]
  have hz : (n + (fillZ n + 9)) % 64 = 0 := by unfold fillZ; omega
  have hz2 : fillZ n < 64 := by unfold fillZ; omega
  have x0 := Lib.hid (fill_at0 n)
  have x1 := Lib.hid (fill_last n (fillZ n + 8) rfl)
  have x2 := Lib.hid (fill_last2 n (fillZ n + 7) rfl)
  generalize bs (fillL n) = s at *
  generalize fillZ n = z at *
  obtain ⟨k1, hk1⟩ : ∃ k, z + 8 = k := ⟨_, rfl⟩
  obtain ⟨k2, hk2⟩ : ∃ k, z + 7 = k := ⟨_, rfl⟩
  rw [hk1] at x1
  rw [hk2] at x2
  have l0 : 0 < s.size := by omega
  have l1 : k1 < s.size := by omega
  have l2 : k2 < s.size := by omega
  have y0 := x0.out l0
  have y1 := x1.out l1
  have y2 := x2.out l2
  have i1 : (s.size : Int) - 1 = (k1 : Int) := by omega
  have i2 : (s.size : Int) - 2 = (k2 : Int) := by omega
  have g1 : ((n : Int) + (s.size : Int)) % 64 = 0 := by omega
  have g2 : (9 : Int) ≤ (s.size : Int) := by omega
  have g3 : (s.size : Int) < 73 := by omega
  have l0' : (0 : Int) < (s.size : Int) := by omega
  have l1' : (k1 : Int) < (s.size : Int) := by omega
  have l2' : (k2 : Int) < (s.size : Int) := by omega
  clear x0 x1 x2 hk1 hk2 hL hz hz2
  go_enter Tryd.func6, Tryd.ntmps6
  go_wp2_with fail
  refine (F.out _).mono ?_
  rintro e w1 ⟨rfl, hb1⟩
  go_wp2_with fail
  refine (Z.out _).mono ?_
  rintro e w2 ⟨rfl, rfl⟩
  have hb2 : Hid (KRow w2) := HK.out.below hb1 HK.out.1 hb1.size
  rw [show bs [] = ByteArray.empty from rfl]
  go_wp2_with fail
  refine (shown_any _ hb2).mono ?_
  rintro e w3 ⟨rfl, hb3⟩
  have b3 := hb1.trans (hb3.mono hb1.size)
  go_wp2
  go_ret
  exact ⟨rfl, b3⟩

end Go.Proofs.YtjdhakkfekjpbaaDoor
