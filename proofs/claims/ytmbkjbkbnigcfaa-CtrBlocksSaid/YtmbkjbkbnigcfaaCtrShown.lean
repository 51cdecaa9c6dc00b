/-
  Contract: shown: a text is hidden, and back.
-/
import Derived.Test.YtmbkjbkbnigcfaaCtrAt
import Derived.Test.YtmbkjbkbnigcfaaAesLit
namespace Go.Proofs.Ytmbkjbkbnigcfaa
open Go.RowKit

def cxK0 : List Nat := [1, 0, 0, 0, 0, 0, 0, 0, 0, 0, 0, 0, 0, 0, 0, 0]
def cxK1 : List Nat := [99, 99, 99, 99, 99, 99, 99, 99, 99, 99, 99, 99, 99, 99, 99, 99]
def cxK2 : List Nat := [154, 152, 152, 152, 249, 251, 251, 251, 154, 152, 152, 152, 249, 251, 251, 251]
def cxK3 : List Nat := [145, 151, 151, 1, 104, 108, 108, 250, 242, 244, 244, 98, 11, 15, 15, 153]
def cxK4 : List Nat := [239, 225, 121, 42, 135, 141, 21, 208, 117, 121, 225, 178, 126, 118, 238, 43]
def cxK5 : List Nat := [199, 201, 136, 217, 64, 68, 157, 9, 53, 61, 124, 187, 75, 75, 146, 144]
def cxK6 : List Nat := [84, 134, 232, 106, 20, 194, 117, 99, 33, 255, 9, 216, 106, 180, 155, 72]
def cxK7 : List Nat := [153, 146, 186, 104, 141, 80, 207, 11, 172, 175, 198, 211, 198, 27, 93, 155]
def cxK8 : List Nat := [182, 222, 174, 220, 59, 142, 97, 215, 151, 33, 167, 4, 81, 58, 250, 159]
def cxK9 : List Nat := [45, 243, 117, 13, 22, 125, 20, 218, 129, 92, 179, 222, 208, 102, 73, 65]
def cxK10 : List Nat := [40, 200, 246, 125, 62, 181, 226, 167, 191, 233, 81, 121, 111, 143, 24, 56]
def cxS0 : List Nat := [3, 0, 0, 0, 0, 0, 0, 0, 0, 0, 0, 0, 0, 0, 0, 0]
def cxS1 : List Nat := [48, 24, 24, 40, 0, 0, 0, 0, 0, 0, 0, 0, 0, 0, 0, 0]
def cxS2 : List Nat := [55, 156, 156, 82, 205, 207, 97, 54, 55, 178, 124, 53, 211, 31, 86, 86]
def cxS3 : List Nat := [154, 131, 111, 87, 225, 119, 159, 160, 93, 137, 6, 195, 199, 114, 211, 53]
def cxS4 : List Nat := [121, 143, 75, 84, 163, 209, 107, 180, 101, 182, 157, 85, 51, 43, 27, 17]
def cxS5 : List Nat := [46, 99, 33, 103, 9, 24, 252, 182, 153, 202, 49, 47, 192, 19, 195, 33]
def cxS6 : List Nat := [224, 89, 253, 178, 33, 220, 200, 43, 210, 185, 169, 237, 182, 61, 158, 252]
def cxS7 : List Nat := [178, 186, 171, 126, 170, 43, 43, 36, 17, 89, 244, 157, 161, 174, 236, 192]
def cxS8 : List Nat := [213, 112, 216, 164, 3, 21, 143, 192, 235, 224, 95, 115, 157, 173, 39, 112]
def cxS9 : List Nat := [94, 89, 89, 60, 93, 217, 214, 232, 55, 157, 216, 101, 99, 128, 42, 132]
def cxS10 : List Nat := [112, 253, 151, 34, 114, 235, 7, 76, 37, 36, 154, 226, 148, 68, 238, 117]

/-- The key of the example. -/
def oneK : Nat → Nat := fun j => if j = 0 then 1 else 0
theorem oneK_byt : Byt oneK := fun j => by unfold oneK; split <;> decide
theorem oneK_row : rowOf 16 (w8 oneK) = #[.int .u8 1, .int .u8 0, .int .u8 0, .int .u8 0, .int .u8 0, .int .u8 0, .int .u8 0, .int .u8 0, .int .u8 0, .int .u8 0, .int .u8 0, .int .u8 0, .int .u8 0, .int .u8 0, .int .u8 0, .int .u8 0] := rfl

theorem ck0 : Same16 (rkN oneK 0) (lf cxK0) := same_lit (by kernel_rfl)
theorem ck1 : Same16 (rkN oneK 1) (lf cxK1) := rk_lit ck0 (by kernel_rfl)
theorem ck2 : Same16 (rkN oneK 2) (lf cxK2) := rk_lit ck1 (by kernel_rfl)
theorem ck3 : Same16 (rkN oneK 3) (lf cxK3) := rk_lit ck2 (by kernel_rfl)
theorem ck4 : Same16 (rkN oneK 4) (lf cxK4) := rk_lit ck3 (by kernel_rfl)
theorem ck5 : Same16 (rkN oneK 5) (lf cxK5) := rk_lit ck4 (by kernel_rfl)
theorem ck6 : Same16 (rkN oneK 6) (lf cxK6) := rk_lit ck5 (by kernel_rfl)
theorem ck7 : Same16 (rkN oneK 7) (lf cxK7) := rk_lit ck6 (by kernel_rfl)
theorem ck8 : Same16 (rkN oneK 8) (lf cxK8) := rk_lit ck7 (by kernel_rfl)
theorem ck9 : Same16 (rkN oneK 9) (lf cxK9) := rk_lit ck8 (by kernel_rfl)
theorem ck10 : Same16 (rkN oneK 10) (lf cxK10) := rk_lit ck9 (by kernel_rfl)
theorem cs0 : Same16 (lockTo oneK (cntN 2 0) 0) (lf cxS0) := same_lit (by kernel_rfl)
theorem cs1 : Same16 (lockTo oneK (cntN 2 0) 1) (lf cxS1) := st_lit cs0 ck1 (by kernel_rfl)
theorem cs2 : Same16 (lockTo oneK (cntN 2 0) 2) (lf cxS2) := st_lit cs1 ck2 (by kernel_rfl)
theorem cs3 : Same16 (lockTo oneK (cntN 2 0) 3) (lf cxS3) := st_lit cs2 ck3 (by kernel_rfl)
theorem cs4 : Same16 (lockTo oneK (cntN 2 0) 4) (lf cxS4) := st_lit cs3 ck4 (by kernel_rfl)
theorem cs5 : Same16 (lockTo oneK (cntN 2 0) 5) (lf cxS5) := st_lit cs4 ck5 (by kernel_rfl)
theorem cs6 : Same16 (lockTo oneK (cntN 2 0) 6) (lf cxS6) := st_lit cs5 ck6 (by kernel_rfl)
theorem cs7 : Same16 (lockTo oneK (cntN 2 0) 7) (lf cxS7) := st_lit cs6 ck7 (by kernel_rfl)
theorem cs8 : Same16 (lockTo oneK (cntN 2 0) 8) (lf cxS8) := st_lit cs7 ck8 (by kernel_rfl)
theorem cs9 : Same16 (lockTo oneK (cntN 2 0) 9) (lf cxS9) := st_lit cs8 ck9 (by kernel_rfl)
theorem cs10 : Same16 (lockTo oneK (cntN 2 0) 10) (lf cxS10) := st_lit cs9 ck10 (by kernel_rfl)
theorem one_stream : streamN oneK 2 0 = 112 := cs10 0 (by decide)

theorem xor_again (a b : Nat) : a ^^^ (a ^^^ b) = b := by rw [← Nat.xor_assoc, Nat.xor_self, Nat.zero_xor]

theorem byteS_bs (n : Nat) (f : Nat → Nat) (hf : Byt f) (j : Nat) (h : j < n) : byteS (bs (listB n f)) j = f j := by
  unfold byteS
  rw [listB_bs, List.getD_eq_getElem?_getD, listB_get _ _ _ h]
  show (UInt8.ofNat (f j)).toNat = f j
  rw [UInt8.toNat_ofNat', Nat.mod_eq_of_lt (hf j)]

theorem bs_listB_size (n : Nat) (f : Nat → Nat) : (bs (listB n f)).size = n := by rw [bs_size, listB_length]

theorem bs_byteS (s : ByteArray) : bs (listB s.size (byteS s)) = s := by
  rw [← ba_size, listB_byteS, bs_data]

/-- Hidden twice is not hidden. -/
theorem hide_twice {key : Nat → Nat} (hk : Byt key) (nonce at_ : Nat) (s : ByteArray) : bs (listB s.size (hideN key nonce at_ (bs (listB s.size (hideN key nonce at_ s))))) = s := by
  have e : listB s.size (hideN key nonce at_ (bs (listB s.size (hideN key nonce at_ s)))) = listB s.size (byteS s) := listB_congr fun j hj => by
    show streamN key nonce (at_ + j) ^^^ byteS (bs (listB s.size (hideN key nonce at_ s))) j = byteS s j
    rw [byteS_bs _ _ (hide_byt hk nonce at_ s) j hj]
    exact xor_again _ _
  rw [e, bs_byteS]

def abcS : ByteArray := ⟨#[97, 98, 99]⟩

theorem hideN_at (key : Nat → Nat) (nonce at_ : Nat) (s : ByteArray) (j : Nat) : hideN key nonce at_ s j = streamN key nonce (at_ + j) ^^^ byteS s j := rfl

theorem abc_hidden : bs (listB 3 (hideN oneK 2 0 abcS)) ≠ abcS := fun h => by
  have h2 : byteS (bs (listB 3 (hideN oneK 2 0 abcS))) 0 = byteS abcS 0 := by rw [h]
  rw [byteS_bs _ _ (hide_byt oneK_byt 2 0 abcS) 0 (by decide)] at h2
  have hb : byteS abcS 0 = 97 := rfl
  rw [hideN_at, hb, Nat.add_zero, one_stream] at h2
  exact absurd h2 (by decide)

set_option maxHeartbeats 1000000 in
set_option maxRecDepth 8000 in
theorem shown_any (w : World) :
    Calls Try.prog 9 #[] w fun e w' => e = .returned (.bool true) ∧ Below w.heap.size w w' := by
  have hne : ((bs (listB 3 (hideN oneK 2 0 abcS))).toList == [97, 98, 99]) = false := by
    rw [beq_eq_false_iff_ne, ByteArray.toList_eq]
    intro h
    exact abc_hidden (ba_ext h)
  have htw : bs (listB 3 (hideN oneK 2 0 (bs (listB 3 (hideN oneK 2 0 abcS))))) = abcS := hide_twice oneK_byt 2 0 abcS
  have hsz : (bs (listB 3 (hideN oneK 2 0 abcS))).size = 3 := bs_listB_size _ _
  have A1 : Hid (∀ w, Calls Try.prog 12 #[.agg (rowOf 16 (w8 oneK)), .int .u64 2, .string abcS] w fun e w' => e = .returned (.string (bs (listB 3 (hideN oneK 2 0 abcS)))) ∧ Below w.heap.size w w') :=
    fun w => crypt_yes oneK oneK_byt 2 (by unfold Hid; decide) abcS (by decide) w
  have A2 : Hid (∀ w, Calls Try.prog 12 #[.agg (rowOf 16 (w8 oneK)), .int .u64 2, .string (bs (listB 3 (hideN oneK 2 0 abcS)))] w fun e w' => e = .returned (.string (bs (listB 3 (hideN oneK 2 0 (bs (listB 3 (hideN oneK 2 0 abcS))))))) ∧ Below w.heap.size w w') :=
    fun w => by have := crypt_yes oneK oneK_byt 2 (by unfold Hid; decide) (bs (listB 3 (hideN oneK 2 0 abcS))) (by rw [hsz]; decide) w; rw [hsz] at this; exact this
  rw [htw] at A2
  clear htw
  rw [oneK_row] at A1 A2
  generalize bs (listB 3 (hideN oneK 2 0 abcS)) = X at *
  unfold abcS at *
  go_enter Try.func9, Try.ntmps9
  go_wp2_with fail
  refine (A1.out _).mono ?_
  rintro e w1 ⟨rfl, hb1⟩
  clear A1
  go_wp2_with fail
  refine (A2.out _).mono ?_
  rintro e w2 ⟨rfl, hb2⟩
  clear A2
  have hb3 := hb1.trans (hb2.mono hb1.size)
  clear hb1 hb2
  go_wp2
  go_ret
  exact ⟨rfl, hb3⟩

end Go.Proofs.Ytmbkjbkbnigcfaa
