/-
  The stream, as a function of the place.
-/
import Derived.Test.YtmbkjbkbnigcfaaListB
import Derived.Test.YtmbkjbkbnigcfaaKey
import Derived.Test.YtmbkjbkbnigcfaaAesState
namespace Go.Proofs.Ytmbkjbkbnigcfaa
open Go.RowKit

/-- The block that is locked: the eight bytes of the nonce, and of the number. -/
def cntN (nonce i : Nat) : Nat → Nat := fun j => if j < 8 then nonce / 256 ^ j % 256 else i / 256 ^ (j - 8) % 256

theorem cnt_byt (nonce i : Nat) : Byt (cntN nonce i) := fun j => by
  unfold cntN
  split <;> exact Nat.mod_lt _ (by decide)

/-- The byte of the stream at a place. -/
def streamN (key : Nat → Nat) (nonce j : Nat) : Nat := lockN key (cntN nonce (j / 16)) (j % 16)

theorem stream_byt {key : Nat → Nat} (hk : Byt key) (nonce : Nat) : Byt (streamN key nonce) := fun j => lock_byt hk (cnt_byt nonce (j / 16)) (j % 16)

theorem cnt_list (nonce i : Nat) : numB 8 nonce ++ numB 8 i = listB 16 (cntN nonce i) := by
  rw [show (16 : Nat) = 8 + 8 from rfl, listB_append, ← numB_list, ← numB_list]
  have e1 : listB 8 (fun j => nonce / 256 ^ j % 256) = listB 8 (cntN nonce i) := listB_congr fun j hj => by unfold cntN; rw [if_pos hj]
  have e2 : listB 8 (fun j => i / 256 ^ j % 256) = listB 8 (fun j => cntN nonce i (8 + j)) := listB_congr fun j hj => by unfold cntN; rw [if_neg (by omega), show 8 + j - 8 = j by omega]
  rw [e1, e2]

theorem keyC_listB (f : Nat → Nat) (hf : Byt f) : keyC (listB 16 f) = rowOf 16 (w8 f) := by
  unfold keyC
  rw [listB_length]
  unfold listB rowOf
  rw [List.map_map]
  simp only [Nat.sub_self, List.replicate_zero, List.append_nil]
  congr 1
  apply List.map_congr_left
  intro j _
  unfold w8 bv
  simp only [Function.comp]
  rw [UInt8.toNat_ofNat', Nat.mod_eq_of_lt (hf j)]

theorem cnt_key (nonce i : Nat) (s : ByteArray) (hs : s = bs (numB 8 nonce) ++ bs (numB 8 i)) : s.data.toList.length = 16 ∧ keyC (s.data.toList.take 16) = rowOf 16 (w8 (cntN nonce i)) := by
  subst hs
  have e : (bs (numB 8 nonce) ++ bs (numB 8 i)).data.toList = listB 16 (cntN nonce i) := by rw [bs_app, ← cnt_list]; rfl
  rw [e]
  refine ⟨listB_length _ _, ?_⟩
  rw [List.take_of_length_le (by rw [listB_length]; exact Nat.le_refl _)]
  exact keyC_listB _ (cnt_byt nonce i)

end Go.Proofs.Ytmbkjbkbnigcfaa
