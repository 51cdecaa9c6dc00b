/-
  Arrays of words, or of bytes, that came in, laid open.
-/
import Derived.Test.YtapebaoajknepaaShaRows
import Derived.ProofKit
import Derived.OpenShut
namespace Go.Proofs.Ytapebaoajknepaa
open Go.ChangeShapes Go.WideShapes Go.ChangeAt Go.RowKit

/-- The number in a cell. -/
def natOf (v : Option Value) : Nat := match v with | some (.int _ n) => n.toNat | _ => 0

theorem wf_u32 {n : Int} (h : (Lit.int .u32 n).wf = true) : 0 ≤ n ∧ n < 4294967296 := by
  simp [Lit.wf, IntKind.min, IntKind.max, IntKind.signed, IntKind.bits] at h
  omega
theorem wf_u8 {n : Int} (h : (Lit.int .u8 n).wf = true) : 0 ≤ n ∧ n < 256 := by
  simp [Lit.wf, IntKind.min, IntKind.max, IntKind.signed, IntKind.bits] at h
  omega
theorem wf_u16 {n : Int} (h : (Lit.int .u16 n).wf = true) : 0 ≤ n ∧ n < 65536 := by
  simp [Lit.wf, IntKind.min, IntKind.max, IntKind.signed, IntKind.bits] at h
  omega

theorem open_cells {P : Program} {H : Type} {enc : TypeId × Value → H} {W : World} {base : Nat} {sp : Nat → Bool} {held : Bool} {t e : TypeId} {n : Nat} {k : IntKind} {v : Value} {d : DataW H} {ps : List MemPlace} {r : Reach} {b0 : Nat}
    (ht : P.underlying t = some (.array n e)) (he : P.underlying e = some (.int k)) (hc : P.cellsOf e = 1) (hn : P.cellsOf t = n) (hv : Value.okWide P W r b0 t v) (h : DataW.Trod enc P W base sp held t v d ps) :
    ∃ cs : Array Value, v = .agg cs ∧ cs.size = n ∧ ∀ i, i < n → ∃ x : Int, cs[i]? = some (.int k x) ∧ (Lit.int k x).wf = true := by
  unfold Value.okWide at hv
  rw [ht] at hv
  obtain ⟨cs, rfl, hs, _⟩ := hv
  obtain ⟨fuel, hf⟩ := h
  obtain ⟨xs, m1, rfl, _, _, hx, hel⟩ := DataW.trod_array ht hf
  refine ⟨cs, rfl, by omega, fun i hi => ?_⟩
  have h0 := hel i hi
  rw [List.getElem?_eq_getElem (by omega), hc, Nat.mul_one] at h0
  obtain ⟨x, e1, _, hw⟩ := DataW.trod_int he h0
  refine ⟨x, ?_, hw⟩
  have : ((cs.toList.drop i).take 1)[0]? = some (.int k x) := by
    have e2 : (Value.agg cs).cells.toList = cs.toList := rfl
    rw [e2] at e1
    rw [e1]
    rfl
  rw [← Array.getElem?_toList]
  simpa using this

theorem open_words {P : Program} {H : Type} {enc : TypeId × Value → H} {W : World} {base : Nat} {sp : Nat → Bool} {held : Bool} {t e : TypeId} {n : Nat} {v : Value} {d : DataW H} {ps : List MemPlace} {r : Reach} {b0 : Nat}
    (ht : P.underlying t = some (.array n e)) (he : P.underlying e = some (.int .u32)) (hc : P.cellsOf e = 1) (hn : P.cellsOf t = n) (hv : Value.okWide P W r b0 t v) (h : DataW.Trod enc P W base sp held t v d ps) :
    ∃ f, Words f ∧ v = .agg (rowOf n (w32 f)) := by
  obtain ⟨cs, rfl, hs, hx⟩ := open_cells ht he hc hn hv h
  refine ⟨fun i => natOf cs[i]?, fun i => ?_, ?_⟩
  · by_cases hi : i < n
    · obtain ⟨x, hx1, hw⟩ := hx i hi
      have := wf_u32 hw
      simp only [hx1, natOf]
      omega
    · show natOf cs[i]? < _
      rw [Array.getElem?_eq_none (by omega)]
      decide
  · congr 1
    apply Array.ext
    · rw [rowOf_size, hs]
    · intro i h1 h2
      obtain ⟨x, hx1, hw⟩ := hx i (by omega)
      have hb := wf_u32 hw
      have hr := rowOf_get n (w32 fun i => natOf cs[i]?) i (by omega)
      rw [Array.getElem?_eq_getElem h2] at hr
      rw [Option.some.inj hr]
      rw [Array.getElem?_eq_getElem h1] at hx1
      rw [Option.some.inj hx1]
      unfold w32
      simp only [Array.getElem?_eq_getElem h1, Option.some.inj hx1, natOf]
      congr 1
      omega

theorem open_bytes {P : Program} {H : Type} {enc : TypeId × Value → H} {W : World} {base : Nat} {sp : Nat → Bool} {held : Bool} {t e : TypeId} {n : Nat} {v : Value} {d : DataW H} {ps : List MemPlace} {r : Reach} {b0 : Nat}
    (ht : P.underlying t = some (.array n e)) (he : P.underlying e = some (.int .u8)) (hc : P.cellsOf e = 1) (hn : P.cellsOf t = n) (hv : Value.okWide P W r b0 t v) (h : DataW.Trod enc P W base sp held t v d ps) :
    ∃ f, Bytes f ∧ v = .agg (rowOf n (w8 f)) := by
  obtain ⟨cs, rfl, hs, hx⟩ := open_cells ht he hc hn hv h
  refine ⟨fun i => natOf cs[i]?, fun i => ?_, ?_⟩
  · by_cases hi : i < n
    · obtain ⟨x, hx1, hw⟩ := hx i hi
      have := wf_u8 hw
      simp only [hx1, natOf]
      omega
    · show natOf cs[i]? < _
      rw [Array.getElem?_eq_none (by omega)]
      decide
  · congr 1
    apply Array.ext
    · rw [rowOf_size, hs]
    · intro i h1 h2
      obtain ⟨x, hx1, hw⟩ := hx i (by omega)
      have hb := wf_u8 hw
      have hr := rowOf_get n (w8 fun i => natOf cs[i]?) i (by omega)
      rw [Array.getElem?_eq_getElem h2] at hr
      rw [Option.some.inj hr]
      rw [Array.getElem?_eq_getElem h1] at hx1
      rw [Option.some.inj hx1]
      unfold w8
      simp only [Array.getElem?_eq_getElem h1, Option.some.inj hx1, natOf]
      congr 1
      omega

end Go.Proofs.Ytapebaoajknepaa
