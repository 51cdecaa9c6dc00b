/-
  The walk of AdversaryPairs.
-/
import Derived.Test.YtjhalbifljnfjaaAdvPairsFF
import Derived.Test.YtjhalbifljnfjaaAdvPairsFT
import Derived.Test.YtjhalbifljnfjaaAdvPairsTF
import Derived.Test.YtjhalbifljnfjaaAdvPairsTT
import Derived.Test.YtjhalbifljnfjaaOpen
namespace Go.Proofs.Ytjhalbifljnfjaa
open Go.RowKit
theorem walk_AdversaryPairs (a : Int) (h0 : (Lit.int .u16 a).wf = true) (b : Int) (h1 : (Lit.int .u16 b).wf = true) (one two : Bool) (w : World) :
    Calls Try.prog 7 #[.int .u16 a, .int .u16 b, .bool one, .bool two] w fun e w' => e = .returned (.bool true) ∧ Below w.heap.size w w' := by
  obtain ⟨_, _⟩ := wf_u16 h0
  obtain ⟨_, _⟩ := wf_u16 h1
  obtain ⟨x, rfl⟩ := Int.eq_ofNat_of_zero_le (show 0 ≤ a by omega)
  obtain ⟨y, rfl⟩ := Int.eq_ofNat_of_zero_le (show 0 ≤ b by omega)
  have hx : x < 65536 := by omega
  have hy : y < 65536 := by omega
  cases one <;> cases two
  · exact pairs_ff x y hx hy w
  · exact pairs_ft x y hx hy w
  · exact pairs_tf x y hx hy w
  · exact pairs_tt x y hx hy w
end Go.Proofs.Ytjhalbifljnfjaa
