/-
  Contracts: a slot whose power goes on, or is given a fuse.
-/
import Derived.Test.YtopajipagacmkaaSlotLow
namespace Go.Proofs.Ytopajipagacmkaa
open Go.RowKit
set_option linter.unusedVariables false

theorem slOn_any (B pp sp : Nat) (S : SS) (w : World) (h : Hid (Sl B w pp sp S)) :
    Calls Try.prog 18 #[.pointer (some ⟨pp, 0, none⟩)] w fun e w' => e = .returned (.tuple #[]) ∧ Hid (Sl B w' pp sp (onSS S)) ∧ Beside (footS pp sp) w w' :=
  (powOn_any pp S.p.up S.p.left S.p.keep S.p.junk w h.out.pow).mono fun e w' ⟨he, hr, ha⟩ => ⟨he, (h.out.power ha hr.out h.out.byte h.out.tall).1, (h.out.power ha hr.out h.out.byte h.out.tall).2⟩
theorem slFuse_any (B pp sp : Nat) (S : SS) (w : World) (h : Hid (Sl B w pp sp S)) (n k N : Int) (K : Nat) (hN : (n < 0 ∧ N = 0) ∨ (0 ≤ n ∧ N = n)) (hK : (k < 0 ∧ (K : Int) = 0) ∨ (0 ≤ k ∧ (K : Int) = k)) (hk : k < 9223372036854775808) :
    Calls Try.prog 15 #[.pointer (some ⟨pp, 0, none⟩), .int .i64 n, .int .i64 k, .int .u8 0] w fun e w' => e = .returned (.tuple #[]) ∧ Hid (Sl B w' pp sp (fuseSS S N K 0)) ∧ Beside (footS pp sp) w w' :=
  (powFuse_any pp S.p.up S.p.left S.p.keep S.p.junk w h.out.pow n k N K hN hK 0).mono fun e w' ⟨he, hr, ha⟩ => by
    have hk2 : (K : Int) < 9223372036854775808 := by omega
    exact ⟨he, (h.out.power ha hr.out (by decide) hk2).1, (h.out.power ha hr.out (by decide) hk2).2⟩

end Go.Proofs.Ytopajipagacmkaa
