/- From and bounds, for the laws' walks. -/
import Derived.Test.YtkdhcpfmlelfcaaGreatDoorBound10
import Derived.Test.YtkdhcpfmlelfcaaGreatDoorRFrom
namespace Go.Proofs.YtkdhcpfmlelfcaaGreatDoor
set_option linter.unusedVariables false
set_option linter.unusedSimpArgs false
set_option maxRecDepth 100000
open Go Go.RowKit Go.Shelf Go.Lib

/-- From, of a number of at most twelve limbs. -/
theorem from_res {w : World} {sv : Value} {xs : List Nat} (h : Limbs w sv xs) (hl : xs.length ≤ 12) :
    Calls Tryz.prog 99 #[sv] w fun e w' => ∃ rv, e = .returned rv ∧ RRes w' rv (val R xs) ∧ Below w.heap.size w w' := rfrom_calls w sv xs h (by omega)

end Go.Proofs.YtkdhcpfmlelfcaaGreatDoor
