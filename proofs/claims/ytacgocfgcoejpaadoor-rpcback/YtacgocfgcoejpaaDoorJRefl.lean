/- Json: a tree is the same as itself. -/
import Derived.Test.YtacgocfgcoejpaaDoorJEq0
namespace Go.Proofs.YtacgocfgcoejpaaDoor
set_option linter.unusedVariables false
set_option linter.unusedSimpArgs false
set_option maxRecDepth 100000
open Go Go.RowKit Go.Shelf Go.Lib

mutual
theorem eqJ_refl : ∀ T : JT, eqJ T T = true
  | .mk k s K L => by
    have := eqJs_refl L
    rw [eqJ]
    simp [this]
theorem eqJs_refl : ∀ L : List JT, eqJs L L = true
  | [] => by rw [eqJs]
  | a :: l => by rw [eqJs, eqJ_refl a, eqJs_refl l]; rfl
end

end Go.Proofs.YtacgocfgcoejpaaDoor
