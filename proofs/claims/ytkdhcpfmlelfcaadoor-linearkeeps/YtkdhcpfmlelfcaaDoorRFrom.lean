/- The reference's From: the digits of a number's limbs. -/
import Derived.Test.YtkdhcpfmlelfcaaDoorRMul
namespace Go.Proofs.YtkdhcpfmlelfcaaDoor
set_option linter.unusedVariables false
set_option linter.unusedSimpArgs false
open Go Go.RowKit Go.Shelf

end Go.Proofs.YtkdhcpfmlelfcaaDoor
