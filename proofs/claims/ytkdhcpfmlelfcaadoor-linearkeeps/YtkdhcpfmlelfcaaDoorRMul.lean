/- The reference's Mul: the product, digit by digit. -/
import Derived.Test.YtkdhcpfmlelfcaaDoorRBase
import Derived.Deep.RegionWith
import Derived.Deep.DeepMust
namespace Go.Proofs.YtkdhcpfmlelfcaaDoor
set_option linter.unusedVariables false
set_option linter.unusedSimpArgs false
open Go Go.RowKit Go.Shelf

end Go.Proofs.YtkdhcpfmlelfcaaDoor
