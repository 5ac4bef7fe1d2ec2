/- From and bounds, for the laws' walks. -/
import Derived.Test.YtkdhcpfmlelfcaaDoorBound10
import Derived.Test.YtkdhcpfmlelfcaaDoorRFrom
namespace Go.Proofs.YtkdhcpfmlelfcaaDoor
set_option linter.unusedVariables false
set_option linter.unusedSimpArgs false
set_option maxRecDepth 100000
open Go Go.RowKit Go.Shelf Go.Lib

end Go.Proofs.YtkdhcpfmlelfcaaDoor
