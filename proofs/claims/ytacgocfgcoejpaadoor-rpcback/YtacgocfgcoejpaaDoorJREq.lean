/- Json: the reference's Equal over trees. -/
import Derived.Test.YtacgocfgcoejpaaDoorJREq0
namespace Go.Proofs.YtacgocfgcoejpaaDoor
set_option linter.unusedVariables false
set_option linter.unusedSimpArgs false
set_option maxRecDepth 100000
open Go Go.RowKit Go.Shelf Go.Lib

def REqR (w : World) (T T' : JT) (e : Ending) (w' : World) : Prop := e = .returned (.bool (eqJ T T')) ∧ Below w.heap.size w w'

theorem str_ne {s u : ByteArray} (h : s ≠ u) : (s.toList == u.toList) = false := by
  have h1 : s.data ≠ u.data := fun e => h (by cases s; cases u; simpa using e)
  rw [toList_data, toList_data]
  simpa using h1

end Go.Proofs.YtacgocfgcoejpaaDoor
