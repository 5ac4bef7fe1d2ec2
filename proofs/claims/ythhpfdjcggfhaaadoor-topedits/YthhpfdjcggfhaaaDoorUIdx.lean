/- bytes.IndexAny at the two ends of lines: the first byte 10 or 13. -/
import Derived.Test.YthhpfdjcggfhaaaDoorUIdxA
import Derived.Test.YthhpfdjcggfhaaaDoorUIdxB
import Derived.Test.YthhpfdjcggfhaaaDoorUIdxC
namespace Go.Proofs.YthhpfdjcggfhaaaDoor
set_option linter.unusedVariables false
set_option linter.unusedSimpArgs false
set_option maxRecDepth 1000000
open Go Go.RowKit Go.Shelf Go.Lib

theorem indexAny_calls (w : World) (ao : Option Addr) (cap : Nat) (T : List Nat) (h : Byts w (.slice ao T.length cap) T) (hT : Utf8Tabs 1 2 w) (hlen : T.length ≤ 1000000000) (hcap : T.length ≤ cap) (m : Int) (hm : w.cell? ⟨0, 0, none⟩ = some (.int .i64 m)) :
    Calls Tryd.prog 58 #[.slice ao T.length cap, .string endsStr] w fun e w' => ∃ r, e = .returned (.int .i64 r) ∧ Ends T r ∧ Below w.heap.size w w' := by
  by_cases h1 : T.length = 1
  · exact idx_one w ao cap T h h1
  · by_cases h8 : 8 < T.length
    · exact idx_long w ao cap T h h8 hlen
    · exact idx_short endsStr rfl w ao cap T h hT (by omega) h1 hcap m hm

end Go.Proofs.YthhpfdjcggfhaaaDoor
