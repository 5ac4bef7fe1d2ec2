/- bytes.IndexAny at the two ends of lines: the first byte 10 or 13. -/
import Derived.Test.YthhpfdjcggfhaaaDoorUIdx0
import Derived.Test.YthhpfdjcggfhaaaDoorUSet
import Derived.Test.YthhpfdjcggfhaaaDoorUOne
namespace Go.Proofs.YthhpfdjcggfhaaaDoor
set_option linter.unusedVariables false
set_option linter.unusedSimpArgs false
set_option maxRecDepth 1000000
open Go Go.RowKit Go.Shelf Go.Lib

theorem endsL : ∀ (j : Nat) b, endsStr.data.toList[j]? = some b → b.toNat < 128 := by
  intro j b h
  rw [endsStr_list] at h
  match j, h with
  | 0, h => simp at h; subst h; decide
  | 1, h => simp at h; subst h; decide
  | j + 2, h => simp at h
theorem endsEmp : endsStr.toList.isEmpty = false := by rw [toList_data, endsStr_list]; rfl
theorem endsOne : ((endsStr.size : Int) == 1) = false := by decide
theorem set_all : ∀ x : Fin 256, ([10, 13] : List UInt8).contains (UInt8.ofNat x.val) = (decide (x.val = 10) || decide (x.val = 13)) := by decide
theorem set_at {x : Nat} (hx : x < 256) : (setCells endsStr.data.toList)[x]? = some (.bool (decide (x = 10) || decide (x = 13))) := by
  have h := setCells_at endsStr.data.toList (UInt8.ofNat x)
  have e : (UInt8.ofNat x).toNat = x := by simp [UInt8.toNat_ofNat']; omega
  rw [e] at h
  rw [h, endsStr_list, set_all ⟨x, hx⟩]

set_option maxHeartbeats 1000000 in
theorem should_calls (w : World) (n : Int) :
    Calls Tryd.prog 63 #[.int .i64 n] w fun e w' => e = .returned (.bool (decide (8 < n))) ∧ w' = w := by
  go_enter Tryd.func63, Tryd.ntmps63
  go_wp2
  go_ret
  exact ⟨rfl, rfl⟩

end Go.Proofs.YthhpfdjcggfhaaaDoor
