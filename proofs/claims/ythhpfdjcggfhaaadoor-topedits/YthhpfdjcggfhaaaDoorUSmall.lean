/- Contracts of small functions of utf and of the reference: Unit, within. -/
import Derived.Test.YthhpfdjcggfhaaaDoorUUnits
namespace Go.Proofs.YthhpfdjcggfhaaaDoor
set_option linter.unusedVariables false
set_option linter.unusedSimpArgs false
open Go Go.RowKit Go.Shelf Go.Lib

set_option maxHeartbeats 1000000 in
theorem runit_calls (w : World) (r : Int) :
    Calls Tryd.prog 39 #[.int .i64 r] w fun e w' => e = .returned (.int .i64 ((unitOf r : Nat) : Int)) ∧ w' = w := by
  by_cases h : r > 65535
  · have e : unitOf r = 2 := by unfold unitOf; rw [if_pos h]
    rw [e]
    go_enter Tryd.func39, Tryd.ntmps39
    go_wp2
    go_ret
    exact ⟨rfl, rfl⟩
  · have e : unitOf r = 1 := by unfold unitOf; rw [if_neg h]
    rw [e]
    go_enter Tryd.func39, Tryd.ntmps39
    go_wp2
    go_ret
    exact ⟨rfl, rfl⟩

/-- A number moved between two bounds. -/
def clamp (n hi : Int) : Int := if n < 0 then 0 else if n > hi then hi else n

set_option maxHeartbeats 1000000 in
theorem rwithin_calls (w : World) (n hi : Int) :
    Calls Tryd.prog 36 #[.int .i64 n, .int .i64 0, .int .i64 hi] w fun e w' => e = .returned (.int .i64 (clamp n hi)) ∧ w' = w := by
  by_cases h : n < 0
  · have e : clamp n hi = 0 := by unfold clamp; rw [if_pos h]
    rw [e]
    go_enter Tryd.func36, Tryd.ntmps36
    go_wp2
    go_ret
    exact ⟨rfl, rfl⟩
  · by_cases k : n > hi
    · have e : clamp n hi = hi := by unfold clamp; rw [if_neg h, if_pos k]
      rw [e]
      go_enter Tryd.func36, Tryd.ntmps36
      go_wp2
      go_ret
      exact ⟨rfl, rfl⟩
    · have e : clamp n hi = n := by unfold clamp; rw [if_neg h, if_neg k]
      rw [e]
      go_enter Tryd.func36, Tryd.ntmps36
      go_wp2
      go_ret
      exact ⟨rfl, rfl⟩

end Go.Proofs.YthhpfdjcggfhaaaDoor
