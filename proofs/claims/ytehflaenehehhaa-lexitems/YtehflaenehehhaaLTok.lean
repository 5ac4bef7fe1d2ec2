/- Small functions of lex: what is wrong with a piece, is it a token, the iterator itself. -/
import Derived.Test.YtehflaenehehhaaLPiece
namespace Go.Proofs.Ytehflaenehehhaa
set_option linter.unusedVariables false
set_option linter.unusedSimpArgs false
set_option maxRecDepth 100000
open Go Go.RowKit Go.Shelf Go.Lib

/-- What is wrong with a piece of so many bytes. -/
def faultL (k : Int) (n : Nat) : Int := if k = -3 then 20 else if k = 3 ∧ 40 < n then 3 else if k = 1 ∧ 24 < n then 3 else 0

set_option maxHeartbeats 2000000 in
theorem fault_calls (w : World) (k : Int) (n : Nat) :
    Calls Try.prog 22 #[.int .i64 k, .int .i64 (n : Int)] w fun e w' => e = .returned (.int .i64 (faultL k n)) ∧ w' = w := by
  by_cases g1 : k = -3
  · subst g1
    rw [show faultL (-3) n = 20 from rfl]
    go_enter Try.func22, Try.ntmps22
    go_wp2
    go_ret
    exact ⟨rfl, rfl⟩
  have e1 : (k == -3) = false := beq_eq_false_iff_ne.2 g1
  by_cases g2 : k = 3
  · subst g2
    by_cases g3 : 40 < n
    · rw [show faultL 3 n = 3 by simp [faultL, g3]]
      have d1 : (n : Int) > 40 := by omega
      clear g1 g3
      go_enter Try.func22, Try.ntmps22
      go_wp2
      go_ret
      exact ⟨rfl, rfl⟩
    · rw [show faultL 3 n = 0 by simp [faultL, g3]]
      have d1 : ¬ (n : Int) > 40 := by omega
      clear g1 g3
      go_enter Try.func22, Try.ntmps22
      go_wp2
      go_ret
      exact ⟨rfl, rfl⟩
  have e2 : (k == 3) = false := beq_eq_false_iff_ne.2 g2
  by_cases g4 : k = 1
  · subst g4
    by_cases g3 : 24 < n
    · rw [show faultL 1 n = 3 by simp [faultL, g3]]
      have d1 : (n : Int) > 24 := by omega
      clear g1 g3 g2
      go_enter Try.func22, Try.ntmps22
      go_wp2
      go_ret
      exact ⟨rfl, rfl⟩
    · rw [show faultL 1 n = 0 by simp [faultL, g3]]
      have d1 : ¬ (n : Int) > 24 := by omega
      clear g1 g3 g2
      go_enter Try.func22, Try.ntmps22
      go_wp2
      go_ret
      exact ⟨rfl, rfl⟩
  have e3 : (k == 1) = false := beq_eq_false_iff_ne.2 g4
  rw [show faultL k n = 0 by simp [faultL, g1, g2, g4]]
  clear g1 g2 g4
  go_enter Try.func22, Try.ntmps22
  go_wp2
  go_ret
  exact ⟨rfl, rfl⟩

set_option maxHeartbeats 2000000 in
theorem isToken_calls (w : World) (k : Int) :
    Calls Try.prog 23 #[.int .i64 k] w fun e w' => e = .returned (.bool (decide (k > 0))) ∧ w' = w := by
  go_enter Try.func23, Try.ntmps23
  go_wp2
  go_ret
  exact ⟨rfl, rfl⟩

set_option maxHeartbeats 2000000 in
theorem pieces_calls (w : World) (ao : Option Addr) (n cap : Nat) :
    Calls Try.prog 21 #[.slice ao n cap] w fun e w' => e = .returned (.func (.func 30) #[] #[.pointer (some ⟨w.heap.size, 0, none⟩)]) ∧ w' = w.alloc (.cells #[.slice ao n cap] 22) := by
  go_enter Try.func21, Try.ntmps21
  go_wp2
  go_ret
  exact ⟨rfl, rfl⟩

end Go.Proofs.Ytehflaenehehhaa
