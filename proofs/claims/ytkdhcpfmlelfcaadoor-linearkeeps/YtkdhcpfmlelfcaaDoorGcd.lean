/- The contract of Gcd: the greatest number that divides two, in memory of its own. -/
import Derived.Test.YtkdhcpfmlelfcaaDoorRes0
namespace Go.Proofs.YtkdhcpfmlelfcaaDoor
set_option linter.unusedVariables false
set_option linter.unusedSimpArgs false
open Go Go.RowKit Go.Shelf Go.Lib

theorem Arg.worth {W : World} {v : Value} {n : Nat} (h : Arg W v n) : worth v W = n := by
  obtain ⟨xs, h1, _, rfl⟩ := h
  exact worth_eq h1

theorem Arg.bound {W : World} {v : Value} {n : Nat} (h : Arg W v n) : ∃ k, k ≤ 1048576 ∧ n < R ^ k := by
  obtain ⟨xs, h1, h2, rfl⟩ := h
  exact ⟨xs.length, h2, val_lt h1.small⟩

theorem Answer.later {w w0 W : World} {v : Value} {n : Nat} (h : Answer w0 W v n) (hs : w.heap.size ≤ w0.heap.size) : Answer w W v n := by
  obtain ⟨zs, hm, hc, hv⟩ := h
  exact ⟨zs, hm.mono hs, hc, hv⟩

theorem gcd_step (a b : Nat) : Nat.gcd b (a % b) = Nat.gcd a b := by
  rw [Nat.gcd_comm b (a % b), ← Nat.gcd_rec, Nat.gcd_comm]

end Go.Proofs.YtkdhcpfmlelfcaaDoor
