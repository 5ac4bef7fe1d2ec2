/- How many binary digits a number has. -/
import Derived.Test.YtlfbhbeoodmccaaDoorBMem
namespace Go.Proofs.YtlfbhbeoodmccaaDoor
set_option linter.unusedVariables false
set_option linter.unusedSimpArgs false
open Go Go.RowKit Go.Shelf

/-- k is how many binary digits n has. -/
def IsBits (n k : Nat) : Prop := n < 2 ^ k ∧ (k = 0 ∨ 2 ^ (k - 1) ≤ n)

theorem IsBits.unique {n j k : Nat} (h : IsBits n j) (g : IsBits n k) : j = k := by
  have key : ∀ {a b : Nat}, IsBits n a → IsBits n b → ¬ a < b := by
    intro a b ha hb hlt
    have h2 : 2 ^ (b - 1) ≤ n := hb.2.resolve_left (by omega)
    have h3 : 2 ^ a ≤ 2 ^ (b - 1) := Nat.pow_le_pow_right (by decide) (by omega)
    have := ha.1
    omega
  have h1 := key h g
  have h2 := key g h
  omega

theorem bits_bound {m c K : Nat} (h : c = 0 ∨ 2 ^ (c - 1) ≤ m) (hm : m < 10 ^ K) : c ≤ 4 * K + 1 := by
  apply Decidable.byContradiction
  intro hc
  have h1 := h.resolve_left (by omega)
  have h2 : 2 ^ (4 * K) ≤ 2 ^ (c - 1) := Nat.pow_le_pow_right (by decide) (by omega)
  have h3 : 10 ^ K ≤ 2 ^ (4 * K) := by
    rw [Nat.pow_mul]
    exact Nat.pow_le_pow_left (by decide) K
  omega

end Go.Proofs.YtlfbhbeoodmccaaDoor
