/- The contracts of isNumber and groupOf: a text that is a number, and what a group of digits is worth. -/
import Derived.Test.YtkdhcpfmlelfcaaDoorTextMath
namespace Go.Proofs.YtkdhcpfmlelfcaaDoor
set_option linter.unusedVariables false
set_option linter.unusedSimpArgs false
open Go Go.RowKit Go.Shelf

theorem toList_false {s : ByteArray} (h : s.size ≠ 0) : ¬ s.toList = [] := by
  intro e
  have := congrArg List.length e
  rw [ByteArray.toList_eq] at this
  simp only [Array.length_toList, List.length_nil] at this
  exact h this

theorem isEmpty_false {s : ByteArray} (h : s.size ≠ 0) : s.toList.isEmpty = false := by
  cases he : s.toList with
  | nil => exact absurd he (toList_false h)
  | cons a r => rfl

theorem isNum_not {l : List Nat} {k : Nat} (hk : k < l.length) (h : nth l k < 48 ∨ 57 < nth l k) : ¬ IsNum l := by
  rintro ⟨_, _, h3⟩
  have := h3 k hk
  omega

end Go.Proofs.YtkdhcpfmlelfcaaDoor
