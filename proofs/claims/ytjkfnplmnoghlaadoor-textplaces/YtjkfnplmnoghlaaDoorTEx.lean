/- The law's own example (opened): it is so. -/
import Derived.Test.YtjkfnplmnoghlaaDoorTDoc
namespace Go.Proofs.YtjkfnplmnoghlaaDoor
set_option linter.unusedVariables false
set_option linter.unusedSimpArgs false
set_option maxRecDepth 100000
open Go Go.RowKit Go.Shelf Go.Lib

def exT : List Nat := [97, 98, 10, 99, 100]
def exX : List Nat := [120]
def exN : List Nat := [97, 98, 10, 99, 120, 100]
theorem exN_is : exT.take 4 ++ exX ++ exT.drop 4 = exN := by decide
theorem exT_str : strOf exT = ⟨#[97, 98, 10, 99, 100]⟩ := by decide
theorem exX_str : strOf exX = ⟨#[120]⟩ := by decide
theorem exN_str : strOf exN = ⟨#[97, 98, 10, 99, 120, 100]⟩ := by decide
theorem exT_small : ∀ x ∈ exT, x < 256 := by decide
theorem exX_small : ∀ x ∈ exX, x < 256 := by decide
theorem exT_n1 : ∀ k, k < 5 → posL exT k < exT.length := by decide
theorem exT_n2 : posL exT 5 = exT.length := by decide
theorem exT_n3 : ∀ k, k < 5 → runeAt exT (posL exT k) ≠ -1 := by decide
theorem exX_n1 : ∀ k, k < 1 → posL exX k < exX.length := by decide
theorem exX_n2 : posL exX 1 = exX.length := by decide
theorem exX_n3 : ∀ k, k < 1 → runeAt exX (posL exX k) ≠ -1 := by decide
theorem exT_lines : linesL exT = [0, 3] := by decide
theorem exT_line {en : Nat} (h : IsEnd exT 3 en) : lineL exT 3 en = [99, 100] := by
  obtain ⟨h1, h2, h3, h4⟩ := h
  have h5 : exT.length = 5 := rfl
  have : en = 5 := by
    rw [h5] at h2 h4
    have he : en = 3 ∨ en = 4 ∨ en = 5 := by omega
    rcases he with rfl | rfl | rfl
    all_goals first | rfl | (exfalso; exact absurd (h4 (by omega)) (by decide))
  rw [this]
  rfl
theorem exL_pos : posL [99, 100] 0 = 0 ∧ posL [99, 100] 1 = 1 ∧ posL [99, 100] 2 = 2 := by decide
theorem exL_units : unitsL [99, 100] 0 = 0 ∧ unitsL [99, 100] 1 = 1 ∧ unitsL [99, 100] 2 = 2 := by decide
theorem exL_count {N : Nat} (h1 : ∀ k, k < N → posL [99, 100] k < [99, 100].length) (h2 : posL [99, 100] N = [99, 100].length) : N = 2 := by
  have e := exL_pos
  have h5 : [99, 100].length = 2 := rfl
  rw [h5] at h1 h2
  rcases Nat.lt_or_ge 2 N with g | g
  · have := h1 2 g; omega
  · have hn : N = 0 ∨ N = 1 ∨ N = 2 := by omega
    rcases hn with rfl | rfl | rfl <;> omega
theorem exT_off {r : Int} (h : OffR exT (linesL exT) 1 1 r) : r = ((4 : Nat) : Int) := by
  rw [exT_lines] at h
  rcases h with ⟨h, _⟩ | ⟨_, h, _⟩ | ⟨i, f, en, N, hi, hi2, hc, hE, n1, n2, hI⟩
  · omega
  · simp at h
  · obtain rfl : i = 1 := by omega
    have hf : f = 3 := by
      have : clamp (nthI [0, 3] 1) (exT.length : Int) = 3 := by decide
      omega
    subst hf
    rw [exT_line hE] at n1 n2 hI
    obtain rfl := exL_count n1 n2
    have eu := exL_units
    have ep := exL_pos
    rcases hI with ⟨k, hk, h1, h2, rfl⟩ | ⟨h1, _⟩
    · have hkk : k = 0 ∨ k = 1 := by omega
      rcases hkk with rfl | rfl
      · rw [eu.2.1] at h1; omega
      · rw [ep.2.1]; rfl
    · have := h1 1 (by omega)
      rw [eu.2.2] at this
      omega

end Go.Proofs.YtjkfnplmnoghlaaDoor
