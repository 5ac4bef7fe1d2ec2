/- The contracts of utf.width and utf.Units. -/
import Derived.Test.YtbdpmpepmjpadaaGreatDoorURound
namespace Go.Proofs.YtbdpmpepmjpadaaGreatDoor
set_option linter.unusedVariables false
set_option linter.unusedSimpArgs false
open Go Go.RowKit Go.Shelf Go.Lib

attribute [local go_sem] Oper.semAt_some

/-- How many units a letter has. -/
def unitOf (r : Int) : Nat := if r > 65535 then 2 else 1

theorem boxed_set_drew {W : World} {B : Nat} {t : TypeId} {v u : Value} (h : Boxed W B t v) : Boxed (W.drew.setCell ⟨B, 0, none⟩ u) B t u := Boxed.set u (show Boxed W.drew B t v from h)
theorem boxed_other_drew {W : World} {B C : Nat} {t : TypeId} {v : Value} (h : Boxed W B t v) (hne : B ≠ C) (u : Value) : Boxed (W.drew.setCell ⟨C, 0, none⟩ u) B t v := boxed_other (show Boxed W.drew B t v from h) hne u

/-- The units of the first k letters. -/
def unitsL (T : List Nat) : Nat → Nat
  | 0 => 0
  | k + 1 => unitsL T k + unitOf (runeAt T (posL T k))
theorem unitsL_le (T : List Nat) (k : Nat) : unitsL T k ≤ 2 * k := by
  induction k with
  | zero => exact Nat.le_refl _
  | succ k ih =>
    have : unitOf (runeAt T (posL T k)) ≤ 2 := by unfold unitOf; split <;> omega
    show unitsL T k + _ ≤ _
    omega
theorem posL_ge {T : List Nat} (hT : ∀ x ∈ T, x < 256) {N : Nat} (h1 : ∀ k, k < N → posL T k < T.length) (k : Nat) (hk : k ≤ N) : k ≤ posL T k := by
  induction k with
  | zero => exact Nat.zero_le _
  | succ k ih =>
    have h3 := ih (by omega)
    have h4 := (size_bounds hT (h1 k (by omega))).1
    show k + 1 ≤ posL T k + sizeAt T (posL T k)
    omega


end Go.Proofs.YtbdpmpepmjpadaaGreatDoor
