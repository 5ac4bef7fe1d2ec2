/- The reference's DivMod: the quotient and the rest, digit by digit. -/
import Derived.Test.YtkdhcpfmlelfcaaDoorBSubs
import Derived.Deep.CutRange
namespace Go.Proofs.YtkdhcpfmlelfcaaDoor
set_option linter.unusedVariables false
set_option linter.unusedSimpArgs false
open Go Go.RowKit Go.Shelf

theorem set_zero {zs : List Nat} {j : Nat} (h : nth zs j = 0) : zs.set j 0 = zs := by
  by_cases hj : j < zs.length
  · rw [nth_eq hj] at h
    rw [← h]
    exact List.set_getElem_self hj
  · exact List.set_eq_of_length_le (by omega)

theorem cmpI_ge {a b : Nat} (h : b ≤ a) : cmpI (a : Int) (b : Int) ≥ 0 := by unfold cmpI; split <;> (try split) <;> omega
theorem cmpI_not_ge {a b : Nat} (h : a < b) : ¬ cmpI (a : Int) (b : Int) ≥ 0 := by unfold cmpI; split <;> (try split) <;> omega

theorem nth_set_lt {zs : List Nat} {j c i : Nat} (h : i < j) : nth (zs.set j c) i = nth zs i := nth_set_other zs (by omega) c

theorem small_set {zs : List Nat} (hs : Small 10 zs) (j : Nat) {c : Nat} (hc : c < 10) : Small 10 (zs.set j c) := hs.set j c hc

end Go.Proofs.YtkdhcpfmlelfcaaDoor
