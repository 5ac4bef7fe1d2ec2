/- The contracts of DivMod, Norm, IsZero and Cmp once more, over numbers as arguments and as answers. -/
import Derived.Test.YtkdhcpfmlelfcaaDoorLaw0
import Derived.Test.YtkdhcpfmlelfcaaDoorQuo
import Derived.Test.YtkdhcpfmlelfcaaDoorCmp
import Derived.Test.YtkdhcpfmlelfcaaDoorSmall2
namespace Go.Proofs.YtkdhcpfmlelfcaaDoor
set_option linter.unusedVariables false
set_option linter.unusedSimpArgs false
open Go Go.RowKit Go.Shelf Go.Lib

theorem cmp_res {w : World} {sv tv : Value} {m n : Nat} (hx : Arg w sv m) (hy : Arg w tv n) :
    Calls Tryd.prog 43 #[sv, tv] w fun e w' => e = .returned (.int .i64 (cmpI m n)) ∧ Below w.heap.size w w' := by
  obtain ⟨xs, h1, h2, rfl⟩ := hx
  obtain ⟨ys, k1, k2, rfl⟩ := hy
  exact cmp_calls w sv tv xs ys h1 k1 h2 k2

theorem cmp_same {w : World} {sv tv : Value} {m n : Nat} (hx : Arg w sv m) (hy : Arg w tv n) (h : m = n) :
    Calls Tryd.prog 43 #[sv, tv] w fun e w' => e = .returned (.int .i64 0) ∧ Below w.heap.size w w' := by
  subst h
  refine (cmp_res hx hy).mono ?_
  rintro e w' ⟨rfl, hb⟩
  exact ⟨by simp [cmpI], hb⟩

theorem norm_ans {w : World} {sv : Value} {m : Nat} (hx : Arg w sv m) :
    Calls Tryd.prog 36 #[sv] w fun e w' => ∃ rv, e = .returned rv ∧ Answer w w' rv m ∧ Below w.heap.size w w' := by
  obtain ⟨xs, h1, h2, rfl⟩ := hx
  exact norm_calls w sv xs h1 h2

theorem norm_res {w : World} {sv : Value} {m : Nat} (hx : Arg w sv m) :
    Calls Tryd.prog 36 #[sv] w fun e w' => ∃ rv, e = .returned rv ∧ Res w' rv m ∧ Below w.heap.size w w' := by
  refine (norm_ans hx).mono ?_
  rintro e w' ⟨rv, rfl, hA, hb⟩
  exact ⟨rv, rfl, hA.res, hb⟩

theorem isZero_res {w : World} {sv : Value} {m : Nat} (hx : Arg w sv m) :
    Calls Tryd.prog 53 #[sv] w fun e w' => e = .returned (.bool (decide (m = 0))) ∧ Below w.heap.size w w' := by
  obtain ⟨xs, h1, h2, rfl⟩ := hx
  exact isZero_calls w sv xs h1

theorem isZero_yes {w : World} {sv : Value} {m : Nat} (hx : Arg w sv m) (h : m = 0) :
    Calls Tryd.prog 53 #[sv] w fun e w' => e = .returned (.bool true) ∧ Below w.heap.size w w' := by
  have := isZero_res hx
  rw [decide_eq_true h] at this
  exact this

theorem isZero_no {w : World} {sv : Value} {m : Nat} (hx : Arg w sv m) (h : m ≠ 0) :
    Calls Tryd.prog 53 #[sv] w fun e w' => e = .returned (.bool false) ∧ Below w.heap.size w w' := by
  have := isZero_res hx
  rw [decide_eq_false h] at this
  exact this

theorem Res.nil (W : World) : Res W (.slice none 0 0) 0 := ⟨[], Limbs.nil W, canon_nil R, rfl⟩

end Go.Proofs.YtkdhcpfmlelfcaaDoor
