/- A few small reckonings about fixed numbers, that the law's own function counted comes to. -/
import Derived.Test.YtjmbblglfabefaaDoorText3
namespace Go.Proofs.YtjmbblglfabefaaDoor
set_option linter.unusedVariables false
set_option linter.unusedSimpArgs false
open Go Go.RowKit Go.Shelf Go.Lib

theorem digits_low : decDigits 294967296 = [50, 57, 52, 57, 54, 55, 50, 57, 54] := by
  simp [decDigits]

theorem textOf_32 : textOf 4294967296 = [52, 50, 57, 52, 57, 54, 55, 50, 57, 54] := by
  unfold textOf
  rw [if_neg (by decide), pieces_pos (by decide), show 4294967296 / 1000000000 = 4 from rfl, pieces_pos (by decide), show 4 / 1000000000 = 0 from rfl, pieces_zero,
    show 4294967296 % 1000000000 = 294967296 from rfl, show 4 % 1000000000 = 4 from rfl]
  show decDigits 4 ++ (List.replicate (9 - (decDigits 294967296).length) 48 ++ decDigits 294967296) = _
  rw [digits_low, decDigits_one (by decide)]
  rfl

theorem v_quo : val R [0, 0, 1] / val R [1, 1] = val R [4294967295] := by decide +kernel
theorem v_rem : val R [0, 0, 1] % val R [1, 1] = val R [1] := by decide +kernel
theorem v_mul : val R [0, 1] * val R [0, 1] = val R [0, 0, 1] := by decide +kernel
theorem v_one : val R [0, 1] = 4294967296 := by decide +kernel
theorem v_div : val R [1, 1] ≠ 0 := by decide +kernel

theorem small_of (zs : List Nat) (h : zs.all (fun x => decide (x < 4294967296)) = true) : Small R zs := fun x hx => by
  have := List.all_eq_true.1 h x hx
  rw [R_eq]
  simpa using this

theorem c_quo : Canon R [4294967295] := ⟨small_of _ (by decide +kernel), by decide +kernel⟩
theorem c_one : Canon R [1] := ⟨small_of _ (by decide +kernel), by decide +kernel⟩
theorem c_001 : Canon R [0, 0, 1] := ⟨small_of _ (by decide +kernel), by decide +kernel⟩
theorem c_01 : Canon R [0, 1] := ⟨small_of _ (by decide +kernel), by decide +kernel⟩
theorem c_11 : Canon R [1, 1] := ⟨small_of _ (by decide +kernel), by decide +kernel⟩

end Go.Proofs.YtjmbblglfabefaaDoor
