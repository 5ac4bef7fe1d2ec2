/- The texts of numbers read back: a number's digits are a number's text, and worth that number. -/
import Derived.Test.YtkdhcpfmlelfcaaDoorParse
namespace Go.Proofs.YtkdhcpfmlelfcaaDoor
set_option linter.unusedVariables false
set_option linter.unusedSimpArgs false
set_option maxRecDepth 100000
open Go Go.RowKit Go.Shelf Go.Lib

/-- The bytes of a text, as numbers. -/
def nums (T : List UInt8) : List Nat := T.map UInt8.toNat

theorem bl_mk (T : List UInt8) : bl ⟨T.toArray⟩ = nums T := by simp [bl, nums]

theorem digit_toNat {d : Nat} (h : d < 10) : (UInt8.ofNat (48 + d)).toNat = 48 + d := by
  rw [UInt8.toNat_ofNat']
  omega

theorem nums_append (A B : List UInt8) : nums (A ++ B) = nums A ++ nums B := by simp [nums]

theorem decDigits_num : ∀ (m n : Nat), n ≤ m → AllDig (nums (decDigits n)) ∧ gval (nums (decDigits n)) = n ∧ 0 < (nums (decDigits n)).length ∧ (1 < (nums (decDigits n)).length → nth (nums (decDigits n)) 0 ≠ 48) ∧ (n ≠ 0 → nth (nums (decDigits n)) 0 ≠ 48) := by
  intro m
  induction m with
  | zero =>
    intro n hn
    obtain rfl : n = 0 := by omega
    rw [decDigits_small (by decide)]
    refine ⟨fun j hj => ?_, rfl, by simp [nums], fun h => by simp [nums] at h, fun h => absurd rfl h⟩
    simp [nums] at hj
    subst hj
    decide
  | succ m ih =>
    intro n hn
    by_cases h : n < 10
    · rw [decDigits_small h]
      have e : nums [UInt8.ofNat (48 + n)] = [48 + n] := by simp only [nums, List.map_cons, List.map_nil, digit_toNat h]
      rw [e]
      refine ⟨fun j hj => ?_, ?_, by simp, fun h => by simp at h, fun h => ?_⟩
      · simp at hj
        subst hj
        simp [nth]
        omega
      · simp [gval, val]
      · simp [nth]
        omega
    · obtain ⟨h1, h2, h3, h4, h5⟩ := ih (n / 10) (by omega)
      have hd : n % 10 < 10 := Nat.mod_lt _ (by decide)
      rw [decDigits_big h, nums_append]
      have e : nums [UInt8.ofNat (48 + n % 10)] = [48 + n % 10] := by simp only [nums, List.map_cons, List.map_nil, digit_toNat hd]
      rw [e]
      have hn0 : nth (nums (decDigits (n / 10)) ++ [48 + n % 10]) 0 = nth (nums (decDigits (n / 10))) 0 := by
        unfold nth
        rw [List.getElem?_append_left h3]
      refine ⟨AllDig.of_mem ?_, ?_, by simp, fun _ => ?_, fun _ => ?_⟩
      · intro x hx
        rcases List.mem_append.1 hx with hx | hx
        · exact h1.mem x hx
        · rw [List.mem_singleton.1 hx]; omega
      · rw [gval_snoc, h2]
        omega
      · rw [hn0]; exact h5 (by omega)
      · rw [hn0]; exact h5 (by omega)

theorem decDigits_isNum (n : Nat) : IsNum (nums (decDigits n)) := by
  obtain ⟨h1, h2, h3, h4, h5⟩ := decDigits_num n n (Nat.le_refl _)
  exact ⟨h3, h4, h1⟩
theorem decDigits_gval (n : Nat) : gval (nums (decDigits n)) = n := (decDigits_num n n (Nat.le_refl _)).2.1
theorem decDigits_first {n : Nat} : 48 ≤ nth (nums (decDigits n)) 0 := ((decDigits_isNum n).2.2 0 (decDigits_isNum n).1).1

theorem decDigits_len {n k : Nat} (h : n < 10 ^ k) (hk : 0 < k) : (decDigits n).length ≤ k := by
  rw [decDigits_length]
  obtain ⟨j, rfl⟩ : ∃ j, k = j + 1 := ⟨k - 1, by omega⟩
  exact nDigits_le j n h

theorem ResW.strong {W : World} {v : Value} {n : Nat} (h : ResW W v n) : Res W v n := by
  obtain ⟨xs, h1, h2⟩ := h
  exact ⟨xs, h1.strong, h2⟩

end Go.Proofs.YtkdhcpfmlelfcaaDoor
