/- The texts of numbers with a sign are read back as those numbers. -/
import Derived.Test.YtnfplceadkelaaaGreatDoorBigSigned
namespace Go.Proofs.YtnfplceadkelaaaGreatDoor
set_option linter.unusedVariables false
set_option linter.unusedSimpArgs false
set_option maxRecDepth 100000
open Go Go.RowKit Go.Shelf Go.Lib

theorem itoa_reads (z : Int) : Reads (bl ⟨(itoa z).toArray⟩) (decide (z < 0)) z.natAbs := by
  rw [bl_mk]
  by_cases h : z < 0
  · have e : itoa z = 45 :: decDigits z.natAbs := by unfold itoa; rw [if_pos h]
    have e2 : nums (45 :: decDigits z.natAbs) = 45 :: nums (decDigits z.natAbs) := rfl
    rw [e, decide_eq_true h, e2]
    exact .inl ⟨rfl, by simp, rfl, decDigits_isNum _, decDigits_gval _, by omega⟩
  · have e0 : z.toNat = z.natAbs := by omega
    have e : itoa z = decDigits z.natAbs := by unfold itoa; rw [if_neg h, e0]
    rw [e, decide_eq_false h]
    refine .inr ⟨rfl, ?_, decDigits_isNum _, decDigits_gval _⟩
    intro hh
    have := decDigits_first (n := z.natAbs)
    omega

theorem itoa_size {z : Int} {k : Nat} (h : z.natAbs < 10 ^ k) (hk : 0 < k) : (⟨(itoa z).toArray⟩ : ByteArray).size ≤ k + 1 := by
  have hl := decDigits_len h hk
  show (itoa z).toArray.size ≤ k + 1
  rw [List.size_toArray]
  unfold itoa
  split
  · rw [List.length_cons]; omega
  · rw [show z.toNat = z.natAbs by omega]; omega

theorem digits_size {n k : Nat} (h : n < 10 ^ k) (hk : 0 < k) : (⟨(decDigits n).toArray⟩ : ByteArray).size ≤ k := by
  show (decDigits n).toArray.size ≤ k
  rw [List.size_toArray]
  exact decDigits_len h hk

theorem lt_ten {n k : Nat} (h : n < R ^ k) : n < 10 ^ (10 * k) := Nat.lt_of_lt_of_le h (pow_R_le k)

theorem reads64 : Reads (bl ⟨#[45, 49, 56, 52, 52, 54, 55, 52, 52, 48, 55, 51, 55, 48, 57, 53, 53, 49, 54, 49, 54]⟩) true 18446744073709551616 :=
  .inl ⟨rfl, by decide, by decide, ⟨by decide, by decide, AllDig.of_mem (by decide)⟩, by decide, by decide⟩

theorem text64 : decDigits 18446744073709551616 = [49, 56, 52, 52, 54, 55, 52, 52, 48, 55, 51, 55, 48, 57, 53, 53, 49, 54, 49, 54] := by
  rw [decDigits_big (by decide), decDigits_big (by decide), decDigits_big (by decide), decDigits_big (by decide), decDigits_big (by decide), decDigits_big (by decide), decDigits_big (by decide), decDigits_big (by decide), decDigits_big (by decide), decDigits_big (by decide), decDigits_big (by decide), decDigits_big (by decide), decDigits_big (by decide), decDigits_big (by decide), decDigits_big (by decide), decDigits_big (by decide), decDigits_big (by decide), decDigits_big (by decide), decDigits_big (by decide), decDigits_small (by decide)]
  rfl

theorem res64 {W : World} {a : Option Addr} {L c : Nat} (h : Res W (.slice a L c) 18446744073709551616) : L = 3 := by
  obtain ⟨xs, h1, h2, h3⟩ := h
  obtain ⟨a', c', e⟩ := h1.len
  injection e with e1 e2 e3
  subst e2
  have l3 := canon_len_pow h2 (k := 3) (by rw [h3]; decide)
  have l2 : ¬ xs.length ≤ 2 := by
    intro hl
    have h4 := val_lt h1.small
    have h5 : R ^ xs.length ≤ R ^ 2 := Nat.pow_le_pow_right R_pos hl
    have h6 : R ^ 2 = 18446744073709551616 := by decide
    omega
  omega

end Go.Proofs.YtnfplceadkelaaaGreatDoor
