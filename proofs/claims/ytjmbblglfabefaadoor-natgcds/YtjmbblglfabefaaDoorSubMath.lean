/- What rounds of a difference make. -/
import Derived.Test.YtjmbblglfabefaaDoorCmp
namespace Go.Proofs.YtjmbblglfabefaaDoor
set_option linter.unusedVariables false
set_option linter.unusedSimpArgs false
open Go Go.RowKit Go.Shelf

/-- What k rounds of a difference have made. -/
def SubInv (xs ys : List Nat) (k : Nat) (ss : List Nat) (c : Nat) : Prop :=
  ss.length = k ∧ Small R ss ∧ c ≤ 1 ∧ val R (xs.take k) + R ^ k * c = val R ss + val R (ys.take k)

theorem SubInv.zero (xs ys : List Nat) : SubInv xs ys 0 [] 0 := ⟨rfl, Small.nil _, by omega, by simp [val]⟩

theorem bor_step {x y c : Nat} (hx : x < 4294967296) (hy : y < 4294967296) (hc : c ≤ 1) : x + 4294967296 * bor x y c = (x + 4294967296 + 4294967296 - y - c) % 4294967296 + y + c := by
  unfold bor
  split <;> omega

theorem SubInv.step {xs ys ss : List Nat} {k c : Nat} (h : SubInv xs ys k ss c) (hx : Small R xs) (hy : Small R ys) :
    SubInv xs ys (k + 1) (ss ++ [(nth xs k + 4294967296 + 4294967296 - nth ys k - c) % 4294967296]) (bor (nth xs k) (nth ys k) c) := by
  obtain ⟨h1, h2, h3, h4⟩ := h
  have a := hx.nth R_pos k
  have b := hy.nth R_pos k
  rw [R_eq] at a b
  refine ⟨by simp [h1], small_snoc h2 (by rw [R_eq]; omega), bor_le _ _ _, ?_⟩
  have hs := bor_step a b h3
  rw [val_snoc, h1, val_take_nth, val_take_nth, Nat.pow_succ]
  generalize (nth xs k + 4294967296 + 4294967296 - nth ys k - c) % 4294967296 = s at *
  generalize bor (nth xs k) (nth ys k) c = d at *
  have e1 : R ^ k * nth xs k + R ^ k * R * d = R ^ k * s + R ^ k * nth ys k + R ^ k * c := by
    rw [Nat.mul_assoc, ← Nat.mul_add, ← Nat.mul_add, ← Nat.mul_add, R_eq, hs]
  omega

theorem SubInv.done {xs ys ss : List Nat} {c : Nat} (h : SubInv xs ys xs.length ss c) (hx : Small R xs) (hle : val R ys ≤ val R xs) : val R ss = val R xs - val R ys := by
  obtain ⟨h1, h2, h3, h4⟩ := h
  have hlx := val_lt hx
  have hls := val_lt h2
  rw [h1] at hls
  rw [List.take_length] at h4
  have hy : val R ys = val R (ys.take xs.length) := by
    rcases Nat.lt_or_ge xs.length ys.length with hl | hl
    · have := val_split R ys xs.length (by omega)
      rcases Nat.eq_zero_or_pos (val R (ys.drop xs.length)) with h0 | h0
      · rw [h0] at this; simpa using this
      · have := Nat.mul_le_mul_left (R ^ xs.length) h0
        omega
    · rw [List.take_of_length_le hl]
  rw [← hy] at h4
  rcases Nat.eq_zero_or_pos c with hc | hc
  · subst hc; omega
  · have := Nat.mul_le_mul_left (R ^ xs.length) hc
    omega

end Go.Proofs.YtjmbblglfabefaaDoor
