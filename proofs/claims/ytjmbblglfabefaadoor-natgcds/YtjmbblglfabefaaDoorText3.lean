/- The text of a number, group by group: lengths, and a group more. -/
import Derived.Test.YtjmbblglfabefaaDoorText1
import Derived.Test.YtjmbblglfabefaaDoorText0
import Derived.Lib.ItoaNum
namespace Go.Proofs.YtjmbblglfabefaaDoor
set_option linter.unusedVariables false
set_option linter.unusedSimpArgs false
open Go Go.RowKit Go.Shelf Go.Lib

/-- The text of groups of nine digits, the lowest first. -/
def joined : List Nat → List UInt8
  | [] => []
  | [g] => decDigits g
  | g :: r => joined r ++ (List.replicate (9 - (decDigits g).length) 48 ++ decDigits g)

/-- A number's text. -/
def textOf (n : Nat) : List UInt8 := if n = 0 then [48] else joined (pieces n)

/-- Bytes as they lie in memory. -/
def cellsOf (l : List UInt8) : List Value := strCells ⟨l.toArray⟩

theorem nDigits_le : ∀ (k u : Nat), u < 10 ^ (k + 1) → nDigits u ≤ k + 1 := by
  intro k
  induction k with
  | zero => intro u h; rw [nDigits_small (by simpa using h)]; omega
  | succ k ih =>
    intro u h
    by_cases hu : u < 10
    · rw [nDigits_small hu]; omega
    · rw [nDigits_big hu]
      have := ih (u / 10) (by rw [Nat.pow_succ] at h; omega)
      omega

theorem digits_le9 {g : Nat} (h : g < 1000000000) : (decDigits g).length ≤ 9 := by
  rw [decDigits_length]; exact nDigits_le 8 g h

theorem joined_len : ∀ {l : List Nat}, (∀ x ∈ l, x < 1000000000) → (joined l).length ≤ 9 * l.length := by
  intro l
  induction l with
  | nil => intro _; simp [joined]
  | cons g r ih =>
    intro h
    have hg := digits_le9 (h g (by simp))
    have hr := ih (fun x hx => h x (by simp [hx]))
    cases r with
    | nil => simp only [joined, List.length_cons, List.length_nil]; omega
    | cons a t =>
      simp only [joined, List.length_append, List.length_replicate, List.length_cons] at hr ⊢
      omega

theorem joined_more {gs : List Nat} {k : Nat} (hk : k < gs.length) (h0 : k ≠ 0) : joined (gs.drop (gs.length - (k + 1))) = joined (gs.drop (gs.length - k)) ++ (List.replicate (9 - (decDigits (nth gs (gs.length - 1 - k))).length) 48 ++ decDigits (nth gs (gs.length - 1 - k))) := by
  have e : gs.drop (gs.length - (k + 1)) = nth gs (gs.length - 1 - k) :: gs.drop (gs.length - k) := by
    rw [nth_eq (by omega), show gs.length - (k + 1) = gs.length - 1 - k by omega, List.drop_eq_getElem_cons (by omega)]
    congr 2
    omega
  rw [e]
  cases hd : gs.drop (gs.length - k) with
  | nil => have := congrArg List.length hd; simp at this; omega
  | cons a t => rfl

theorem joined_first {gs : List Nat} (hk : 0 < gs.length) : joined (gs.drop (gs.length - (0 + 1))) = decDigits (nth gs (gs.length - 1 - 0)) := by
  have e : gs.drop (gs.length - (0 + 1)) = [nth gs (gs.length - 1 - 0)] := by
    rw [show gs.length - (0 + 1) = gs.length - 1 by omega, show gs.length - 1 - 0 = gs.length - 1 by omega, List.drop_eq_getElem_cons (by omega), List.drop_of_length_le (by omega), nth_eq (by omega)]
  rw [e]
  rfl

theorem cellsOf_append (a b : List UInt8) : cellsOf (a ++ b) = cellsOf a ++ cellsOf b := by simp [cellsOf, strCells]

theorem noughts_cut : ∀ d : Fin 10, ((⟨#[48, 48, 48, 48, 48, 48, 48, 48, 48]⟩ : ByteArray).extract d.val 9).data.toList = List.replicate (9 - d.val) 48 := by decide +kernel

theorem noughts_cells {d : Nat} (h : d ≤ 9) : strCells ((⟨#[48, 48, 48, 48, 48, 48, 48, 48, 48]⟩ : ByteArray).extract d 9) = cellsOf (List.replicate (9 - d) 48) := by
  have := noughts_cut ⟨d, by omega⟩
  unfold cellsOf strCells
  rw [this]

theorem noughts_size {d : Nat} (h : d ≤ 9) : ((⟨#[48, 48, 48, 48, 48, 48, 48, 48, 48]⟩ : ByteArray).extract d 9).size = 9 - d := by
  have := congrArg List.length (noughts_cells h)
  rw [strCells_length, cellsOf, strCells_length] at this
  rw [this]
  simp [ByteArray.size]

end Go.Proofs.YtjmbblglfabefaaDoor
