/- The law's own function signed: true. -/
import Derived.Test.YtnfplceadkelaaaGreatDoorBigRef
namespace Go.Proofs.YtnfplceadkelaaaGreatDoor
set_option linter.unusedVariables false
set_option linter.unusedSimpArgs false
set_option maxRecDepth 100000
open Go Go.RowKit Go.Shelf Go.Lib

theorem Reads.unique {l : List Nat} {a b : Bool} {m n : Nat} (h : Reads l a m) (k : Reads l b n) : a = b ∧ m = n := by
  rcases h with ⟨rfl, h2, h3, h4, rfl, h6⟩ | ⟨rfl, h2, h3, rfl⟩ <;> rcases k with ⟨rfl, k2, k3, k4, rfl, k6⟩ | ⟨rfl, k2, k3, rfl⟩
  · exact ⟨rfl, rfl⟩
  · exact absurd ⟨h2, h3⟩ k2
  · exact absurd ⟨k2, k3⟩ h2
  · exact ⟨rfl, rfl⟩

/-- Three numbers in blocks. -/
def Tri (W : World) (b1 b2 b3 : Nat) (x1 y1 x2 y2 x3 y3 : Value) : Prop := Two W b1 x1 y1 24 ∧ Two W b2 x2 y2 24 ∧ Two W b3 x3 y3 24
theorem Tri.keep {W W' : World} {b1 b2 b3 : Nat} {x1 y1 x2 y2 x3 y3 : Value} (h : Tri W b1 b2 b3 x1 y1 x2 y2 x3 y3) (hb : Below W.heap.size W W') : Tri W' b1 b2 b3 x1 y1 x2 y2 x3 y3 := ⟨h.1.keep hb, h.2.1.keep hb, h.2.2.keep hb⟩
theorem Tri.cells {W : World} {b1 b2 b3 : Nat} {x1 y1 x2 y2 x3 y3 : Value} (h : Tri W b1 b2 b3 x1 y1 x2 y2 x3 y3) :
    W.cell? ⟨b1, 0, none⟩ = some x1 ∧ W.cell? ⟨b1, 1, none⟩ = some y1 ∧ W.cell? ⟨b2, 0, none⟩ = some x2 ∧ W.cell? ⟨b2, 1, none⟩ = some y2 ∧ W.cell? ⟨b3, 0, none⟩ = some x3 ∧ W.cell? ⟨b3, 1, none⟩ = some y3 :=
  ⟨h.1.c0, h.1.c1, h.2.1.c0, h.2.1.c1, h.2.2.c0, h.2.2.c1⟩

theorem reads12 : Reads (bl ⟨#[45, 49, 50]⟩) true 12 :=
  .inl ⟨rfl, by decide, by decide, ⟨by decide, by decide, AllDig.of_mem (by decide)⟩, by decide, by decide⟩

theorem text30 : itoa (-30) = [45, 51, 48] := by
  unfold itoa
  rw [if_pos (by decide)]
  show 45 :: decDigits 30 = _
  rw [decDigits_big (by decide), decDigits_small (by decide)]
  rfl

theorem quo7 : ((-7 : Int) / 2) = -4 := by decide
theorem rem7 : ((-7 : Int) % 2) = 1 := by decide

theorem lt_R1 {z : Int} (h : z.natAbs ≤ 1000) : z.natAbs < R ^ 1 := by
  rw [Nat.pow_one, R_eq]
  omega
theorem lt_D4 {z : Int} (h : z.natAbs ≤ 1000) : z.natAbs < 10 ^ 4 := Nat.lt_of_le_of_lt h (by decide)

end Go.Proofs.YtnfplceadkelaaaGreatDoor
