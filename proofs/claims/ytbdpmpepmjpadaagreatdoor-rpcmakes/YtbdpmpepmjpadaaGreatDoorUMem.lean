/- Bytes in memory, for the walks of utf. -/
import Derived.Test.YtbdpmpepmjpadaaGreatDoorProg
import Derived.Below
import Derived.WalkKit
import Derived.RowKit
import Derived.Lib.DecodeNEq
import Derived.Shelf.Unicode.DecodeSlow
namespace Go.Proofs.YtbdpmpepmjpadaaGreatDoor
set_option linter.unusedVariables false
set_option linter.unusedSimpArgs false
open Go Go.RowKit Go.Shelf Go.Lib

theorem hide {p : Prop} (h : p) : Hid p := h
theorem bel (w : World) (o : Obj) : Below w.heap.size w (w.alloc o) := (Below.refl _ w).alloc (Nat.le_refl _) o
theorem bafter {n : Nat} {w w0 w1 : World} (h : Below n w w0) (k : Below w0.heap.size w0 w1) (hn : n ≤ w.heap.size) : Below n w w1 := h.trans (k.mono (Nat.le_trans hn h.size))

/-- The number at a place of a list. -/
def nth (xs : List Nat) (i : Nat) : Nat := xs[i]?.getD 0

/-- A slice of bytes: it holds these. -/
def Byts (W : World) (v : Value) (T : List Nat) : Prop := ∃ ao cap, v = .slice ao T.length cap ∧ (∀ x ∈ T, x < 256) ∧ ∀ j, j < T.length → ∃ b off, ao = some ⟨b, off, none⟩ ∧ W.cell? ⟨b, off + j, none⟩ = some (.int .u8 ((nth T j : Nat) : Int))

theorem block_lt {W : World} {b i : Nat} {v : Value} (h : W.cell? ⟨b, i, none⟩ = some v) : b < W.heap.size := block_lt_of_cell h

theorem Byts.below {W W' : World} {v : Value} {T : List Nat} (h : Byts W v T) (hb : Below W.heap.size W W') : Byts W' v T := by
  obtain ⟨ao, cap, h1, h2, h3⟩ := h
  refine ⟨ao, cap, h1, h2, fun j hj => ?_⟩
  obtain ⟨b, off, h4, h5⟩ := h3 j hj
  exact ⟨b, off, h4, (hb.cell (p := ⟨b, off + j, none⟩) (block_lt h5)).trans h5⟩

theorem nth_lt {T : List Nat} (h : ∀ x ∈ T, x < 256) (j : Nat) : nth T j < 256 := by
  unfold nth
  cases e : T[j]? with
  | none => simp
  | some x => simpa using h x (List.mem_of_getElem? e)

/-- What the decoder tells of bytes: the letter, and how many bytes it has. -/
def decL (T : List Nat) : Nat × Nat := if T.length = 0 then (65533, 0) else decodeN T.length (nth T 0) (nth T 1) (nth T 2) (nth T 3)

end Go.Proofs.YtbdpmpepmjpadaaGreatDoor
