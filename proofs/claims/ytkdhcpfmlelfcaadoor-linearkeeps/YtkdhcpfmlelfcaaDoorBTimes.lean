/- The reference's Add: the sum of two numbers, digit by digit. The reference's Times: a number times a small one. -/
import Derived.Test.YtkdhcpfmlelfcaaDoorBDigs

/- The reference's Add: the sum of two numbers, digit by digit. -/
namespace Go.Proofs.YtkdhcpfmlelfcaaDoor
set_option linter.unusedVariables false
set_option linter.unusedSimpArgs false
open Go Go.RowKit Go.Shelf

theorem Digs.cellAt {W : World} {ao : Option Addr} {n cap : Nat} {ds : List Nat} (h : Digs W (.slice ao n cap) ds) {b off : Nat} (ha : ao = some ⟨b, off, none⟩) {j : Nat} (hj : j < ds.length) : W.cell? ⟨b, off + j, none⟩ = some (.int .i64 ((nth ds j : Nat) : Int)) := by
  obtain ⟨b', off', e, hc⟩ := h.cells j hj
  rw [ha] at e
  cases e
  exact hc

theorem Digs.addr {W : World} {ao : Option Addr} {n cap : Nat} {ds : List Nat} (h : Digs W (.slice ao n cap) ds) {j : Nat} (hj : j < ds.length) : ∃ b off, ao = some ⟨b, off, none⟩ := by
  obtain ⟨b', off', e, hc⟩ := h.cells j hj
  exact ⟨b', off', e⟩

theorem small_digit {ds : List Nat} (hs : Small 10 ds) (s : Nat) : Small 10 (ds ++ [s % 10]) := hs.append (fun x hx => by rw [List.mem_singleton.1 hx]; exact Nat.mod_lt _ (by decide))

theorem add_step {xs ys ds : List Nat} {c k : Nat} (hl : ds.length = k) (h : val 10 ds + 10 ^ k * c = val 10 (xs.take k) + val 10 (ys.take k)) {s : Nat} (hs : s = c + nth xs k + nth ys k) :
    val 10 (ds ++ [s % 10]) + 10 ^ (k + 1) * (s / 10) = val 10 (xs.take (k + 1)) + val 10 (ys.take (k + 1)) := by
  have e : s = nth xs k + nth ys k + c := by omega
  rw [val_take_nth, val_take_nth, val_snoc, hl, Nat.pow_succ, e]
  exact carry_step h

/-- What the loop of Add keeps. -/
def RAddInv (w wr : World) (xs ys : List Nat) (k c : Nat) (out : Value) : Prop :=
  ∃ ds, Own w.heap.size wr out ds ∧ Small 10 ds ∧ ds.length = k ∧ val 10 ds + 10 ^ k * c = val 10 (xs.take k) + val 10 (ys.take k) ∧ Below w.heap.size w wr

end Go.Proofs.YtkdhcpfmlelfcaaDoor

/- The reference's Times: a number times a small one. -/
namespace Go.Proofs.YtkdhcpfmlelfcaaDoor
set_option linter.unusedVariables false
set_option linter.unusedSimpArgs false
open Go Go.RowKit Go.Shelf

theorem times_step {xs ds : List Nat} {c k n : Nat} (hl : ds.length = k) (h : val 10 ds + 10 ^ k * c = val 10 (xs.take k) * n) {s : Nat} (hs : s = c + nth xs k * n) :
    val 10 (ds ++ [s % 10]) + 10 ^ (k + 1) * (s / 10) = val 10 (xs.take (k + 1)) * n := by
  rw [val_take_nth, val_snoc, hl, Nat.pow_succ, Nat.add_mul, ← h, Nat.add_assoc, Nat.mul_assoc (10 ^ k) 10, ← Nat.mul_add, Nat.mod_add_div, hs, Nat.mul_add, Nat.add_assoc, Nat.mul_assoc]

theorem digit_le {x n : Nat} (hx : x < 10) (hn : n ≤ 10) : x * n ≤ 90 := Nat.le_trans (Nat.mul_le_mul (Nat.le_of_lt_succ hx) hn) (by decide)

/-- What the loop of Times keeps. -/
def TimesInv (w wr : World) (xs : List Nat) (n k c : Nat) (out : Value) : Prop :=
  ∃ ds, Own w.heap.size wr out ds ∧ Small 10 ds ∧ ds.length = k ∧ val 10 ds + 10 ^ k * c = val 10 (xs.take k) * n ∧ Below w.heap.size w wr

end Go.Proofs.YtkdhcpfmlelfcaaDoor
