/- Bounds and steps that the reference's products, quotients and readings share. -/
import Derived.Test.YtkdhcpfmlelfcaaDoorBTimes
namespace Go.Proofs.YtkdhcpfmlelfcaaDoor
set_option linter.unusedVariables false
set_option linter.unusedSimpArgs false
open Go Go.RowKit Go.Shelf

theorem bth {w wa wb : World} (h : Below w.heap.size w wa) (k : Below wa.heap.size wa wb) : Below w.heap.size w wb := h.trans (k.mono h.size)

theorem val_drop_step {ys : List Nat} {j : Nat} (hj : j < ys.length) : val 10 (ys.drop j) = nth ys j + 10 * val 10 (ys.drop (j + 1)) := by
  rw [List.drop_eq_getElem_cons hj, val_cons, nth_eq hj]

theorem mul_bound {xs ys : List Nat} (hx : Small 10 xs) (hy : Small 10 ys) (k : Nat) : val 10 xs * val 10 (ys.drop k) < 10 ^ (xs.length + ys.length) := by
  rw [Nat.pow_add]
  refine Nat.mul_lt_mul'' (val_lt hx) (Nat.lt_of_lt_of_le (val_lt (hy.drop k)) (Nat.pow_le_pow_right (by decide) (by simp)))

theorem lt_more {n k : Nat} (h : n < 10 ^ k) (d : Nat) (hd : d ≤ 10) : n * d < 10 ^ (k + 1) := by
  rw [Nat.pow_succ]
  exact Nat.lt_of_le_of_lt (Nat.mul_le_mul_left n hd) (Nat.mul_lt_mul_of_pos_right h (by decide))

theorem wrap64_nat {n : Nat} (h : n < 18446744073709551616) : IntKind.wrap .u64 (n : Int) = (n : Int) := by
  simp [IntKind.wrap, IntKind.bits, IntKind.signed]
  omega

theorem val_drop_stepR {ys : List Nat} {j : Nat} (hj : j < ys.length) : val R (ys.drop j) = nth ys j + R * val R (ys.drop (j + 1)) := by
  rw [List.drop_eq_getElem_cons hj, val_cons, nth_eq hj]

theorem R_lt : R < 10 ^ 10 := by decide

theorem pow_R_le (k : Nat) : R ^ k ≤ 10 ^ (10 * k) := by
  rw [Nat.pow_mul]
  exact Nat.pow_le_pow_left (Nat.le_of_lt R_lt) k

theorem valR_lt {zs : List Nat} (hs : Small R zs) : val R zs < 10 ^ (10 * zs.length) := Nat.lt_of_lt_of_le (val_lt hs) (pow_R_le _)

theorem valR_drop_lt {zs : List Nat} (hs : Small R zs) (k : Nat) : val R (zs.drop k) < 10 ^ (10 * zs.length) :=
  Nat.lt_of_lt_of_le (valR_lt (hs.drop k)) (Nat.pow_le_pow_right (by decide) (by simp; omega))

theorem Limbs.cellAt {W : World} {ao : Option Addr} {n cap : Nat} {ds : List Nat} (h : Limbs W (.slice ao n cap) ds) {b off : Nat} (ha : ao = some ⟨b, off, none⟩) {j : Nat} (hj : j < ds.length) : W.cell? ⟨b, off + j, none⟩ = some (.int .u32 ((nth ds j : Nat) : Int)) := by
  obtain ⟨b', off', e, hc⟩ := h.cells j hj
  rw [ha] at e
  cases e
  exact hc

theorem Limbs.addr {W : World} {ao : Option Addr} {n cap : Nat} {ds : List Nat} (h : Limbs W (.slice ao n cap) ds) {j : Nat} (hj : j < ds.length) : ∃ b off, ao = some ⟨b, off, none⟩ := by
  obtain ⟨b', off', e, hc⟩ := h.cells j hj
  exact ⟨b', off', e⟩

end Go.Proofs.YtkdhcpfmlelfcaaDoor
