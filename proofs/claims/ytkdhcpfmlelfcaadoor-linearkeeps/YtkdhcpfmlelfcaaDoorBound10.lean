/- Bounds of numbers by their decimal digits, for the laws' walks. -/
import Derived.Test.YtkdhcpfmlelfcaaDoorBLimbs
namespace Go.Proofs.YtkdhcpfmlelfcaaDoor
set_option linter.unusedVariables false
set_option linter.unusedSimpArgs false
open Go Go.RowKit Go.Shelf Go.Lib

theorem lt120 {xs : List Nat} (hs : Small R xs) (hl : xs.length ≤ 12) : val R xs < 10 ^ 120 :=
  Nat.lt_of_lt_of_le (valR_lt hs) (Nat.pow_le_pow_right (by decide) (by omega))

theorem lt_mul10 {m n j k : Nat} (hm : m < 10 ^ j) (hn : n < 10 ^ k) : m * n < 10 ^ (j + k) := by
  rw [Nat.pow_add]
  exact Nat.mul_lt_mul'' hm hn

theorem lt_add10 {m n k : Nat} (hm : m < 10 ^ k) (hn : n < 10 ^ k) : m + n < 10 ^ (k + 1) := by
  rw [Nat.pow_succ]
  omega

theorem lt_up10 {m j k : Nat} (hm : m < 10 ^ j) (h : j ≤ k) : m < 10 ^ k := Nat.lt_of_lt_of_le hm (Nat.pow_le_pow_right (by decide) h)

theorem RRes.shape {W : World} {v : Value} {n : Nat} (h : RRes W v n) : ∃ ao L cap, v = .slice ao L cap ∧ (L = 0 ↔ n = 0) := by
  obtain ⟨ds, hd, hc, rfl⟩ := h
  obtain ⟨ao, cap, rfl⟩ := hd.len
  refine ⟨ao, ds.length, cap, rfl, fun e => by rw [List.eq_nil_of_length_eq_zero e]; rfl, fun e => by rw [hc.val_zero ten_pos e]; rfl⟩

theorem RRes.empty (W : World) (a : Option Addr) (c : Nat) : RRes W (.slice a 0 c) 0 := ⟨[], ⟨a, c, rfl, Nat.zero_le _, Small.nil _, fun j hj => by simp at hj⟩, canon_nil 10, rfl⟩

end Go.Proofs.YtkdhcpfmlelfcaaDoor
