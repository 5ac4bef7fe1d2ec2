/- The reference's Number: a number of few digits. -/
import Derived.Test.YtjmbblglfabefaaDoorRDivMod
namespace Go.Proofs.YtjmbblglfabefaaDoor
set_option linter.unusedVariables false
set_option linter.unusedSimpArgs false
open Go Go.RowKit Go.Shelf

theorem val_drop_le (ds : List Nat) (k : Nat) (hk : k ≤ ds.length) : val 10 (ds.drop k) ≤ val 10 ds := by
  rw [val_split 10 ds k hk]
  have : 1 * val 10 (ds.drop k) ≤ 10 ^ k * val 10 (ds.drop k) := Nat.mul_le_mul_right _ (Nat.pow_pos (by decide))
  omega

set_option maxRecDepth 100000 in
set_option maxHeartbeats 1000000 in
theorem rnumber_calls (w : World) (av : Value) (n : Nat) (hx : RArg w av n) (hn : n < 18446744073709551616) :
    Calls Tryd.prog 30 #[av] w fun e w' => e = .returned (.int .u64 (n : Int)) ∧ Below w.heap.size w w' := by
  obtain ⟨xs, hx0, cx, rfl, lx⟩ := hx
  obtain ⟨ao, ca, rfl⟩ := hx0.len
  go_enter Tryd.func30, Tryd.ntmps30
  go_wp2
  go_loopw [3, 4] (fun nv iv wr => ∃ (k : Nat) (i : Int), iv = .int .i64 i ∧ i = (k : Int) - 1 ∧ k ≤ xs.length ∧ nv = .int .u64 ((val 10 (xs.drop k) : Nat) : Int) ∧ wr = w) (fun _ iv _ => (intOf iv + 1).toNat)
  case atStart => exact ⟨xs.length, _, rfl, rfl, Nat.le_refl _, by simp [val_nil], rfl⟩
  case round =>
    obtain ⟨k, i, rfl, hi, hk, rfl, rfl⟩ := hrel
    rcases Nat.eq_zero_or_pos k with rfl | hkp
    · obtain rfl : i = -1 := by omega
      have hno : ¬ ((-1 : Int) ≥ 0) := by omega
      have HX := hide hx0
      clear hx0 hi
      go_wp2
      go_ret
      exact ⟨by simp, Below.refl _ _⟩
    · obtain ⟨j, rfl⟩ : ∃ j, k = j + 1 := ⟨k - 1, by omega⟩
      obtain rfl : i = (j : Int) := by omega
      obtain ⟨b2, o2, eb⟩ := hx0.addr (j := j) (by omega)
      subst eb
      have c2 : wr.cell? ⟨b2, o2 + j, none⟩ = some (.int .i64 ((nth xs j : Nat) : Int)) := hx0.cellAt rfl (by omega)
      have hd9 : nth xs j < 10 := hx0.small.nth (by decide) j
      have hwrap := wrap64_nat (n := nth xs j) (by omega)
      have dj : (j : Int) < (xs.length : Int) := by omega
      have dge : (j : Int) ≥ 0 := by omega
      have hst := val_drop_step (show j < xs.length by omega)
      have hle := val_drop_le xs j (by omega)
      obtain ⟨N, hN⟩ : ∃ N, N = val 10 (xs.drop (j + 1)) := ⟨_, rfl⟩
      obtain ⟨S, hS⟩ : ∃ S, S = val 10 (xs.drop j) := ⟨_, rfl⟩
      rw [← hN, ← hS] at hst
      rw [← hS] at hle
      rw [← hN]
      have hb : N * 10 < 18446744073709551616 := by omega
      have hSS : (N : Int) * 10 + ((nth xs j : Nat) : Int) = (S : Int) := by omega
      have HX := hide hx0
      have HS := hide hS
      have hSb : S < 18446744073709551616 := by omega
      clear hx0 hi hst hle hN hS
      go_wp2
      go_roundw
      case rel => exact ⟨j, _, rfl, rfl, by omega, by rw [HS.out], trivial⟩
      case measure => simp [intOf]

end Go.Proofs.YtjmbblglfabefaaDoor
