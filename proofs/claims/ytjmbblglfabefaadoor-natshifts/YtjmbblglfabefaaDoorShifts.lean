/- The law NatShifts: the walk. -/
import Derived.Test.YtjmbblglfabefaaDoorFrom1
import Derived.Test.YtjmbblglfabefaaDoorBits
namespace Go.Proofs.YtjmbblglfabefaaDoor
set_option linter.unusedVariables false
set_option linter.unusedSimpArgs false
open Go Go.RowKit Go.Shelf Go.Lib

theorem two_pow_any (k n : Nat) (h : n ≤ 3 * k) : 2 ^ n ≤ 10 ^ k := by
  have h1 : 2 ^ n ≤ 2 ^ (3 * k) := Nat.pow_le_pow_right (by decide) h
  have h2 : 2 ^ (3 * k) ≤ 10 ^ k := by
    rw [Nat.pow_mul]
    exact Nat.pow_le_pow_left (by decide) k
  exact Nat.le_trans h1 h2

theorem two_pow_le (n : Nat) (h : n ≤ 300) : 2 ^ n ≤ 10 ^ 100 := two_pow_any 100 n h

theorem shift_lt {m n : Nat} (h : m < 10 ^ 120) (hn : n ≤ 300) : m * 2 ^ n < 10 ^ (120 + 100) := by
  rw [Nat.pow_add]
  exact Nat.lt_of_le_of_lt (Nat.mul_le_mul_left m (two_pow_le n hn)) (Nat.mul_lt_mul_of_pos_right h (Nat.pow_pos (by decide)))

set_option maxRecDepth 100000 in
set_option maxHeartbeats 1000000 in
theorem shifts_calls (w : World) (sa : Value) (n : Int) (xs : List Nat) (ha0 : Limbs w sa xs) (htab : TabIs Tryd.prog w "internal/strconv.uint64pow10" .u64 pow10Tab) :
    Calls Tryd.prog 4 #[sa, .int .i64 n] w fun e w' => e = .returned (.bool true) ∧ Below w.heap.size w w' := by
  obtain ⟨aa, ca, rfl⟩ := ha0.len
  by_cases h1 : xs.length > 12
  · have d1 : decide ((xs.length : Int) > 12) = true := decide_eq_true (by omega)
    go_enter Tryd.func4, Tryd.ntmps4
    go_wp2_with fail
    refine (counted_calls _ htab).mono ?_
    rintro e w1 ⟨rfl, k1⟩
    go_wp2
    go_ret
    exact ⟨rfl, k1⟩
  have d1 : decide ((xs.length : Int) > 12) = false := decide_eq_false (by omega)
  by_cases h2 : n > 300
  · by_cases h3 : n ≤ 65536
    · go_enter Tryd.func4, Tryd.ntmps4
      go_wp2_with fail
      refine (counted_calls _ htab).mono ?_
      rintro e w1 ⟨rfl, k1⟩
      go_wp2
      go_ret
      exact ⟨rfl, k1⟩
    · have h4 : n > 65536 := by omega
      have h5 : ¬ n < 0 := by omega
      go_enter Tryd.func4, Tryd.ntmps4
      go_wp2_with fail
      refine (shift_bad _ _ n (.inr h4)).mono ?_
      rintro e w1 ⟨rfl, rfl⟩
      go_wp2_with fail
      refine (counted_calls _ htab).mono ?_
      rintro e w1 ⟨rfl, k1⟩
      go_wp2
      go_ret
      exact ⟨rfl, k1⟩
  by_cases h3 : n < 0
  · go_enter Tryd.func4, Tryd.ntmps4
    go_wp2_with fail
    refine (shift_bad _ _ n (.inl h3)).mono ?_
    rintro e w1 ⟨rfl, rfl⟩
    go_wp2_with fail
    refine (counted_calls _ htab).mono ?_
    rintro e w1 ⟨rfl, k1⟩
    go_wp2
    go_ret
    exact ⟨rfl, k1⟩
  obtain ⟨k, rfl⟩ : ∃ k : Nat, n = (k : Int) := ⟨n.toNat, by omega⟩
  have hk : k ≤ 300 := by omega
  have h4 : ¬ (k : Int) > 65536 := by omega
  have la := lt120 ha0.small (by omega)
  go_enter Tryd.func4, Tryd.ntmps4
  go_wp2_with fail
  refine (shift_calls ⟨xs, ha0, by omega, rfl⟩ (by omega)).mono ?_
  rintro e w1 ⟨s, rfl, hs0, k1⟩
  have qs := hs0.res
  clear hs0
  replace ha0 := ha0.below k1
  go_wp2_with fail
  refine (from_res ha0 (by omega)).mono ?_
  rintro e w2 ⟨x, rfl, qx, k2⟩
  replace ha0 := ha0.below k2
  replace qs := qs.below k2
  go_wp2_with fail
  refine (counted_calls _ (tab_keep (tab_keep htab k1) k2)).mono ?_
  rintro e w3 ⟨rfl, k3⟩
  replace ha0 := ha0.below k3
  replace qs := qs.below k3
  replace qx := qx.below k3
  go_wp2_with fail
  refine (rshift_calls (n := k) (qx.arg la (by omega)) la (by omega) hk).mono ?_
  rintro e w4 ⟨z, rfl, qz, k4⟩
  replace ha0 := ha0.below k4
  replace qs := qs.below k4
  replace qx := qx.below k4
  have lz := shift_lt la hk
  go_wp2_with fail
  refine (rlimbs_calls (qz.arg lz (by omega)) lz (by omega)).mono ?_
  rintro e w5 ⟨u, rfl, qu, k5⟩
  replace ha0 := ha0.below k5
  replace qs := qs.below k5
  replace qx := qx.below k5
  go_wp2_with fail
  refine (words_resW qs.weak qu rfl).mono ?_
  rintro e w6 ⟨rfl, k6⟩
  replace ha0 := ha0.below k6
  replace qx := qx.below k6
  go_wp2_with fail
  refine (bits_res ⟨xs, ha0, by omega, rfl⟩).mono ?_
  rintro e w7 ⟨c, rfl, hc, k7⟩
  replace qx := qx.below k7
  go_wp2_with fail
  refine (rbits_calls (qx.arg la (by omega)) la (by omega)).mono ?_
  rintro e w8 ⟨c', rfl, hc', k8⟩
  obtain rfl := hc.unique hc'
  go_wp2
  go_ret
  exact ⟨rfl, bth (bth (bth (bth (bth (bth (bth k1 k2) k3) k4) k5) k6) k7) k8⟩

end Go.Proofs.YtjmbblglfabefaaDoor
