/- The law NatProducts: the walk. -/
import Derived.Test.YtgijacdjmmhglaaDoorCounted
import Derived.Test.YtgijacdjmmhglaaDoorRLimbs
namespace Go.Proofs.YtgijacdjmmhglaaDoor
set_option linter.unusedVariables false
set_option linter.unusedSimpArgs false
open Go Go.RowKit Go.Shelf Go.Lib

/-- From, of a number of at most twelve limbs. -/
theorem from_res {w : World} {sv : Value} {xs : List Nat} (h : Limbs w sv xs) (hl : xs.length ≤ 12) :
    Calls Tryd.prog 10 #[sv] w fun e w' => ∃ rv, e = .returned rv ∧ RRes w' rv (val R xs) ∧ Below w.heap.size w w' := rfrom_calls w sv xs h (by omega)

theorem lt120 {xs : List Nat} (hs : Small R xs) (hl : xs.length ≤ 12) : val R xs < 10 ^ 120 :=
  Nat.lt_of_lt_of_le (valR_lt hs) (Nat.pow_le_pow_right (by decide) (by omega))

theorem lt_mul10 {m n j k : Nat} (hm : m < 10 ^ j) (hn : n < 10 ^ k) : m * n < 10 ^ (j + k) := by
  rw [Nat.pow_add]
  exact Nat.mul_lt_mul'' hm hn
theorem lt_add10 {m n k : Nat} (hm : m < 10 ^ k) (hn : n < 10 ^ k) : m + n < 10 ^ (k + 1) := by
  rw [Nat.pow_succ]
  omega
theorem lt_up10 {m j k : Nat} (hm : m < 10 ^ j) (h : j ≤ k) : m < 10 ^ k := Nat.lt_of_lt_of_le hm (Nat.pow_le_pow_right (by decide) h)

set_option maxRecDepth 100000 in
set_option maxHeartbeats 1000000 in
theorem products_calls (w : World) (sa sb : Value) (xs ys : List Nat) (ha0 : Limbs w sa xs) (hb0 : Limbs w sb ys) (htab : TabIs Tryd.prog w "internal/strconv.uint64pow10" .u64 pow10Tab) :
    Calls Tryd.prog 4 #[sa, sb] w fun e w' => e = .returned (.bool true) ∧ Below w.heap.size w w' := by
  obtain ⟨aa, ca, rfl⟩ := ha0.len
  obtain ⟨ab, cb, rfl⟩ := hb0.len
  by_cases h1 : xs.length > 12
  · have d1 : decide ((xs.length : Int) > 12) = true := decide_eq_true (by omega)
    go_enter Tryd.func4, Tryd.ntmps4
    go_wp2_with fail
    refine (counted_calls _ htab).mono ?_
    rintro e w1 ⟨rfl, k1⟩
    go_wp2
    go_ret
    exact ⟨rfl, k1⟩
  have d1 : decide ((xs.length : Int) > 12) = false := decide_eq_false (by omega)
  by_cases h2 : ys.length > 12
  · have d2 : decide ((ys.length : Int) > 12) = true := decide_eq_true (by omega)
    go_enter Tryd.func4, Tryd.ntmps4
    go_wp2_with fail
    refine (counted_calls _ htab).mono ?_
    rintro e w1 ⟨rfl, k1⟩
    go_wp2
    go_ret
    exact ⟨rfl, k1⟩
  have d2 : decide ((ys.length : Int) > 12) = false := decide_eq_false (by omega)
  have la := lt120 ha0.small (by omega)
  have lb := lt120 hb0.small (by omega)
  go_enter Tryd.func4, Tryd.ntmps4
  go_wp2_with fail
  refine (counted_calls _ htab).mono ?_
  rintro e w1 ⟨rfl, k1⟩
  go_wp2_with fail
  replace ha0 := ha0.below k1
  replace hb0 := hb0.below k1
  refine (mul_res ⟨xs, ha0, by omega, rfl⟩ ⟨ys, hb0, by omega, rfl⟩).mono ?_
  rintro e w2 ⟨p, rfl, qp, k2⟩
  replace ha0 := ha0.below k2
  replace hb0 := hb0.below k2
  go_wp2_with fail
  refine (from_res ha0 (by omega)).mono ?_
  rintro e w3 ⟨x, rfl, qx, k3⟩
  replace hb0 := hb0.below k3
  replace qp := qp.below k3
  go_wp2_with fail
  refine (from_res hb0 (by omega)).mono ?_
  rintro e w4 ⟨y, rfl, qy, k4⟩
  replace qx := qx.below k4
  replace qp := qp.below k4
  go_wp2_with fail
  refine (mul_rres qx qy la lb (by omega) (by omega)).mono ?_
  rintro e w5 ⟨z, rfl, qz, k5⟩
  replace qp := qp.below k5
  go_wp2_with fail
  have lz := lt_mul10 la lb
  refine (rlimbs_calls (qz.arg lz (by omega)) lz (by omega)).mono ?_
  rintro e w6 ⟨u, rfl, qu, k6⟩
  replace qp := qp.below k6
  go_wp2_with fail
  refine (words_resW qp.weak qu rfl).mono ?_
  rintro e w7 ⟨rfl, k7⟩
  go_wp2
  go_ret
  exact ⟨rfl, bth (bth (bth (bth (bth (bth k1 k2) k3) k4) k5) k6) k7⟩

end Go.Proofs.YtgijacdjmmhglaaDoor
