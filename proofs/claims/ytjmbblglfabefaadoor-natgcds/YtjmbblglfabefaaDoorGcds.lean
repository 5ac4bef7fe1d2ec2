/- The law NatGcds: the walk. -/
import Derived.Test.YtjmbblglfabefaaDoorFrom1
import Derived.Test.YtjmbblglfabefaaDoorGcd
import Derived.Test.YtjmbblglfabefaaDoorRGcd
namespace Go.Proofs.YtjmbblglfabefaaDoor
set_option linter.unusedVariables false
set_option linter.unusedSimpArgs false
open Go Go.RowKit Go.Shelf Go.Lib

theorem gcd_lt {m n k : Nat} (hm : m < k) (hn : n < k) : Nat.gcd m n < k := by
  rcases Nat.eq_zero_or_pos m with rfl | h
  · rw [Nat.gcd_zero_left]; exact hn
  · exact Nat.lt_of_le_of_lt (Nat.gcd_le_left n h) hm

set_option maxRecDepth 100000 in
set_option maxHeartbeats 1000000 in
theorem gcds_calls (w : World) (sa sb : Value) (xs ys : List Nat) (ha0 : Limbs w sa xs) (hb0 : Limbs w sb ys) (htab : TabIs Tryd.prog w "internal/strconv.uint64pow10" .u64 pow10Tab) :
    Calls Tryd.prog 3 #[sa, sb] w fun e w' => e = .returned (.bool true) ∧ Below w.heap.size w w' := by
  obtain ⟨aa, ca, rfl⟩ := ha0.len
  obtain ⟨ab, cb, rfl⟩ := hb0.len
  by_cases h1 : xs.length > 6
  · have d1 : decide ((xs.length : Int) > 6) = true := decide_eq_true (by omega)
    go_enter Tryd.func3, Tryd.ntmps3
    go_wp2_with fail
    refine (counted_calls _ htab).mono ?_
    rintro e w1 ⟨rfl, k1⟩
    go_wp2
    go_ret
    exact ⟨rfl, k1⟩
  have d1 : decide ((xs.length : Int) > 6) = false := decide_eq_false (by omega)
  by_cases h2 : ys.length > 6
  · have d2 : decide ((ys.length : Int) > 6) = true := decide_eq_true (by omega)
    go_enter Tryd.func3, Tryd.ntmps3
    go_wp2_with fail
    refine (counted_calls _ htab).mono ?_
    rintro e w1 ⟨rfl, k1⟩
    go_wp2
    go_ret
    exact ⟨rfl, k1⟩
  have d2 : decide ((ys.length : Int) > 6) = false := decide_eq_false (by omega)
  have la := lt120 ha0.small (by omega)
  have lb := lt120 hb0.small (by omega)
  go_enter Tryd.func3, Tryd.ntmps3
  go_wp2_with fail
  refine (counted_calls _ htab).mono ?_
  rintro e w1 ⟨rfl, k1⟩
  go_wp2_with fail
  replace ha0 := ha0.below k1
  replace hb0 := hb0.below k1
  refine (gcd_res ⟨xs, ha0, by omega, rfl⟩ ⟨ys, hb0, by omega, rfl⟩).mono ?_
  rintro e w2 ⟨p, rfl, qp, k2⟩
  replace ha0 := ha0.below k2
  replace hb0 := hb0.below k2
  go_wp2_with fail
  refine (from_res ha0 (by omega)).mono ?_
  rintro e w3 ⟨x, rfl, qx, k3⟩
  replace hb0 := hb0.below k3
  replace qp := qp.below k3
  go_wp2_with fail
  refine (from_res hb0 (by omega)).mono ?_
  rintro e w4 ⟨y, rfl, qy, k4⟩
  replace qx := qx.below k4
  replace qp := qp.below k4
  go_wp2_with fail
  refine (rgcd_calls (qx.arg la (by omega)) (qy.arg lb (by omega)) la lb (by omega)).mono ?_
  rintro e w5 ⟨z, rfl, qz, k5⟩
  replace qp := qp.below k5
  go_wp2_with fail
  have lz := gcd_lt la lb
  refine (rlimbs_calls (qz.arg lz (by omega)) lz (by omega)).mono ?_
  rintro e w6 ⟨u, rfl, qu, k6⟩
  replace qp := qp.below k6
  go_wp2_with fail
  refine (words_resW qp.weak qu rfl).mono ?_
  rintro e w7 ⟨rfl, k7⟩
  go_wp2
  go_ret
  exact ⟨rfl, bth (bth (bth (bth (bth (bth k1 k2) k3) k4) k5) k6) k7⟩

end Go.Proofs.YtjmbblglfabefaaDoor
