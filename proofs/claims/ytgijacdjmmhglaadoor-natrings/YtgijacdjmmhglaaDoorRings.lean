/- The law NatRings: the walk. -/
import Derived.Test.YtgijacdjmmhglaaDoorCounted
import Derived.Test.YtgijacdjmmhglaaDoorLaw0
namespace Go.Proofs.YtgijacdjmmhglaaDoor
set_option linter.unusedVariables false
set_option linter.unusedSimpArgs false
open Go Go.RowKit Go.Shelf Go.Lib

set_option maxRecDepth 100000 in
set_option maxHeartbeats 1000000 in
theorem rings_calls (w : World) (sa sb sc : Value) (xs ys zs : List Nat) (ha0 : Limbs w sa xs) (hb0 : Limbs w sb ys) (hc0 : Limbs w sc zs) (htab : TabIs Tryd.prog w "internal/strconv.uint64pow10" .u64 pow10Tab) :
    Calls Tryd.prog 7 #[sa, sb, sc] w fun e w' => e = .returned (.bool true) ∧ Below w.heap.size w w' := by
  obtain ⟨aa, ca, rfl⟩ := ha0.len
  obtain ⟨ab, cb, rfl⟩ := hb0.len
  obtain ⟨ac, cc, rfl⟩ := hc0.len
  by_cases h1 : xs.length > 12
  · have d1 : decide ((xs.length : Int) > 12) = true := decide_eq_true (by omega)
    go_enter Tryd.func7, Tryd.ntmps7
    go_wp2_with fail
    refine (counted_calls _ htab).mono ?_
    rintro e w1 ⟨rfl, k1⟩
    go_wp2_with fail
    refine (counted_calls _ (tab_keep htab k1)).mono ?_
    rintro e w2 ⟨rfl, k2⟩
    go_wp2
    go_ret
    exact ⟨rfl, bthn k1 k2⟩
  have d1 : decide ((xs.length : Int) > 12) = false := decide_eq_false (by omega)
  by_cases h2 : ys.length > 12
  · have d2 : decide ((ys.length : Int) > 12) = true := decide_eq_true (by omega)
    go_enter Tryd.func7, Tryd.ntmps7
    go_wp2_with fail
    refine (counted_calls _ htab).mono ?_
    rintro e w1 ⟨rfl, k1⟩
    go_wp2_with fail
    refine (counted_calls _ (tab_keep htab k1)).mono ?_
    rintro e w2 ⟨rfl, k2⟩
    go_wp2
    go_ret
    exact ⟨rfl, bthn k1 k2⟩
  have d2 : decide ((ys.length : Int) > 12) = false := decide_eq_false (by omega)
  by_cases h3 : zs.length > 12
  · have d3 : decide ((zs.length : Int) > 12) = true := decide_eq_true (by omega)
    go_enter Tryd.func7, Tryd.ntmps7
    go_wp2_with fail
    refine (counted_calls _ htab).mono ?_
    rintro e w1 ⟨rfl, k1⟩
    go_wp2_with fail
    refine (counted_calls _ (tab_keep htab k1)).mono ?_
    rintro e w2 ⟨rfl, k2⟩
    go_wp2
    go_ret
    exact ⟨rfl, bthn k1 k2⟩
  have d3 : decide ((zs.length : Int) > 12) = false := decide_eq_false (by omega)
  have la := lt12 ha0.small (by omega)
  have lb := lt12 hb0.small (by omega)
  have lc := lt12 hc0.small (by omega)
  have A0 : Arg w (.slice aa xs.length ca) (val R xs) := ⟨xs, ha0, by omega, rfl⟩
  have B0 : Arg w (.slice ab ys.length cb) (val R ys) := ⟨ys, hb0, by omega, rfl⟩
  have C0 : Arg w (.slice ac zs.length cc) (val R zs) := ⟨zs, hc0, by omega, rfl⟩
  generalize val R xs = m at *
  generalize val R ys = n at *
  generalize val R zs = p at *
  clear ha0 hb0 hc0
  go_enter Tryd.func7, Tryd.ntmps7
  go_wp2_with fail
  refine (counted_calls _ htab).mono ?_
  rintro e w1 ⟨rfl, k1⟩
  go_wp2_with fail
  have A := A0.below k1
  have B := B0.below k1
  have C := C0.below k1
  have K1 := k1
  refine (add_res A B).mono ?_
  rintro e w2 ⟨v1, rfl, q1, k2⟩
  replace A := A.below k2
  replace B := B.below k2
  replace C := C.below k2
  have K2 := bthn K1 k2
  clear k2
  go_wp2_with fail
  refine (add_res (q1.arg (lt_add la lb) (by omega)) C).mono ?_
  rintro e w3 ⟨v2, rfl, q2, k3⟩
  replace A := A.below k3
  replace B := B.below k3
  replace C := C.below k3
  have K3 := bthn K2 k3
  clear K2 k3
  go_wp2_with fail
  refine (add_res C B).mono ?_
  rintro e w4 ⟨v3, rfl, q3, k4⟩
  replace A := A.below k4
  replace B := B.below k4
  replace C := C.below k4
  replace q2 := q2.below k4
  have K4 := bthn K3 k4
  clear K3 k4
  go_wp2_with fail
  refine (add_res A (q3.arg (lt_add lc lb) (by omega))).mono ?_
  rintro e w5 ⟨v4, rfl, q4, k5⟩
  replace A := A.below k5
  replace B := B.below k5
  replace C := C.below k5
  replace q2 := q2.below k5
  have K5 := bthn K4 k5
  clear K4 k5
  go_wp2_with fail
  refine (words_res q2 q4 (by omega)).mono ?_
  rintro e w6 ⟨rfl, k6⟩
  replace A := A.below k6
  replace B := B.below k6
  replace C := C.below k6
  have K6 := bthn K5 k6
  clear K5 k6
  go_wp2_with fail
  refine (mul_res A B).mono ?_
  rintro e w7 ⟨v5, rfl, q5, k7⟩
  replace A := A.below k7
  replace B := B.below k7
  replace C := C.below k7
  have K7 := bthn K6 k7
  clear K6 k7
  go_wp2_with fail
  refine (mul_res (q5.arg (lt_mul la lb) (by omega)) C).mono ?_
  rintro e w8 ⟨v6, rfl, q6, k8⟩
  replace A := A.below k8
  replace B := B.below k8
  replace C := C.below k8
  have K8 := bthn K7 k8
  clear K7 k8
  go_wp2_with fail
  refine (mul_res B A).mono ?_
  rintro e w9 ⟨v7, rfl, q7, k9⟩
  replace A := A.below k9
  replace B := B.below k9
  replace C := C.below k9
  replace q6 := q6.below k9
  have K9 := bthn K8 k9
  clear K8 k9
  go_wp2_with fail
  refine (mul_res C (q7.arg (lt_mul lb la) (by omega))).mono ?_
  rintro e w10 ⟨v8, rfl, q8, k10⟩
  replace A := A.below k10
  replace B := B.below k10
  replace C := C.below k10
  replace q6 := q6.below k10
  have K10 := bthn K9 k10
  clear K9 k10
  go_wp2_with fail
  refine (words_res q6 q8 (by rw [Nat.mul_comm (m * n) p, Nat.mul_comm m n])).mono ?_
  rintro e w11 ⟨rfl, k11⟩
  replace A := A.below k11
  replace B := B.below k11
  replace C := C.below k11
  have K11 := bthn K10 k11
  clear K10 k11
  go_wp2_with fail
  refine (add_res B C).mono ?_
  rintro e w12 ⟨v9, rfl, q9, k12⟩
  replace A := A.below k12
  replace B := B.below k12
  replace C := C.below k12
  have K12 := bthn K11 k12
  clear K11 k12
  go_wp2_with fail
  refine (mul_res A (q9.arg (lt_add lb lc) (by omega))).mono ?_
  rintro e w13 ⟨v10, rfl, q10, k13⟩
  replace A := A.below k13
  replace B := B.below k13
  replace C := C.below k13
  have K13 := bthn K12 k13
  clear K12 k13
  go_wp2_with fail
  refine (mul_res A B).mono ?_
  rintro e w14 ⟨v11, rfl, q11, k14⟩
  replace A := A.below k14
  replace B := B.below k14
  replace C := C.below k14
  replace q10 := q10.below k14
  have K14 := bthn K13 k14
  clear K13 k14
  go_wp2_with fail
  refine (mul_res C A).mono ?_
  rintro e w15 ⟨v12, rfl, q12, k15⟩
  replace A := A.below k15
  replace B := B.below k15
  replace C := C.below k15
  replace q10 := q10.below k15
  replace q11 := q11.below k15
  have K15 := bthn K14 k15
  clear K14 k15
  go_wp2_with fail
  refine (add_res (q11.arg (lt_mul la lb) (by omega)) (q12.arg (lt_mul lc la) (by omega))).mono ?_
  rintro e w16 ⟨v13, rfl, q13, k16⟩
  replace A := A.below k16
  replace B := B.below k16
  replace C := C.below k16
  replace q10 := q10.below k16
  have K16 := bthn K15 k16
  clear K15 k16
  go_wp2_with fail
  refine (words_res q10 q13 (by rw [Nat.mul_add, Nat.mul_comm p m])).mono ?_
  rintro e w17 ⟨rfl, k17⟩
  replace A := A.below k17
  replace B := B.below k17
  replace C := C.below k17
  have K17 := bthn K16 k17
  clear K16 k17
  go_wp2
  go_ret
  exact ⟨rfl, K17⟩

end Go.Proofs.YtgijacdjmmhglaaDoor
