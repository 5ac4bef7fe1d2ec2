/- The law NatUndoes: the walk. -/
import Derived.Test.YtgijacdjmmhglaaDoorCounted
import Derived.Test.YtgijacdjmmhglaaDoorLaw0
import Derived.Test.YtgijacdjmmhglaaDoorSub
import Derived.Test.YtgijacdjmmhglaaDoorCmp
namespace Go.Proofs.YtgijacdjmmhglaaDoor
set_option linter.unusedVariables false
set_option linter.unusedSimpArgs false
open Go Go.RowKit Go.Shelf Go.Lib

theorem sub_res {w : World} {sv tv : Value} {m n : Nat} (hx : Arg w sv m) (hy : Arg w tv n) (h : n ≤ m) :
    Calls Tryd.prog 11 #[sv, tv] w fun e w' => ∃ rv, e = .returned (.tuple #[rv, .int .i64 0]) ∧ Res w' rv (m - n) ∧ Below w.heap.size w w' := by
  obtain ⟨xs, h1, h2, rfl⟩ := hx
  obtain ⟨ys, k1, k2, rfl⟩ := hy
  refine (sub_calls w sv tv xs ys h1 k1 h2 k2).mono ?_
  rintro e w' ⟨_, hA, hb⟩
  obtain ⟨rv, rfl, hA'⟩ := hA h
  exact ⟨rv, rfl, hA'.res, hb⟩

theorem cmp_res {w : World} {sv tv : Value} {m n : Nat} (hx : Arg w sv m) (hy : Arg w tv n) :
    Calls Tryd.prog 18 #[sv, tv] w fun e w' => e = .returned (.int .i64 (cmpI m n)) ∧ Below w.heap.size w w' := by
  obtain ⟨xs, h1, h2, rfl⟩ := hx
  obtain ⟨ys, k1, k2, rfl⟩ := hy
  exact cmp_calls w sv tv xs ys h1 k1 h2 k2

theorem cmp_same {w : World} {sv tv : Value} {m n : Nat} (hx : Arg w sv m) (hy : Arg w tv n) (h : m = n) :
    Calls Tryd.prog 18 #[sv, tv] w fun e w' => e = .returned (.int .i64 0) ∧ Below w.heap.size w w' := by
  subst h
  refine (cmp_res hx hy).mono ?_
  rintro e w' ⟨rfl, hb⟩
  exact ⟨by simp [cmpI], hb⟩

theorem divMod_res {w : World} {sv tv : Value} {m n : Nat} (hx : Arg w sv m) (hy : Arg w tv n) (h : n ≠ 0) :
    Calls Tryd.prog 23 #[sv, tv] w fun e w' => ∃ q r, e = .returned (.tuple #[q, r, .int .i64 0]) ∧ Res w' q (m / n) ∧ Res w' r (m % n) ∧ Below w.heap.size w w' := by
  obtain ⟨xs, h1, h2, rfl⟩ := hx
  obtain ⟨ys, k1, k2, rfl⟩ := hy
  refine (divMod_calls w sv tv xs ys h1 k1 h2 k2).mono ?_
  rintro e w' ⟨_, hA, hb⟩
  obtain ⟨q, r, rfl, hq, hr⟩ := hA h
  exact ⟨q, r, rfl, hq.res, hr.res, hb⟩

set_option maxRecDepth 100000 in
set_option maxHeartbeats 1000000 in
theorem undoes_calls (w : World) (sa sb sc : Value) (xs ys zs : List Nat) (ha0 : Limbs w sa xs) (hb0 : Limbs w sb ys) (hc0 : Limbs w sc zs) (htab : TabIs Tryd.prog w "internal/strconv.uint64pow10" .u64 pow10Tab) :
    Calls Tryd.prog 6 #[sa, sb, sc] w fun e w' => e = .returned (.bool true) ∧ Below w.heap.size w w' := by
  obtain ⟨aa, ca, rfl⟩ := ha0.len
  obtain ⟨ab, cb, rfl⟩ := hb0.len
  obtain ⟨ac, cc, rfl⟩ := hc0.len
  by_cases h1 : xs.length > 12
  · have d1 : decide ((xs.length : Int) > 12) = true := decide_eq_true (by omega)
    go_enter Tryd.func6, Tryd.ntmps6
    go_wp2_with fail
    refine (counted_calls _ htab).mono ?_
    rintro e w1 ⟨rfl, k1⟩
    go_wp2_with fail
    refine (counted_calls _ (tab_keep htab k1)).mono ?_
    rintro e w2 ⟨rfl, k2⟩
    go_wp2
    go_ret
    exact ⟨rfl, bthn k1 k2⟩
  have d1 : decide ((xs.length : Int) > 12) = false := decide_eq_false (by omega)
  by_cases h2 : ys.length > 12
  · have d2 : decide ((ys.length : Int) > 12) = true := decide_eq_true (by omega)
    go_enter Tryd.func6, Tryd.ntmps6
    go_wp2_with fail
    refine (counted_calls _ htab).mono ?_
    rintro e w1 ⟨rfl, k1⟩
    go_wp2_with fail
    refine (counted_calls _ (tab_keep htab k1)).mono ?_
    rintro e w2 ⟨rfl, k2⟩
    go_wp2
    go_ret
    exact ⟨rfl, bthn k1 k2⟩
  have d2 : decide ((ys.length : Int) > 12) = false := decide_eq_false (by omega)
  by_cases h3 : zs.length > 12
  · have d3 : decide ((zs.length : Int) > 12) = true := decide_eq_true (by omega)
    go_enter Tryd.func6, Tryd.ntmps6
    go_wp2_with fail
    refine (counted_calls _ htab).mono ?_
    rintro e w1 ⟨rfl, k1⟩
    go_wp2_with fail
    refine (counted_calls _ (tab_keep htab k1)).mono ?_
    rintro e w2 ⟨rfl, k2⟩
    go_wp2
    go_ret
    exact ⟨rfl, bthn k1 k2⟩
  have d3 : decide ((zs.length : Int) > 12) = false := decide_eq_false (by omega)
  have la := lt12 ha0.small (by omega)
  have lb := lt12 hb0.small (by omega)
  have lc := lt12 hc0.small (by omega)
  have A0 : Arg w (.slice aa xs.length ca) (val R xs) := ⟨xs, ha0, by omega, rfl⟩
  have B0 : Arg w (.slice ab ys.length cb) (val R ys) := ⟨ys, hb0, by omega, rfl⟩
  have C0 : Arg w (.slice ac zs.length cc) (val R zs) := ⟨zs, hc0, by omega, rfl⟩
  generalize val R xs = m at *
  generalize val R ys = n at *
  generalize val R zs = p at *
  clear ha0 hb0 hc0
  go_enter Tryd.func6, Tryd.ntmps6
  go_wp2_with fail
  refine (counted_calls _ htab).mono ?_
  rintro e w1 ⟨rfl, k1⟩
  go_wp2_with fail
  have A := A0.below k1
  have B := B0.below k1
  have C := C0.below k1
  have K1 := k1
  go_wp2_with fail
  refine (add_res A B).mono ?_
  rintro e w2 ⟨v1, rfl, q1, k2⟩
  replace A := A.below k2
  replace B := B.below k2
  replace C := C.below k2
  have K2 := bthn K1 k2
  clear k2
  go_wp2_with fail
  refine (sub_res (q1.arg (lt_add la lb) (by omega)) B (by omega)).mono ?_
  rintro e w3 ⟨v2, rfl, q2, k3⟩
  replace A := A.below k3
  replace B := B.below k3
  replace C := C.below k3
  have K3 := bthn K2 k3
  clear K2 k3
  go_wp2_with fail
  have e2 : m + n - n = m := by omega
  rw [e2] at q2
  refine (cmp_same (q2.arg la (by omega)) A rfl).mono ?_
  rintro e w4 ⟨rfl, k4⟩
  replace A := A.below k4
  replace B := B.below k4
  replace C := C.below k4
  have K4 := bthn K3 k4
  clear K3 k4
  go_wp2_with fail
  refine (cmp_res C B).mono ?_
  rintro e w5 ⟨rfl, k5⟩
  replace A := A.below k5
  replace B := B.below k5
  replace C := C.below k5
  have K5 := bthn K4 k5
  clear K4 k5
  by_cases hcb : n ≤ p
  · have dc : decide (cmpI p n ≥ 0) = true := decide_eq_true (by unfold cmpI; split <;> (try split) <;> omega)
    go_wp2
    go_ret
    exact ⟨rfl, K5⟩
  have dc : decide (cmpI p n ≥ 0) = false := decide_eq_false (by unfold cmpI; split <;> (try split) <;> omega)
  have hn0 : n ≠ 0 := by omega
  go_wp2_with fail
  refine (mul_res A B).mono ?_
  rintro e w6 ⟨v3, rfl, q3, k6⟩
  replace A := A.below k6
  replace B := B.below k6
  replace C := C.below k6
  have K6 := bthn K5 k6
  clear K5 k6
  go_wp2_with fail
  refine (add_res (q3.arg (lt_mul la lb) (by omega)) C).mono ?_
  rintro e w7 ⟨v4, rfl, q4, k7⟩
  replace A := A.below k7
  replace B := B.below k7
  replace C := C.below k7
  have K7 := bthn K6 k7
  clear K6 k7
  go_wp2_with fail
  have l4 : m * n + p < R ^ (24 + 1) := lt_add (lt_mul la lb) (lt_up lc (by omega))
  have e5 : (m * n + p) / n = m := by rw [Nat.mul_comm m n, Nat.mul_add_div (by omega), Nat.div_eq_of_lt (by omega)]; rfl
  have e6 : (m * n + p) % n = p := by rw [Nat.mul_comm m n, Nat.mul_add_mod, Nat.mod_eq_of_lt (by omega)]
  refine (divMod_res (q4.arg l4 (by omega)) B hn0).mono ?_
  rintro e w8 ⟨v5, v6, rfl, q5, q6, k8⟩
  replace A := A.below k8
  replace B := B.below k8
  replace C := C.below k8
  have K8 := bthn K7 k8
  clear K7 k8
  rw [e5] at q5
  rw [e6] at q6
  go_wp2_with fail
  refine (cmp_same (q5.arg la (by omega)) A rfl).mono ?_
  rintro e w9 ⟨rfl, k9⟩
  replace A := A.below k9
  replace B := B.below k9
  replace C := C.below k9
  replace q6 := q6.below k9
  have K9 := bthn K8 k9
  clear K8 k9
  go_wp2_with fail
  refine (cmp_same (q6.arg lc (by omega)) C rfl).mono ?_
  rintro e w10 ⟨rfl, k10⟩
  replace A := A.below k10
  replace B := B.below k10
  replace C := C.below k10
  have K10 := bthn K9 k10
  clear K9 k10
  go_wp2
  go_ret
  exact ⟨rfl, K10⟩

end Go.Proofs.YtgijacdjmmhglaaDoor
