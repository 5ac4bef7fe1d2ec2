/- The law NatSums: the walk. -/
import Derived.Test.YtgijacdjmmhglaaDoorQuotients
import Derived.Test.YtgijacdjmmhglaaDoorSmall2
namespace Go.Proofs.YtgijacdjmmhglaaDoor
set_option linter.unusedVariables false
set_option linter.unusedSimpArgs false
open Go Go.RowKit Go.Shelf Go.Lib

theorem norm_res {w : World} {sv : Value} {m : Nat} (hx : Arg w sv m) :
    Calls Tryd.prog 19 #[sv] w fun e w' => ∃ rv, e = .returned rv ∧ Res w' rv m ∧ Below w.heap.size w w' := by
  obtain ⟨xs, h1, h2, rfl⟩ := hx
  refine (norm_calls w sv xs h1 h2).mono ?_
  rintro e w' ⟨rv, rfl, hA, hb⟩
  exact ⟨rv, rfl, hA.res, hb⟩

theorem sub_less {w : World} {sv tv : Value} {m n : Nat} (hx : Arg w sv m) (hy : Arg w tv n) (h : m < n) :
    Calls Tryd.prog 11 #[sv, tv] w fun e w' => e = .returned (.tuple #[.slice none 0 0, .int .i64 5]) ∧ Below w.heap.size w w' := by
  obtain ⟨xs, h1, h2, rfl⟩ := hx
  obtain ⟨ys, k1, k2, rfl⟩ := hy
  refine (sub_calls w sv tv xs ys h1 k1 h2 k2).mono ?_
  rintro e w' ⟨hA, _, hb⟩
  exact ⟨hA h, hb⟩

theorem isZero_res {w : World} {sv : Value} {m : Nat} (hx : Arg w sv m) :
    Calls Tryd.prog 20 #[sv] w fun e w' => e = .returned (.bool (decide (m = 0))) ∧ Below w.heap.size w w' := by
  obtain ⟨xs, h1, h2, rfl⟩ := hx
  exact isZero_calls w sv xs h1

theorem Res.nil (W : World) : Res W (.slice none 0 0) 0 := ⟨[], Limbs.nil W, canon_nil R, rfl⟩

theorem RRes.empty (W : World) (a : Option Addr) (c : Nat) : RRes W (.slice a 0 c) 0 := ⟨[], ⟨a, c, rfl, Nat.zero_le _, Small.nil _, fun j hj => by simp at hj⟩, canon_nil 10, rfl⟩

set_option maxRecDepth 100000 in
set_option maxHeartbeats 2000000 in
theorem sums_calls (w : World) (sa sb : Value) (xs ys : List Nat) (ha0 : Limbs w sa xs) (hb0 : Limbs w sb ys) (htab : TabIs Tryd.prog w "internal/strconv.uint64pow10" .u64 pow10Tab) :
    Calls Tryd.prog 3 #[sa, sb] w fun e w' => e = .returned (.bool true) ∧ Below w.heap.size w w' := by
  obtain ⟨aa, ca, rfl⟩ := ha0.len
  obtain ⟨ab, cb, rfl⟩ := hb0.len
  by_cases h1 : xs.length > 12
  · have d1 : decide ((xs.length : Int) > 12) = true := decide_eq_true (by omega)
    go_enter Tryd.func3, Tryd.ntmps3
    go_wp2_with fail
    refine (counted_calls _ htab).mono ?_
    rintro e w1 ⟨rfl, k1⟩
    go_wp2
    go_ret
    exact ⟨rfl, k1⟩
  have d1 : decide ((xs.length : Int) > 12) = false := decide_eq_false (by omega)
  by_cases h2 : ys.length > 12
  · have d2 : decide ((ys.length : Int) > 12) = true := decide_eq_true (by omega)
    go_enter Tryd.func3, Tryd.ntmps3
    go_wp2_with fail
    refine (counted_calls _ htab).mono ?_
    rintro e w1 ⟨rfl, k1⟩
    go_wp2
    go_ret
    exact ⟨rfl, k1⟩
  have d2 : decide ((ys.length : Int) > 12) = false := decide_eq_false (by omega)
  have la := lt120 ha0.small (by omega)
  have lb := lt120 hb0.small (by omega)
  have la10 := la
  have lb10 := lb
  have lab := lt_add10 la lb
  by_cases hge : val R ys ≤ val R xs
  · have ldv : val R xs - val R ys < 10 ^ 120 := by omega
    go_enter Tryd.func3, Tryd.ntmps3
    go_wp2_with fail
    refine (from_res ha0 (by omega)).mono ?_
    rintro e w1 ⟨x, rfl, qx, k1⟩
    replace ha0 := ha0.below k1
    replace hb0 := hb0.below k1
    replace htab := tab_keep htab k1
    have K1 := k1
    clear k1
    obtain ⟨xo, L, xc, rfl, hL⟩ := qx.shape
    have hLz : ((L : Int) == 0) = decide (val R xs = 0) := by
      by_cases h0 : val R xs = 0
      · rw [hL.2 h0]; simp [h0]
      · have : L ≠ 0 := fun e => h0 (hL.1 e)
        simp [h0]; omega
    have HLz := hide hLz
    clear hLz hL
    go_wp2_with fail
    refine (from_res hb0 (by omega)).mono ?_
    rintro e w2 ⟨y, rfl, qy, k2⟩
    replace ha0 := ha0.below k2
    replace hb0 := hb0.below k2
    replace qx := qx.below k2
    replace htab := tab_keep htab k2
    have K2 := bth K1 k2
    clear K1
    clear k2
    go_wp2_with fail
    refine (sub_res (show Arg _ _ (val R xs) from ⟨xs, ha0, by omega, rfl⟩) (show Arg _ _ (val R ys) from ⟨ys, hb0, by omega, rfl⟩) hge).mono ?_
    rintro e w3 ⟨d, rfl, qd, k3⟩
    replace ha0 := ha0.below k3
    replace hb0 := hb0.below k3
    replace qx := qx.below k3
    replace qy := qy.below k3
    replace htab := tab_keep htab k3
    have K3 := bth K2 k3
    clear K2
    clear k3
    go_wp2_with fail
    have kA := bel1 w3 (.cells #[] 3)
    replace ha0 := ha0.below kA
    replace hb0 := hb0.below kA
    replace qx := qx.below kA
    replace qy := qy.below kA
    replace qd := qd.below kA
    replace htab := tab_keep htab kA
    have KA := bth K3 kA
    clear K3 kA
    refine (rcmp_calls (qx.arg la10 (by omega)) (qy.arg lb10 (by omega))).mono ?_
    rintro e w4 ⟨rfl, k4⟩
    have hcg : cmpI (val R xs : Int) (val R ys : Int) ≥ 0 := cmpI_ge hge
    replace ha0 := ha0.below k4
    replace hb0 := hb0.below k4
    replace qx := qx.below k4
    replace qy := qy.below k4
    replace qd := qd.below k4
    replace htab := tab_keep htab k4
    have K4 := bth KA k4
    clear KA k4
    go_wp2_with fail
    refine (rsub_calls (qx.arg la10 (by omega)) (qy.arg lb10 (by omega)) hge).mono ?_
    rintro e w5 ⟨wv, rfl, qw0, k5⟩
    replace ha0 := ha0.below k5
    replace hb0 := hb0.below k5
    replace qx := qx.below k5
    replace qy := qy.below k5
    replace qd := qd.below k5
    replace htab := tab_keep htab k5
    have K5 := bth K4 k5
    clear K4
    clear k5
    have qw := qw0.res
    clear qw0
    go_wp2_with fail
    refine (counted_calls _ htab).mono ?_
    rintro e w6 ⟨rfl, k6⟩
    replace ha0 := ha0.below k6
    replace hb0 := hb0.below k6
    replace qx := qx.below k6
    replace qy := qy.below k6
    replace qd := qd.below k6
    replace qw := qw.below k6
    replace htab := tab_keep htab k6
    have K6 := bth K5 k6
    clear K5
    clear k6
    go_wp2_with fail
    refine (add_res (show Arg _ _ (val R xs) from ⟨xs, ha0, by omega, rfl⟩) (show Arg _ _ (val R ys) from ⟨ys, hb0, by omega, rfl⟩)).mono ?_
    rintro e w7 ⟨s, rfl, qs, k7⟩
    replace ha0 := ha0.below k7
    replace hb0 := hb0.below k7
    replace qx := qx.below k7
    replace qy := qy.below k7
    replace qd := qd.below k7
    replace qw := qw.below k7
    replace htab := tab_keep htab k7
    have K7 := bth K6 k7
    clear K6
    clear k7
    go_wp2_with fail
    refine (add_rres (qx.arg la10 (by omega)) (qy.arg lb10 (by omega))).mono ?_
    rintro e w8 ⟨t, rfl, qt, k8⟩
    replace ha0 := ha0.below k8
    replace hb0 := hb0.below k8
    replace qx := qx.below k8
    replace qy := qy.below k8
    replace qd := qd.below k8
    replace qw := qw.below k8
    replace qs := qs.below k8
    replace htab := tab_keep htab k8
    have K8 := bth K7 k8
    clear K7
    clear k8
    go_wp2_with fail
    refine (rlimbs_calls (qt.arg lab (by omega)) lab (by omega)).mono ?_
    rintro e w9 ⟨u, rfl, qu, k9⟩
    replace ha0 := ha0.below k9
    replace hb0 := hb0.below k9
    replace qx := qx.below k9
    replace qy := qy.below k9
    replace qd := qd.below k9
    replace qw := qw.below k9
    replace qs := qs.below k9
    replace qt := qt.below k9
    replace htab := tab_keep htab k9
    have K9 := bth K8 k9
    clear K8
    clear k9
    go_wp2_with fail
    refine (words_resW qs.weak qu rfl).mono ?_
    rintro e w10 ⟨rfl, k10⟩
    replace ha0 := ha0.below k10
    replace hb0 := hb0.below k10
    replace qx := qx.below k10
    replace qy := qy.below k10
    replace qd := qd.below k10
    replace qw := qw.below k10
    replace qs := qs.below k10
    replace qt := qt.below k10
    replace qu := qu.below k10
    replace htab := tab_keep htab k10
    have K10 := bth K9 k10
    clear K9
    clear k10
    go_wp2_with fail
    refine (cmp_res (show Arg _ _ (val R xs) from ⟨xs, ha0, by omega, rfl⟩) (show Arg _ _ (val R ys) from ⟨ys, hb0, by omega, rfl⟩)).mono ?_
    rintro e w11 ⟨rfl, k11⟩
    replace ha0 := ha0.below k11
    replace hb0 := hb0.below k11
    replace qx := qx.below k11
    replace qy := qy.below k11
    replace qd := qd.below k11
    replace qw := qw.below k11
    replace qs := qs.below k11
    replace qt := qt.below k11
    replace qu := qu.below k11
    replace htab := tab_keep htab k11
    have K11 := bth K10 k11
    clear K10
    clear k11
    go_wp2_with fail
    refine (rcmp_calls (qx.arg la10 (by omega)) (qy.arg lb10 (by omega))).mono ?_
    rintro e w12 ⟨rfl, k12⟩
    replace ha0 := ha0.below k12
    replace hb0 := hb0.below k12
    replace qx := qx.below k12
    replace qy := qy.below k12
    replace qd := qd.below k12
    replace qw := qw.below k12
    replace qs := qs.below k12
    replace qt := qt.below k12
    replace qu := qu.below k12
    replace htab := tab_keep htab k12
    have K12 := bth K11 k12
    clear K11
    clear k12
    go_wp2_with fail
    refine (rlimbs_calls (qw.arg ldv (by omega)) ldv (by omega)).mono ?_
    rintro e w13 ⟨u2, rfl, qu2, k13⟩
    replace ha0 := ha0.below k13
    replace hb0 := hb0.below k13
    replace qx := qx.below k13
    replace qy := qy.below k13
    replace qd := qd.below k13
    replace qw := qw.below k13
    replace qs := qs.below k13
    replace qt := qt.below k13
    replace qu := qu.below k13
    replace htab := tab_keep htab k13
    have K13 := bth K12 k13
    clear K12
    clear k13
    go_wp2_with fail
    refine (words_resW qd.weak qu2 rfl).mono ?_
    rintro e w14 ⟨rfl, k14⟩
    replace ha0 := ha0.below k14
    replace hb0 := hb0.below k14
    replace qx := qx.below k14
    replace qy := qy.below k14
    replace qd := qd.below k14
    replace qw := qw.below k14
    replace qs := qs.below k14
    replace qt := qt.below k14
    replace qu := qu.below k14
    replace qu2 := qu2.below k14
    replace htab := tab_keep htab k14
    have K14 := bth K13 k14
    clear K13
    clear k14
    go_wp2_with fail
    refine (norm_res (show Arg _ _ (val R xs) from ⟨xs, ha0, by omega, rfl⟩)).mono ?_
    rintro e w15 ⟨nv, rfl, qn, k15⟩
    replace ha0 := ha0.below k15
    replace hb0 := hb0.below k15
    replace qx := qx.below k15
    replace qy := qy.below k15
    replace qd := qd.below k15
    replace qw := qw.below k15
    replace qs := qs.below k15
    replace qt := qt.below k15
    replace qu := qu.below k15
    replace qu2 := qu2.below k15
    replace htab := tab_keep htab k15
    have K15 := bth K14 k15
    clear K14
    clear k15
    go_wp2_with fail
    refine (rlimbs_calls (qx.arg la10 (by omega)) la10 (by omega)).mono ?_
    rintro e w16 ⟨u3, rfl, qu3, k16⟩
    replace ha0 := ha0.below k16
    replace hb0 := hb0.below k16
    replace qx := qx.below k16
    replace qy := qy.below k16
    replace qd := qd.below k16
    replace qw := qw.below k16
    replace qs := qs.below k16
    replace qt := qt.below k16
    replace qu := qu.below k16
    replace qu2 := qu2.below k16
    replace qn := qn.below k16
    replace htab := tab_keep htab k16
    have K16 := bth K15 k16
    clear K15
    clear k16
    go_wp2_with fail
    refine (words_resW qn.weak qu3 rfl).mono ?_
    rintro e w17 ⟨rfl, k17⟩
    replace ha0 := ha0.below k17
    replace hb0 := hb0.below k17
    replace qx := qx.below k17
    replace qy := qy.below k17
    replace qd := qd.below k17
    replace qw := qw.below k17
    replace qs := qs.below k17
    replace qt := qt.below k17
    replace qu := qu.below k17
    replace qu2 := qu2.below k17
    replace qn := qn.below k17
    replace qu3 := qu3.below k17
    replace htab := tab_keep htab k17
    have K17 := bth K16 k17
    clear K16
    clear k17
    go_wp2_with fail
    refine (isZero_res (show Arg _ _ (val R xs) from ⟨xs, ha0, by omega, rfl⟩)).mono ?_
    rintro e w18 ⟨rfl, k18⟩
    replace ha0 := ha0.below k18
    replace hb0 := hb0.below k18
    replace qx := qx.below k18
    replace qy := qy.below k18
    replace qd := qd.below k18
    replace qw := qw.below k18
    replace qs := qs.below k18
    replace qt := qt.below k18
    replace qu := qu.below k18
    replace qu2 := qu2.below k18
    replace qn := qn.below k18
    replace qu3 := qu3.below k18
    replace htab := tab_keep htab k18
    have K18 := bth K17 k18
    clear K17
    clear k18
    have hLz := HLz.out
    go_wp2
    go_ret
    exact ⟨rfl, K18⟩
  · have ldv : 0 < 10 ^ 120 := by omega
    go_enter Tryd.func3, Tryd.ntmps3
    go_wp2_with fail
    refine (from_res ha0 (by omega)).mono ?_
    rintro e w1 ⟨x, rfl, qx, k1⟩
    replace ha0 := ha0.below k1
    replace hb0 := hb0.below k1
    replace htab := tab_keep htab k1
    have K1 := k1
    clear k1
    obtain ⟨xo, L, xc, rfl, hL⟩ := qx.shape
    have hLz : ((L : Int) == 0) = decide (val R xs = 0) := by
      by_cases h0 : val R xs = 0
      · rw [hL.2 h0]; simp [h0]
      · have : L ≠ 0 := fun e => h0 (hL.1 e)
        simp [h0]; omega
    have HLz := hide hLz
    clear hLz hL
    go_wp2_with fail
    refine (from_res hb0 (by omega)).mono ?_
    rintro e w2 ⟨y, rfl, qy, k2⟩
    replace ha0 := ha0.below k2
    replace hb0 := hb0.below k2
    replace qx := qx.below k2
    replace htab := tab_keep htab k2
    have K2 := bth K1 k2
    clear K1
    clear k2
    go_wp2_with fail
    refine (sub_less (show Arg _ _ (val R xs) from ⟨xs, ha0, by omega, rfl⟩) (show Arg _ _ (val R ys) from ⟨ys, hb0, by omega, rfl⟩) (by omega)).mono ?_
    rintro e w3 ⟨rfl, k3⟩
    replace ha0 := ha0.below k3
    replace hb0 := hb0.below k3
    replace qx := qx.below k3
    replace qy := qy.below k3
    replace htab := tab_keep htab k3
    have K3 := bth K2 k3
    clear K2
    clear k3
    have qd := Res.nil w3
    go_wp2_with fail
    have kA := bel1 w3 (.cells #[] 3)
    replace ha0 := ha0.below kA
    replace hb0 := hb0.below kA
    replace qx := qx.below kA
    replace qy := qy.below kA
    replace qd := qd.below kA
    replace htab := tab_keep htab kA
    have KA := bth K3 kA
    clear K3 kA
    refine (rcmp_calls (qx.arg la10 (by omega)) (qy.arg lb10 (by omega))).mono ?_
    rintro e w4 ⟨rfl, k4⟩
    have hcg : ¬ cmpI (val R xs : Int) (val R ys : Int) ≥ 0 := cmpI_not_ge (by omega)
    replace ha0 := ha0.below k4
    replace hb0 := hb0.below k4
    replace qx := qx.below k4
    replace qy := qy.below k4
    replace qd := qd.below k4
    replace htab := tab_keep htab k4
    have K4 := bth KA k4
    clear KA k4
    go_wp2_with fail
    have qw := RRes.empty w4 (some ⟨w3.heap.size, 0, none⟩) 0
    refine (counted_calls _ htab).mono ?_
    rintro e w5 ⟨rfl, k5⟩
    replace ha0 := ha0.below k5
    replace hb0 := hb0.below k5
    replace qx := qx.below k5
    replace qy := qy.below k5
    replace qd := qd.below k5
    replace qw := qw.below k5
    replace htab := tab_keep htab k5
    have K5 := bth K4 k5
    clear K4
    clear k5
    go_wp2_with fail
    refine (add_res (show Arg _ _ (val R xs) from ⟨xs, ha0, by omega, rfl⟩) (show Arg _ _ (val R ys) from ⟨ys, hb0, by omega, rfl⟩)).mono ?_
    rintro e w6 ⟨s, rfl, qs, k6⟩
    replace ha0 := ha0.below k6
    replace hb0 := hb0.below k6
    replace qx := qx.below k6
    replace qy := qy.below k6
    replace qd := qd.below k6
    replace qw := qw.below k6
    replace htab := tab_keep htab k6
    have K6 := bth K5 k6
    clear K5
    clear k6
    go_wp2_with fail
    refine (add_rres (qx.arg la10 (by omega)) (qy.arg lb10 (by omega))).mono ?_
    rintro e w7 ⟨t, rfl, qt, k7⟩
    replace ha0 := ha0.below k7
    replace hb0 := hb0.below k7
    replace qx := qx.below k7
    replace qy := qy.below k7
    replace qd := qd.below k7
    replace qw := qw.below k7
    replace qs := qs.below k7
    replace htab := tab_keep htab k7
    have K7 := bth K6 k7
    clear K6
    clear k7
    go_wp2_with fail
    refine (rlimbs_calls (qt.arg lab (by omega)) lab (by omega)).mono ?_
    rintro e w8 ⟨u, rfl, qu, k8⟩
    replace ha0 := ha0.below k8
    replace hb0 := hb0.below k8
    replace qx := qx.below k8
    replace qy := qy.below k8
    replace qd := qd.below k8
    replace qw := qw.below k8
    replace qs := qs.below k8
    replace qt := qt.below k8
    replace htab := tab_keep htab k8
    have K8 := bth K7 k8
    clear K7
    clear k8
    go_wp2_with fail
    refine (words_resW qs.weak qu rfl).mono ?_
    rintro e w9 ⟨rfl, k9⟩
    replace ha0 := ha0.below k9
    replace hb0 := hb0.below k9
    replace qx := qx.below k9
    replace qy := qy.below k9
    replace qd := qd.below k9
    replace qw := qw.below k9
    replace qs := qs.below k9
    replace qt := qt.below k9
    replace qu := qu.below k9
    replace htab := tab_keep htab k9
    have K9 := bth K8 k9
    clear K8
    clear k9
    go_wp2_with fail
    refine (cmp_res (show Arg _ _ (val R xs) from ⟨xs, ha0, by omega, rfl⟩) (show Arg _ _ (val R ys) from ⟨ys, hb0, by omega, rfl⟩)).mono ?_
    rintro e w10 ⟨rfl, k10⟩
    replace ha0 := ha0.below k10
    replace hb0 := hb0.below k10
    replace qx := qx.below k10
    replace qy := qy.below k10
    replace qd := qd.below k10
    replace qw := qw.below k10
    replace qs := qs.below k10
    replace qt := qt.below k10
    replace qu := qu.below k10
    replace htab := tab_keep htab k10
    have K10 := bth K9 k10
    clear K9
    clear k10
    go_wp2_with fail
    refine (rcmp_calls (qx.arg la10 (by omega)) (qy.arg lb10 (by omega))).mono ?_
    rintro e w11 ⟨rfl, k11⟩
    replace ha0 := ha0.below k11
    replace hb0 := hb0.below k11
    replace qx := qx.below k11
    replace qy := qy.below k11
    replace qd := qd.below k11
    replace qw := qw.below k11
    replace qs := qs.below k11
    replace qt := qt.below k11
    replace qu := qu.below k11
    replace htab := tab_keep htab k11
    have K11 := bth K10 k11
    clear K10
    clear k11
    go_wp2_with fail
    refine (rlimbs_calls (qw.arg ldv (by omega)) ldv (by omega)).mono ?_
    rintro e w12 ⟨u2, rfl, qu2, k12⟩
    replace ha0 := ha0.below k12
    replace hb0 := hb0.below k12
    replace qx := qx.below k12
    replace qy := qy.below k12
    replace qd := qd.below k12
    replace qw := qw.below k12
    replace qs := qs.below k12
    replace qt := qt.below k12
    replace qu := qu.below k12
    replace htab := tab_keep htab k12
    have K12 := bth K11 k12
    clear K11
    clear k12
    go_wp2_with fail
    refine (words_resW qd.weak qu2 rfl).mono ?_
    rintro e w13 ⟨rfl, k13⟩
    replace ha0 := ha0.below k13
    replace hb0 := hb0.below k13
    replace qx := qx.below k13
    replace qy := qy.below k13
    replace qd := qd.below k13
    replace qw := qw.below k13
    replace qs := qs.below k13
    replace qt := qt.below k13
    replace qu := qu.below k13
    replace qu2 := qu2.below k13
    replace htab := tab_keep htab k13
    have K13 := bth K12 k13
    clear K12
    clear k13
    go_wp2_with fail
    refine (norm_res (show Arg _ _ (val R xs) from ⟨xs, ha0, by omega, rfl⟩)).mono ?_
    rintro e w14 ⟨nv, rfl, qn, k14⟩
    replace ha0 := ha0.below k14
    replace hb0 := hb0.below k14
    replace qx := qx.below k14
    replace qy := qy.below k14
    replace qd := qd.below k14
    replace qw := qw.below k14
    replace qs := qs.below k14
    replace qt := qt.below k14
    replace qu := qu.below k14
    replace qu2 := qu2.below k14
    replace htab := tab_keep htab k14
    have K14 := bth K13 k14
    clear K13
    clear k14
    go_wp2_with fail
    refine (rlimbs_calls (qx.arg la10 (by omega)) la10 (by omega)).mono ?_
    rintro e w15 ⟨u3, rfl, qu3, k15⟩
    replace ha0 := ha0.below k15
    replace hb0 := hb0.below k15
    replace qx := qx.below k15
    replace qy := qy.below k15
    replace qd := qd.below k15
    replace qw := qw.below k15
    replace qs := qs.below k15
    replace qt := qt.below k15
    replace qu := qu.below k15
    replace qu2 := qu2.below k15
    replace qn := qn.below k15
    replace htab := tab_keep htab k15
    have K15 := bth K14 k15
    clear K14
    clear k15
    go_wp2_with fail
    refine (words_resW qn.weak qu3 rfl).mono ?_
    rintro e w16 ⟨rfl, k16⟩
    replace ha0 := ha0.below k16
    replace hb0 := hb0.below k16
    replace qx := qx.below k16
    replace qy := qy.below k16
    replace qd := qd.below k16
    replace qw := qw.below k16
    replace qs := qs.below k16
    replace qt := qt.below k16
    replace qu := qu.below k16
    replace qu2 := qu2.below k16
    replace qn := qn.below k16
    replace qu3 := qu3.below k16
    replace htab := tab_keep htab k16
    have K16 := bth K15 k16
    clear K15
    clear k16
    go_wp2_with fail
    refine (isZero_res (show Arg _ _ (val R xs) from ⟨xs, ha0, by omega, rfl⟩)).mono ?_
    rintro e w17 ⟨rfl, k17⟩
    replace ha0 := ha0.below k17
    replace hb0 := hb0.below k17
    replace qx := qx.below k17
    replace qy := qy.below k17
    replace qd := qd.below k17
    replace qw := qw.below k17
    replace qs := qs.below k17
    replace qt := qt.below k17
    replace qu := qu.below k17
    replace qu2 := qu2.below k17
    replace qn := qn.below k17
    replace qu3 := qu3.below k17
    replace htab := tab_keep htab k17
    have K17 := bth K16 k17
    clear K16
    clear k17
    have hLz := HLz.out
    go_wp2
    go_ret
    exact ⟨rfl, K17⟩

end Go.Proofs.YtgijacdjmmhglaaDoor
