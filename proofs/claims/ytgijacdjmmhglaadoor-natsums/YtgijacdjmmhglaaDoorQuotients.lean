/- The law NatQuotients: the walk. -/
import Derived.Test.YtgijacdjmmhglaaDoorProducts
import Derived.Test.YtgijacdjmmhglaaDoorUndoes
namespace Go.Proofs.YtgijacdjmmhglaaDoor
set_option linter.unusedVariables false
set_option linter.unusedSimpArgs false
open Go Go.RowKit Go.Shelf Go.Lib

theorem divMod_zero {w : World} {sv tv : Value} {xs ys : List Nat} (h1 : Limbs w sv xs) (k1 : Limbs w tv ys) (h2 : xs.length ≤ 1048576) (k2 : ys.length ≤ 1048576) (h : val R ys = 0) :
    Calls Tryd.prog 23 #[sv, tv] w fun e w' => e = .returned (.tuple #[.slice none 0 0, .slice none 0 0, .int .i64 4]) ∧ Below w.heap.size w w' := by
  refine (divMod_calls w sv tv xs ys h1 k1 h2 k2).mono ?_
  rintro e w' ⟨hA, _, hb⟩
  exact ⟨hA h, hb⟩

theorem RRes.shape {W : World} {v : Value} {n : Nat} (h : RRes W v n) : ∃ ao L cap, v = .slice ao L cap ∧ (L = 0 ↔ n = 0) := by
  obtain ⟨ds, hd, hc, rfl⟩ := h
  obtain ⟨ao, cap, rfl⟩ := hd.len
  refine ⟨ao, ds.length, cap, rfl, fun e => by rw [List.eq_nil_of_length_eq_zero e]; rfl, fun e => by rw [hc.val_zero ten_pos e]; rfl⟩

set_option maxRecDepth 100000 in
set_option maxHeartbeats 1000000 in
theorem quotients_calls (w : World) (sa sb : Value) (xs ys : List Nat) (ha0 : Limbs w sa xs) (hb0 : Limbs w sb ys) (htab : TabIs Tryd.prog w "internal/strconv.uint64pow10" .u64 pow10Tab) :
    Calls Tryd.prog 5 #[sa, sb] w fun e w' => e = .returned (.bool true) ∧ Below w.heap.size w w' := by
  obtain ⟨aa, ca, rfl⟩ := ha0.len
  obtain ⟨ab, cb, rfl⟩ := hb0.len
  by_cases h1 : xs.length > 12
  · have d1 : decide ((xs.length : Int) > 12) = true := decide_eq_true (by omega)
    go_enter Tryd.func5, Tryd.ntmps5
    go_wp2_with fail
    refine (counted_calls _ htab).mono ?_
    rintro e w1 ⟨rfl, k1⟩
    go_wp2
    go_ret
    exact ⟨rfl, k1⟩
  have d1 : decide ((xs.length : Int) > 12) = false := decide_eq_false (by omega)
  by_cases h2 : ys.length > 12
  · have d2 : decide ((ys.length : Int) > 12) = true := decide_eq_true (by omega)
    go_enter Tryd.func5, Tryd.ntmps5
    go_wp2_with fail
    refine (counted_calls _ htab).mono ?_
    rintro e w1 ⟨rfl, k1⟩
    go_wp2
    go_ret
    exact ⟨rfl, k1⟩
  have d2 : decide ((ys.length : Int) > 12) = false := decide_eq_false (by omega)
  have la := lt120 ha0.small (by omega)
  have lb := lt120 hb0.small (by omega)
  by_cases hz : val R ys = 0
  · go_enter Tryd.func5, Tryd.ntmps5
    go_wp2_with fail
    refine (divMod_zero ha0 hb0 (by omega) (by omega) hz).mono ?_
    rintro e w1 ⟨rfl, k1⟩
    go_wp2_with fail
    refine (from_res (hb0.below k1) (by omega)).mono ?_
    rintro e w2 ⟨y, rfl, qy, k2⟩
    obtain ⟨yo, L, yc, rfl, hL⟩ := qy.shape
    obtain rfl : L = 0 := hL.2 hz
    clear hL
    go_wp2_with fail
    refine (counted_calls _ (tab_keep (tab_keep htab k1) k2)).mono ?_
    rintro e w3 ⟨rfl, k3⟩
    go_wp2
    go_ret
    exact ⟨rfl, bth (bth k1 k2) k3⟩
  go_enter Tryd.func5, Tryd.ntmps5
  go_wp2_with fail
  refine (divMod_res ⟨xs, ha0, by omega, rfl⟩ ⟨ys, hb0, by omega, rfl⟩ hz).mono ?_
  rintro e w1 ⟨q, r, rfl, qq, qr, k1⟩
  replace ha0 := ha0.below k1
  replace hb0 := hb0.below k1
  go_wp2_with fail
  refine (from_res hb0 (by omega)).mono ?_
  rintro e w2 ⟨y, rfl, qy, k2⟩
  replace ha0 := ha0.below k2
  replace qq := qq.below k2
  replace qr := qr.below k2
  obtain ⟨yo, L, yc, rfl, hL⟩ := qy.shape
  have hL0 : ((L : Int) == 0) = false := by
    have : L ≠ 0 := fun e => hz (hL.1 e)
    simp; omega
  clear hL
  go_wp2_with fail
  refine (from_res ha0 (by omega)).mono ?_
  rintro e w3 ⟨x, rfl, qx, k3⟩
  replace qy := qy.below k3
  replace qq := qq.below k3
  replace qr := qr.below k3
  go_wp2_with fail
  refine (rdivmod_calls (qx.arg la (by omega)) (qy.arg lb (by omega)) hz lb (by omega)).mono ?_
  rintro e w4 ⟨x1, z1, rfl, qx1, qz1, k4⟩
  replace qq := qq.below k4
  replace qr := qr.below k4
  have lx1 : val R xs / val R ys < 10 ^ 120 := Nat.lt_of_le_of_lt (Nat.div_le_self _ _) la
  have lz1 : val R xs % val R ys < 10 ^ 120 := Nat.lt_of_le_of_lt (Nat.mod_le _ _) la
  go_wp2_with fail
  refine (counted_calls _ (tab_keep (tab_keep (tab_keep (tab_keep htab k1) k2) k3) k4)).mono ?_
  rintro e w5 ⟨rfl, k5⟩
  replace qq := qq.below k5
  replace qr := qr.below k5
  have qx5 := qx1.res.below k5
  have qz5 := qz1.res.below k5
  go_wp2_with fail
  refine (rlimbs_calls (qx5.arg lx1 (by omega)) lx1 (by omega)).mono ?_
  rintro e w6 ⟨u, rfl, qu, k6⟩
  replace qq := qq.below k6
  replace qr := qr.below k6
  replace qz5 := qz5.below k6
  go_wp2_with fail
  refine (words_resW qq.weak qu rfl).mono ?_
  rintro e w7 ⟨rfl, k7⟩
  replace qr := qr.below k7
  replace qz5 := qz5.below k7
  go_wp2_with fail
  refine (rlimbs_calls (qz5.arg lz1 (by omega)) lz1 (by omega)).mono ?_
  rintro e w8 ⟨u2, rfl, qu2, k8⟩
  replace qr := qr.below k8
  go_wp2_with fail
  refine (words_resW qr.weak qu2 rfl).mono ?_
  rintro e w9 ⟨rfl, k9⟩
  go_wp2
  go_ret
  exact ⟨rfl, bth (bth (bth (bth (bth (bth (bth (bth k1 k2) k3) k4) k5) k6) k7) k8) k9⟩

end Go.Proofs.YtgijacdjmmhglaaDoor
