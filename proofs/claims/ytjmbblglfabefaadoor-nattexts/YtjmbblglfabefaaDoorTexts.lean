/- The law NatTexts: the walk. -/
import Derived.Test.YtjmbblglfabefaaDoorFrom1
import Derived.Test.YtjmbblglfabefaaDoorParse
import Derived.Test.YtjmbblglfabefaaDoorRShow
namespace Go.Proofs.YtjmbblglfabefaaDoor
set_option linter.unusedVariables false
set_option linter.unusedSimpArgs false
open Go Go.RowKit Go.Shelf Go.Lib

/-- Both read the same number, or none. -/
theorem both_parse (s : ByteArray) (hs : s.size ≤ 120) : ∃ (N : Nat) (c : Int), N < 10 ^ 120 ∧
    (∀ w, Calls Tryd.prog 17 #[.string s] w fun e w' => ∃ rv, e = .returned (.tuple #[rv, .int .i64 c]) ∧ ResW w' rv N ∧ Below w.heap.size w w') ∧
    (∀ w, Calls Tryd.prog 18 #[.string s] w fun e w' => ∃ rv, e = .returned (.tuple #[rv, .int .i64 c]) ∧ RRes w' rv N ∧ Below w.heap.size w w') := by
  by_cases h : IsNum (bl s)
  · refine ⟨gval (bl s), 0, ?_, fun w => ?_, fun w => ?_⟩
    · refine Nat.lt_of_lt_of_le (gval_lt h.2.2) (Nat.pow_le_pow_right (by decide) ?_)
      rw [bl_length]
      exact hs
    · refine (parse_calls s w (by omega)).mono ?_
      rintro e w' ⟨_, h2, h3⟩
      obtain ⟨rv, rfl, hr⟩ := h2 h
      exact ⟨rv, rfl, hr, h3⟩
    · refine (rparse_calls s w (by omega)).mono ?_
      rintro e w' ⟨_, h2, h3⟩
      obtain ⟨rv, rfl, hr⟩ := h2 h
      exact ⟨rv, rfl, hr, h3⟩
  · refine ⟨0, 6, Nat.pow_pos (by decide), fun w => ?_, fun w => ?_⟩
    · refine (parse_calls s w (by omega)).mono ?_
      rintro e w' ⟨h1, _, h3⟩
      exact ⟨_, h1 h, ⟨[], (Limbs.nil w').weak, canon_nil R, rfl⟩, h3⟩
    · refine (rparse_calls s w (by omega)).mono ?_
      rintro e w' ⟨h1, _, h3⟩
      exact ⟨_, h1 h, RRes.nil w', h3⟩

theorem u64_lt : (18446744073709551616 : Nat) < 10 ^ 120 := by decide

theorem lit_u64 {n : Int} (h : (Lit.int .u64 n).wf = true) : 0 ≤ n ∧ n < 18446744073709551616 := by
  simp [Lit.wf, IntKind.min, IntKind.max, IntKind.signed, IntKind.bits] at h
  omega

set_option maxRecDepth 100000 in
set_option maxHeartbeats 1000000 in
theorem texts_calls (w : World) (sa : Value) (s : ByteArray) (n : Int) (xs : List Nat) (ha0 : Limbs w sa xs) (hs0 : s.size ≤ maxLen) (hn0 : (Lit.int .u64 n).wf = true) (htab : TabIs Tryd.prog w "internal/strconv.uint64pow10" .u64 pow10Tab) :
    Calls Tryd.prog 5 #[sa, .string s, .int .u64 n] w fun e w' => e = .returned (.bool true) ∧ Below w.heap.size w w' := by
  obtain ⟨aa, ca, rfl⟩ := ha0.len
  obtain ⟨hn1, hn2⟩ := lit_u64 hn0
  clear hn0
  obtain ⟨m, rfl⟩ : ∃ m : Nat, n = (m : Int) := ⟨n.toNat, by omega⟩
  by_cases h1 : xs.length > 12
  · have d1 : decide ((xs.length : Int) > 12) = true := decide_eq_true (by omega)
    go_enter Tryd.func5, Tryd.ntmps5
    go_wp2_with fail
    refine (counted_calls _ htab).mono ?_
    rintro e w1 ⟨rfl, k1⟩
    go_wp2
    go_ret
    exact ⟨rfl, k1⟩
  have d1 : decide ((xs.length : Int) > 12) = false := decide_eq_false (by omega)
  by_cases h2 : s.size > 120
  · have d2 : decide ((s.size : Int) > 120) = true := decide_eq_true (by omega)
    go_enter Tryd.func5, Tryd.ntmps5
    go_wp2_with fail
    refine (counted_calls _ htab).mono ?_
    rintro e w1 ⟨rfl, k1⟩
    go_wp2
    go_ret
    exact ⟨rfl, k1⟩
  have d2 : decide ((s.size : Int) > 120) = false := decide_eq_false (by omega)
  obtain ⟨N, c, hN, hp, hr⟩ := both_parse s (by omega)
  have Hp := hide hp
  have Hr := hide hr
  have la := lt120 ha0.small (by omega)
  clear hp hr
  go_enter Tryd.func5, Tryd.ntmps5
  go_wp2_with fail
  refine (Hp.out _).mono ?_
  rintro e w1 ⟨v1, rfl, q1, k1⟩
  replace ha0 := ha0.below k1
  go_wp2_with fail
  refine (Hr.out _).mono ?_
  rintro e w2 ⟨v2, rfl, q2, k2⟩
  replace ha0 := ha0.below k2
  replace q1 := q1.below k2
  go_wp2_with fail
  refine (counted_calls _ (tab_keep (tab_keep htab k1) k2)).mono ?_
  rintro e w3 ⟨rfl, k3⟩
  replace ha0 := ha0.below k3
  replace q1 := q1.below k3
  replace q2 := q2.below k3
  go_wp2_with fail
  refine (text_calls _ _ xs ha0 (by omega) (tab_keep (tab_keep (tab_keep htab k1) k2) k3)).mono ?_
  rintro e w4 ⟨rfl, k4⟩
  rw [textOf_eq]
  replace ha0 := ha0.below k4
  replace q1 := q1.below k4
  replace q2 := q2.below k4
  go_wp2_with fail
  refine (from_res ha0 (by omega)).mono ?_
  rintro e w5 ⟨x, rfl, qx, k5⟩
  replace q1 := q1.below k5
  replace q2 := q2.below k5
  go_wp2_with fail
  refine (rtext_calls (qx.arg la (by omega))).mono ?_
  rintro e w6 ⟨rfl, k6⟩
  replace q1 := q1.below k6
  replace q2 := q2.below k6
  go_wp2_with fail
  refine (rlimbs_calls (q2.arg hN (by omega)) hN (by omega)).mono ?_
  rintro e w7 ⟨u, rfl, qu, k7⟩
  replace q1 := q1.below k7
  go_wp2_with fail
  refine (words_resW q1 qu rfl).mono ?_
  rintro e w8 ⟨rfl, k8⟩
  go_wp2_with fail
  refine (of_calls _ m (by omega)).mono ?_
  rintro e w9 ⟨v3, rfl, q3, k9⟩
  have q3' := q3.res.weak
  clear q3
  go_wp2_with fail
  refine (rsmall_calls _ m (by omega)).mono ?_
  rintro e w10 ⟨v4, rfl, q4, k10⟩
  replace q3' := q3'.below k10
  have lm : m < 10 ^ 120 := Nat.lt_trans (by omega) u64_lt
  go_wp2_with fail
  refine (rlimbs_calls (q4.arg lm (by omega)) lm (by omega)).mono ?_
  rintro e w11 ⟨u2, rfl, qu2, k11⟩
  replace q3' := q3'.below k11
  go_wp2_with fail
  refine (words_resW q3' qu2 rfl).mono ?_
  rintro e w12 ⟨rfl, k12⟩
  go_wp2
  go_ret
  exact ⟨rfl, bth (bth (bth (bth (bth (bth (bth (bth (bth (bth (bth k1 k2) k3) k4) k5) k6) k7) k8) k9) k10) k11) k12⟩

end Go.Proofs.YtjmbblglfabefaaDoor
