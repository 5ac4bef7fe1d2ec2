/- The contracts of Of and Cmp of numbers with a sign. -/
import Derived.Test.YtkdhcpfmlelfcaaDoorBigOps
import Derived.Test.YtkdhcpfmlelfcaaDoorRBase
namespace Go.Proofs.YtkdhcpfmlelfcaaDoor
set_option linter.unusedVariables false
set_option linter.unusedSimpArgs false
set_option maxRecDepth 100000
open Go Go.RowKit Go.Shelf Go.Lib

theorem of_res (w : World) (n : Nat) (hn : n < 18446744073709551616) :
    Calls Tryd.prog 28 #[.int .u64 (n : Int)] w fun e w' => ∃ rv, e = .returned rv ∧ Res w' rv n ∧ Below w.heap.size w w' := by
  refine (of_calls w n hn).mono ?_
  rintro e w' ⟨rv, rfl, hA, hb⟩
  exact ⟨rv, rfl, hA.res, hb⟩

set_option maxHeartbeats 1000000 in
theorem bof_calls (w : World) (z : Int) (h1 : -9223372036854775808 ≤ z) (h2 : z ≤ 9223372036854775807) :
    Calls Tryd.prog 12 #[.int .i64 z] w fun e w' => ∃ rv, e = .returned rv ∧ BRes w' rv z ∧ Below w.heap.size w w' := by
  have T0 := hide (Two.new w (.bool false) (.slice none 0 0) 24)
  have HB := hide (bel w (.cells #[.bool false, .slice none 0 0] 24))
  by_cases hz : z < 0
  · obtain ⟨n, rfl⟩ : ∃ n : Nat, z = -(n : Int) := ⟨z.natAbs, by omega⟩
    have hw1 : IntKind.u64.wrap (-(n : Int)) = 18446744073709551616 - (n : Int) := by
      rw [IntKind.wrap_u64]; omega
    have hw2 : IntKind.u64.wrap (-(18446744073709551616 - (n : Int))) = (n : Int) := by
      rw [IntKind.wrap_u64]; omega
    have hn : n < 18446744073709551616 := by omega
    go_enter Tryd.func12, Tryd.ntmps12
    go_wp2_with fail
    refine (of_res _ n hn).mono ?_
    rintro e w1 ⟨r1, rfl, q1, hb1⟩
    have T1' := hide (T0.out.keep hb1)
    have HB1 := hide (bafter HB.out hb1 (Nat.le_refl _))
    clear hb1
    go_wp2_with fail
    refine (signed_calls q1).mono ?_
    rintro e w2 ⟨r2, rfl, q2, hb2⟩
    obtain ⟨b2, a2, L2, k2, rfl⟩ := q2.form
    have TZ := T1'.out.keep hb2
    have KZ := bafter HB1.out hb2 (Nat.le_refl _)
    have d0 := TZ.c0
    have d1 := TZ.c1
    have f0 := TZ.f0 0
    have f1 := TZ.f0 1
    have TZ' := hide TZ
    have KZ' := hide KZ
    clear TZ KZ hb2
    go_wp2
    refine bodyPost_ret (results_big rfl rfl (TZ'.out.put _ _)) rfl ?_
    exact ⟨_, rfl, q2.put TZ'.out _ _, below_put KZ'.out (by omega) _ _⟩
  · obtain ⟨n, rfl⟩ : ∃ n : Nat, z = (n : Int) := ⟨z.natAbs, by omega⟩
    have hw1 := wrap64_nat (n := n) (by omega)
    have hn : n < 18446744073709551616 := by omega
    go_enter Tryd.func12, Tryd.ntmps12
    go_wp2_with fail
    refine (of_res _ n hn).mono ?_
    rintro e w1 ⟨r1, rfl, q1, hb1⟩
    have T1' := hide (T0.out.keep hb1)
    have HB1 := hide (bafter HB.out hb1 (Nat.le_refl _))
    clear hb1
    go_wp2_with fail
    refine (signed_calls q1).mono ?_
    rintro e w2 ⟨r2, rfl, q2, hb2⟩
    obtain ⟨b2, a2, L2, k2, rfl⟩ := q2.form
    have TZ := T1'.out.keep hb2
    have KZ := bafter HB1.out hb2 (Nat.le_refl _)
    have d0 := TZ.c0
    have d1 := TZ.c1
    have f0 := TZ.f0 0
    have f1 := TZ.f0 1
    have TZ' := hide TZ
    have KZ' := hide KZ
    clear TZ KZ hb2
    go_wp2
    refine bodyPost_ret (results_big rfl rfl (TZ'.out.put _ _)) rfl ?_
    exact ⟨_, rfl, q2.put TZ'.out _ _, below_put KZ'.out (by omega) _ _⟩

theorem sg_neg {z : Int} (h : z < 0) : sg z = -1 := by unfold sg; rw [if_pos h]
theorem sg_pos {z : Int} (h : 0 < z) : sg z = 1 := by unfold sg; rw [if_neg (by omega), if_neg (by omega)]
theorem sg_zero : sg 0 = 0 := rfl

theorem cmp_sg {x y : Int} (h : sg x ≠ sg y) : cmpI (sg x) (sg y) = cmpI x y := by
  unfold sg cmpI at *
  split at h <;> (try split at h) <;> split <;> (try split) <;> (try split) <;> (try split) <;> (try split) <;> omega

theorem cmp_both_neg {na nb : Bool} {m n : Nat} (h : sgn na m < 0) (k : sgn nb n < 0) : cmpI (n : Int) (m : Int) = cmpI (sgn na m) (sgn nb n) := by
  unfold sgn cmpI at *
  cases na <;> cases nb <;> simp at h k ⊢ <;> split <;> (try split) <;> (try split) <;> (try split) <;> omega

theorem cmp_both_pos {na nb : Bool} {m n : Nat} (h : ¬ sgn na m < 0) (k : ¬ sgn nb n < 0) : cmpI (m : Int) (n : Int) = cmpI (sgn na m) (sgn nb n) := by
  unfold sgn cmpI at *
  cases na <;> cases nb <;> simp at h k ⊢ <;> split <;> (try split) <;> (try split) <;> (try split) <;> omega

end Go.Proofs.YtkdhcpfmlelfcaaDoor
