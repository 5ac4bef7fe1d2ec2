/- The contracts of Of and Cmp of numbers with a sign. -/
import Derived.Test.YtkdhcpfmlelfcaaGreatDoorBigOps
import Derived.Test.YtkdhcpfmlelfcaaGreatDoorRBase
namespace Go.Proofs.YtkdhcpfmlelfcaaGreatDoor
set_option linter.unusedVariables false
set_option linter.unusedSimpArgs false
set_option maxRecDepth 100000
open Go Go.RowKit Go.Shelf Go.Lib

theorem of_res (w : World) (n : Nat) (hn : n < 18446744073709551616) :
    Calls Tryz.prog 82 #[.int .u64 (n : Int)] w fun e w' => ∃ rv, e = .returned rv ∧ Res w' rv n ∧ Below w.heap.size w w' := by
  refine (of_calls w n hn).mono ?_
  rintro e w' ⟨rv, rfl, hA, hb⟩
  exact ⟨rv, rfl, hA.res, hb⟩

set_option maxHeartbeats 1000000 in
theorem bof_calls (w : World) (z : Int) (h1 : -9223372036854775808 ≤ z) (h2 : z ≤ 9223372036854775807) :
    Calls Tryz.prog 46 #[.int .i64 z] w fun e w' => ∃ rv, e = .returned rv ∧ BRes w' rv z ∧ Below w.heap.size w w' := by
  have T0 := hide (Two.new w (.bool false) (.slice none 0 0) 24)
  have HB := hide (bel w (.cells #[.bool false, .slice none 0 0] 24))
  by_cases hz : z < 0
  · obtain ⟨n, rfl⟩ : ∃ n : Nat, z = -(n : Int) := ⟨z.natAbs, by omega⟩
    have hw1 : IntKind.u64.wrap (-(n : Int)) = 18446744073709551616 - (n : Int) := by
      rw [IntKind.wrap_u64]; omega
    have hw2 : IntKind.u64.wrap (-(18446744073709551616 - (n : Int))) = (n : Int) := by
      rw [IntKind.wrap_u64]; omega
    have hn : n < 18446744073709551616 := by omega
    go_enter Tryz.func46, Tryz.ntmps46
    go_wp2_with fail
    refine (of_res _ n hn).mono ?_
    rintro e w1 ⟨r1, rfl, q1, hb1⟩
    have T1' := hide (T0.out.keep hb1)
    have HB1 := hide (bafter HB.out hb1 (Nat.le_refl _))
    clear hb1
    go_wp2_with fail
    refine (signed_calls q1).mono ?_
    rintro e w2 ⟨r2, rfl, q2, hb2⟩
    obtain ⟨b2, a2, L2, k2, rfl⟩ := q2.form
    have TZ := T1'.out.keep hb2
    have KZ := bafter HB1.out hb2 (Nat.le_refl _)
    have d0 := TZ.c0
    have d1 := TZ.c1
    have f0 := TZ.f0 0
    have f1 := TZ.f0 1
    have TZ' := hide TZ
    have KZ' := hide KZ
    clear TZ KZ hb2
    go_wp2
    refine bodyPost_ret (results_big rfl rfl (TZ'.out.put _ _)) rfl ?_
    exact ⟨_, rfl, q2.put TZ'.out _ _, below_put KZ'.out (by omega) _ _⟩
  · obtain ⟨n, rfl⟩ : ∃ n : Nat, z = (n : Int) := ⟨z.natAbs, by omega⟩
    have hw1 := wrap64_nat (n := n) (by omega)
    have hn : n < 18446744073709551616 := by omega
    go_enter Tryz.func46, Tryz.ntmps46
    go_wp2_with fail
    refine (of_res _ n hn).mono ?_
    rintro e w1 ⟨r1, rfl, q1, hb1⟩
    have T1' := hide (T0.out.keep hb1)
    have HB1 := hide (bafter HB.out hb1 (Nat.le_refl _))
    clear hb1
    go_wp2_with fail
    refine (signed_calls q1).mono ?_
    rintro e w2 ⟨r2, rfl, q2, hb2⟩
    obtain ⟨b2, a2, L2, k2, rfl⟩ := q2.form
    have TZ := T1'.out.keep hb2
    have KZ := bafter HB1.out hb2 (Nat.le_refl _)
    have d0 := TZ.c0
    have d1 := TZ.c1
    have f0 := TZ.f0 0
    have f1 := TZ.f0 1
    have TZ' := hide TZ
    have KZ' := hide KZ
    clear TZ KZ hb2
    go_wp2
    refine bodyPost_ret (results_big rfl rfl (TZ'.out.put _ _)) rfl ?_
    exact ⟨_, rfl, q2.put TZ'.out _ _, below_put KZ'.out (by omega) _ _⟩

theorem sg_neg {z : Int} (h : z < 0) : sg z = -1 := by unfold sg; rw [if_pos h]
theorem sg_pos {z : Int} (h : 0 < z) : sg z = 1 := by unfold sg; rw [if_neg (by omega), if_neg (by omega)]
theorem sg_zero : sg 0 = 0 := rfl

theorem cmp_sg {x y : Int} (h : sg x ≠ sg y) : cmpI (sg x) (sg y) = cmpI x y := by
  unfold sg cmpI at *
  split at h <;> (try split at h) <;> split <;> (try split) <;> (try split) <;> (try split) <;> (try split) <;> omega

theorem cmp_both_neg {na nb : Bool} {m n : Nat} (h : sgn na m < 0) (k : sgn nb n < 0) : cmpI (n : Int) (m : Int) = cmpI (sgn na m) (sgn nb n) := by
  unfold sgn cmpI at *
  cases na <;> cases nb <;> simp at h k ⊢ <;> split <;> (try split) <;> (try split) <;> (try split) <;> omega

theorem cmp_both_pos {na nb : Bool} {m n : Nat} (h : ¬ sgn na m < 0) (k : ¬ sgn nb n < 0) : cmpI (m : Int) (n : Int) = cmpI (sgn na m) (sgn nb n) := by
  unfold sgn cmpI at *
  cases na <;> cases nb <;> simp at h k ⊢ <;> split <;> (try split) <;> (try split) <;> (try split) <;> omega

set_option maxHeartbeats 2000000 in
theorem bcmp_calls {w : World} {u v : Value} {x y : Int} (hu : BArg w u x) (hv : BArg w v y) :
    Calls Tryz.prog 41 #[u, v] w fun e w' => e = .returned (.int .i64 (cmpI x y)) ∧ Below w.heap.size w w' := by
  obtain ⟨na, mu, m, rfl, hm, hx⟩ := hu
  obtain ⟨nb, mv, n, rfl, hn, hy⟩ := hv
  obtain ⟨a, L, c, rfl⟩ := hm.shape
  obtain ⟨b, M, d, rfl⟩ := hn.shape
  obtain ⟨t0, t1, hb⟩ := boxes2 w (.bool na) (.slice a L c) (.bool nb) (.slice b M d) 24
  have T0 := hide t0.drew
  have T1 := hide t1.drew
  have HB := hide hb.drew
  have Ha := hide (show BArg _ (.agg #[.bool na, .slice a L c]) x from ⟨na, _, m, rfl, hm.below hb.drew, hx⟩)
  have Hb := hide (show BArg _ (.agg #[.bool nb, .slice b M d]) y from ⟨nb, _, n, rfl, hn.below hb.drew, hy⟩)
  have Hm := hide (hm.below hb.drew)
  have Hn := hide (hn.below hb.drew)
  have Hx := hide hx
  have Hy := hide hy
  clear hm hn t0 t1 hb hx hy
  go_enter Tryz.func41, Tryz.ntmps41
  go_wp2
  go_region_held3 (fun w' => w'.cell? ⟨w.heap.size, 0, none⟩ = some (.bool na) ∧ w'.cell? ⟨w.heap.size, 1, none⟩ = some (.slice a L c) ∧ w'.cell? ⟨w.heap.size + 1, 0, none⟩ = some (.bool nb) ∧ w'.cell? ⟨w.heap.size + 1, 1, none⟩ = some (.slice b M d)) (go_keep)
    (first
      | (go_at_call 61; refine (sign_calls (v := .agg #[.bool nb, .slice b M d]) (Hb.out.below hb1)).mono ?_; rintro e w2 ⟨rfl, hb2⟩; have c0' := ((T0.out.keep hb1).keep hb2).c0; have c1' := ((T0.out.keep hb1).keep hb2).c1; have c2' := ((T1.out.keep hb1).keep hb2).c0; have c3' := ((T1.out.keep hb1).keep hb2).c1)
      | (go_at_call 61; refine (sign_calls (v := .agg #[.bool na, .slice a L c]) Ha.out).mono ?_; rintro e w1 ⟨rfl, hb1⟩; have c0 := (T0.out.keep hb1).c0; have c1 := (T0.out.keep hb1).c1; have c2 := (T1.out.keep hb1).c0; have c3 := (T1.out.keep hb1).c1))
  have U0 := hide ((T0.out.keep hb1).keep hb2).drew
  have U1 := hide ((T1.out.keep hb1).keep hb2).drew
  have KU := hide (bafter (bafter HB.out hb1 (Nat.le_refl _)) hb2 (Nat.le_refl _)).drew
  have Ua := hide (((Ha.out.below hb1).below hb2).drew)
  have Ub := hide (((Hb.out.below hb1).below hb2).drew)
  have Um := hide ((Hm.out.below hb1).below hb2)
  have Un := hide ((Hn.out.below hb1).below hb2)
  have V0 := hide ((T0.out.keep hb1).keep hb2)
  have V1 := hide ((T1.out.keep hb1).keep hb2)
  have KV := hide (bafter (bafter HB.out hb1 (Nat.le_refl _)) hb2 (Nat.le_refl _))
  have Va := hide ((Ha.out.below hb1).below hb2)
  clear T0 T1 HB Ha Hb Hm Hn c0 c1 c2 c3 hb1 hb2
  by_cases hne : sg x = sg y
  · have hne' : (sg x != sg y) = false := by simp [hne]
    have Hne := hide hne
    clear hne
    go_wp2_with fail
    refine (sign_calls Va.out).mono ?_
    rintro e w3 ⟨rfl, hb3⟩
    have e0 := (V0.out.keep hb3).c1
    have e1 := (V1.out.keep hb3).c1
    by_cases hx0 : x < 0
    · have hy0 : y < 0 := by
        have h1 := Hne.out
        rw [sg_neg hx0] at h1
        unfold sg at h1
        split at h1
        · assumption
        · split at h1 <;> omega
      have hs : sg x = -1 := sg_neg hx0
      have Hc : Hid (cmpI (n : Int) (m : Int) = cmpI x y) := by
        show _ = _
        have h1 := hx0
        have h2 := hy0
        rw [Hx.out] at h1
        rw [Hy.out] at h2
        rw [Hx.out, Hy.out]
        exact cmp_both_neg h1 h2
      rw [hs]
      clear hs hx0 hy0 hne'
      go_wp2_with fail
      refine (cmp_res (Un.out.below hb3) (Um.out.below hb3)).mono ?_
      rintro e w4 ⟨rfl, hb4⟩
      rw [Hc.out]
      go_wp2
      go_ret
      exact ⟨rfl, bafter (bafter KV.out hb3 (Nat.le_refl _)) hb4 (Nat.le_refl _)⟩
    · have hy0 : ¬ y < 0 := by
        intro hy
        have h1 := Hne.out
        rw [sg_neg hy] at h1
        unfold sg at h1
        split at h1
        · omega
        · split at h1 <;> omega
      have hs : ¬ sg x < 0 := by
        unfold sg
        rw [if_neg hx0]
        split <;> omega
      have Hc : Hid (cmpI (m : Int) (n : Int) = cmpI x y) := by
        show _ = _
        have h1 := hx0
        have h2 := hy0
        rw [Hx.out] at h1
        rw [Hy.out] at h2
        rw [Hx.out, Hy.out]
        exact cmp_both_pos h1 h2
      clear hx0 hy0 hne'
      go_wp2_with fail
      refine (cmp_res (Um.out.below hb3) (Un.out.below hb3)).mono ?_
      rintro e w4 ⟨rfl, hb4⟩
      rw [Hc.out]
      go_wp2
      go_ret
      exact ⟨rfl, bafter (bafter KV.out hb3 (Nat.le_refl _)) hb4 (Nat.le_refl _)⟩
  · have hne' : (sg x != sg y) = true := by simp [hne]
    have Hc := hide (cmp_sg hne)
    clear hne V0 V1 KV Va Um Un
    go_wp2
    go_region_held3 (fun w' => w'.cell? ⟨w.heap.size, 0, none⟩ = some (.bool na) ∧ w'.cell? ⟨w.heap.size, 1, none⟩ = some (.slice a L c) ∧ w'.cell? ⟨w.heap.size + 1, 0, none⟩ = some (.bool nb) ∧ w'.cell? ⟨w.heap.size + 1, 1, none⟩ = some (.slice b M d)) (go_keep)
      (first
        | (go_at_call 75; refine (compareInt_calls _ _ _).mono ?_; rintro e w5 ⟨rfl, rfl⟩)
        | (go_at_call 61; refine (sign_calls (v := .agg #[.bool nb, .slice b M d]) (Ub.out.below hb3)).mono ?_; rintro e w4 ⟨rfl, hb4⟩; have c0' := ((U0.out.keep hb3).keep hb4).c0; have c1' := ((U0.out.keep hb3).keep hb4).c1; have c2' := ((U1.out.keep hb3).keep hb4).c0; have c3' := ((U1.out.keep hb3).keep hb4).c1)
        | (go_at_call 61; refine (sign_calls (v := .agg #[.bool na, .slice a L c]) Ua.out).mono ?_; rintro e w3 ⟨rfl, hb3⟩; have c0 := (U0.out.keep hb3).c0; have c1 := (U0.out.keep hb3).c1; have c2 := (U1.out.keep hb3).c0; have c3 := (U1.out.keep hb3).c1))
    go_wp2
    go_ret
    refine ⟨?_, bafter (bafter KU.out hb3 (Nat.le_refl _)) hb4 (Nat.le_refl _)⟩
    rw [← Hc.out]
    rfl

end Go.Proofs.YtkdhcpfmlelfcaaGreatDoor
