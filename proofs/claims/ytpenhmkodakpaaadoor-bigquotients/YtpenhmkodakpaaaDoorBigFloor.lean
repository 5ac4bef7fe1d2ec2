/- The contracts of Floor and Ceil of numbers with a sign. -/
import Derived.Test.YtpenhmkodakpaaaDoorBigText
import Derived.Deep.RegionWith
import Derived.Deep.DeepMust
namespace Go.Proofs.YtpenhmkodakpaaaDoor
set_option linter.unusedVariables false
set_option linter.unusedSimpArgs false
set_option maxRecDepth 100000
open Go Go.RowKit Go.Shelf Go.Lib

theorem sg_posI {z : Int} : sg z > 0 ↔ 0 < z := by
  rcases Int.lt_trichotomy z 0 with h | h | h
  · rw [sg_neg h]; omega
  · subst h; simp [sg]
  · rw [sg_pos h]; omega
theorem sg_negI {z : Int} : sg z < 0 ↔ z < 0 := by
  rcases Int.lt_trichotomy z 0 with h | h | h
  · rw [sg_neg h]; omega
  · subst h; simp [sg]
  · rw [sg_pos h]; omega

/-- The quotient, rounded down. -/
def floorZ (x y : Int) : Int := if y < 0 ∧ 0 < x % y then x / y - 1 else x / y
/-- The quotient, rounded up. -/
def ceilZ (x y : Int) : Int := if 0 < y ∧ 0 < x % y then x / y + 1 else x / y

theorem one_R : (1 : Int).natAbs < R ^ 1 := by decide

theorem quo_bound {x y : Int} {k : Nat} (h : x.natAbs < R ^ k) : (x / y).natAbs < R ^ (k + 1) := by
  have h1 : (x / y).natAbs ≤ x.natAbs := Int.natAbs_ediv_le_natAbs x y
  exact Nat.lt_of_le_of_lt h1 (lt_up h (by omega))

set_option maxHeartbeats 4000000 in
theorem floor_calls {w : World} {u v : Value} {x y : Int} {k : Nat} (hu : BArg w u x) (hv : BArg w v y) (h0 : y ≠ 0) (hbx : x.natAbs < R ^ k) (hby : y.natAbs < R ^ k) (hk : k ≤ 1000) :
    Calls Tryd.prog 39 #[u, v] w fun e w' => ∃ q, e = .returned (.tuple #[q, .int .i64 0]) ∧ BRes w' q (floorZ x y) ∧ Below w.heap.size w w' := by
  obtain ⟨na, mu, m, rfl, hm, hx⟩ := hu
  obtain ⟨nb, mv, n, rfl, hn, hy⟩ := hv
  obtain ⟨a, L, c, rfl⟩ := hm.shape
  obtain ⟨b, M, d, rfl⟩ := hn.shape
  obtain ⟨t0, t1, t2, hb⟩ := boxes w (.bool na) (.slice a L c) (.bool nb) (.slice b M d) (.bool false) (.slice none 0 0) 24
  have T1 := hide t1
  have T2 := hide t2
  have HB := hide hb
  have Ha := hide (show BArg _ (.agg #[.bool na, .slice a L c]) x from ⟨na, _, m, rfl, hm.below hb, hx⟩)
  have Hb := hide (show BArg _ (.agg #[.bool nb, .slice b M d]) y from ⟨nb, _, n, rfl, hn.below hb, hy⟩)
  have H0 := hide h0
  have Hbx := hide hbx
  have Hby := hide hby
  clear hm hn t0 t1 t2 hb hx hy h0 hbx hby
  go_enter Tryd.func39, Tryd.ntmps39
  go_wp2_with fail
  refine (bdiv_calls Ha.out Hb.out H0.out).mono ?_
  rintro e w1 ⟨q, r, rfl, hq, hr, hb1⟩
  obtain ⟨bq, aq, Lq, cq, rfl⟩ := hq.form
  obtain ⟨br, ar, Lr, cr, rfl⟩ := hr.form
  obtain ⟨s0, s1, hbx2⟩ := boxes2 w1 (.bool bq) (.slice aq Lq cq) (.bool br) (.slice ar Lr cr) 24
  have S0 := hide s0
  have S1 := hide s1
  have U1 := T1.out.keep hb1
  have U2 := hide ((T2.out.keep hb1).keep hbx2)
  have c0 := U1.c0
  have c1 := U1.c1
  have hlt : w.heap.size + 1 + 1 < w1.heap.size := by have := hb1.size; simp at this; omega
  have l1 : w.heap.size + 1 < w1.heap.size := by omega
  have l2 : w.heap.size < w1.heap.size := by omega
  have l3 : w.heap.size + 1 < w1.heap.size + 1 := by omega
  have Hlt := hide hlt
  have HbA := hide ((Hb.out.below hb1).below hbx2)
  have Hq := hide (hq.below hbx2)
  have Hr := hide (hr.below hbx2)
  have KB := hide (bafter (bafter HB.out hb1 (Nat.le_refl _)) hbx2 (Nat.le_refl _))
  clear hq hr s0 s1 T1 T2 HB Ha Hb hb1 hbx2 U1 hlt
  go_wp2_with fail
  refine (sign_calls HbA.out).mono ?_
  rintro e w2 ⟨rfl, hb2⟩
  have V0 := hide (S0.out.keep hb2)
  have V1 := hide (S1.out.keep hb2)
  have V2 := hide (U2.out.keep hb2)
  have KV := hide (bafter KB.out hb2 (Nat.le_refl _))
  have Vq := hide (Hq.out.below hb2)
  have Vr := hide (Hr.out.below hb2)
  clear S0 S1 U2 HbA Hq Hr KB hb2 c0 c1 l1 l3
  by_cases hy0 : y < 0
  · have hsy : sg y < 0 := sg_negI.2 hy0
    generalize sg y = sy at *
    have Ar : Hid (BArg w2 (.agg #[.bool br, .slice ar Lr cr]) (x % y)) := by
      refine Vr.out.arg (k := k) (Nat.lt_trans ?_ Hby.out) (by omega)
      have h1 := Int.emod_nonneg x H0.out
      have h2 := Int.emod_lt x H0.out
      omega
    have d0 := V1.out.c0
    have d1 := V1.out.c1
    go_wp2_with fail
    refine (sign_calls Ar.out).mono ?_
    rintro e w3 ⟨rfl, hb3⟩
    by_cases hr0 : 0 < x % y
    · have hsr : sg (x % y) > 0 := sg_posI.2 hr0
      generalize sg (x % y) = sr at *
      have Hf : Hid (floorZ x y = x / y - 1) := by
        show _ = _
        unfold floorZ
        rw [if_pos ⟨hy0, hr0⟩]
      have X0 := hide (V0.out.keep hb3).drew
      have X2 := hide (V2.out.keep hb3).drew
      have KX := hide (bafter KV.out hb3 (Nat.le_refl _)).drew
      have Xq : Hid (BArg w3.drew (.agg #[.bool bq, .slice aq Lq cq]) (x / y)) := BArg.drew ((Vq.out.below hb3).arg (quo_bound Hbx.out) (by omega))
      have x0 := (V0.out.keep hb3).c0
      have x1 := (V0.out.keep hb3).c1
      clear V0 V1 V2 KV Vq Vr Ar hb3 d0 d1 hy0 hr0
      go_wp2
      go_region_with (first
          | (go_at_call 17; have g := hb4; clear g; refine (bsub_calls (Xq.out.below hb4) (q4.arg one_R (by decide))).mono ?_; rintro e w5 ⟨r5, rfl, q5, hb5⟩; obtain ⟨b5, a5, L5, c5, rfl⟩ := q5.form; have e2 := ((X0.out.keep hb4).keep hb5).c0; have e3 := ((X0.out.keep hb4).keep hb5).c1; have g0 := ((X0.out.keep hb4).keep hb5).f0 0; have g1 := ((X0.out.keep hb4).keep hb5).f0 1)
          | (go_at_call 64; refine (bof_calls _ 1 (by decide) (by decide)).mono ?_; rintro e w4 ⟨r4, rfl, q4, hb4⟩; have e0 := (X0.out.keep hb4).c0; have e1 := (X0.out.keep hb4).c1))
      all_goals
        have ne1 : ¬ w.heap.size + 1 + 1 = w1.heap.size := by have := Hlt.out; omega
        have ne2 : ¬ w1.heap.size = w.heap.size + 1 + 1 := by have := Hlt.out; omega
        have Y0 := (X0.out.keep hb4).keep hb5
        have Y2 := (X2.out.keep hb4).keep hb5
        have d0 := Y2.c0
        have d1 := Y2.c1
        have f0 := Y2.f0 0
        have f1 := Y2.f0 1
        have P2 := hide (Y2.other (show w.heap.size + 1 + 1 ≠ w1.heap.size from ne1) (.bool b5) (.slice a5 L5 c5))
        have Q5 := hide (q5.put Y0 (.bool b5) (.slice a5 L5 c5))
        have K5 := hide (below_put (bafter (bafter KX.out hb4 (Nat.le_refl _)) hb5 (Nat.le_refl _)) (Nat.le_of_lt l2) (.bool b5) (.slice a5 L5 c5))
        clear Y0 Y2 hb4 hb5 q4 q5 X0 X2 KX Xq
        go_wp2
        refine bodyPost_ret (results_big2 rfl rfl rfl (P2.out.put _ _)) rfl ?_
        exact ⟨_, rfl, by rw [Hf.out]; exact Q5.out.put P2.out _ _, below_put K5.out (by omega) _ _⟩
    · have hsr : ¬ sg (x % y) > 0 := fun h => hr0 (sg_posI.1 h)
      generalize sg (x % y) = sr at *
      have Hf : Hid (floorZ x y = x / y) := by
        show _ = _
        unfold floorZ
        rw [if_neg (fun h => hr0 h.2)]
      clear hr0 Ar
      have Y0 := V0.out.keep hb3
      have Y2 := V2.out.keep hb3
      have x0 := Y0.c0
      have x1 := Y0.c1
      have d0 := Y2.c0
      have d1 := Y2.c1
      have f0 := Y2.f0 0
      have f1 := Y2.f0 1
      have P2 := hide Y2
      have Q5 := hide (Vq.out.below hb3)
      have K5 := hide (bafter KV.out hb3 (Nat.le_refl _))
      clear Y0 Y2
      go_wp2
      refine bodyPost_ret (results_big2 rfl rfl rfl (P2.out.put _ _)) rfl ?_
      exact ⟨_, rfl, by rw [Hf.out]; exact Q5.out.put P2.out _ _, below_put K5.out (by omega) _ _⟩
  · have hsy : ¬ sg y < 0 := fun h => hy0 (sg_negI.1 h)
    generalize sg y = sy at *
    have Hf : Hid (floorZ x y = x / y) := by
      show _ = _
      unfold floorZ
      rw [if_neg (fun h => hy0 h.1)]
    clear hy0
    have Y0 := V0.out
    have Y2 := V2.out
    have x0 := Y0.c0
    have x1 := Y0.c1
    have d0 := Y2.c0
    have d1 := Y2.c1
    have f0 := Y2.f0 0
    have f1 := Y2.f0 1
    have P2 := hide Y2
    have Q5 := hide (Vq.out)
    have K5 := hide (KV.out)
    clear Y0 Y2
    go_wp2
    refine bodyPost_ret (results_big2 rfl rfl rfl (P2.out.put _ _)) rfl ?_
    exact ⟨_, rfl, by rw [Hf.out]; exact Q5.out.put P2.out _ _, below_put K5.out (by omega) _ _⟩

set_option maxHeartbeats 4000000 in
theorem ceil_calls {w : World} {u v : Value} {x y : Int} {k : Nat} (hu : BArg w u x) (hv : BArg w v y) (h0 : y ≠ 0) (hbx : x.natAbs < R ^ k) (hby : y.natAbs < R ^ k) (hk : k ≤ 1000) :
    Calls Tryd.prog 41 #[u, v] w fun e w' => ∃ q, e = .returned (.tuple #[q, .int .i64 0]) ∧ BRes w' q (ceilZ x y) ∧ Below w.heap.size w w' := by
  obtain ⟨na, mu, m, rfl, hm, hx⟩ := hu
  obtain ⟨nb, mv, n, rfl, hn, hy⟩ := hv
  obtain ⟨a, L, c, rfl⟩ := hm.shape
  obtain ⟨b, M, d, rfl⟩ := hn.shape
  obtain ⟨t0, t1, t2, hb⟩ := boxes w (.bool na) (.slice a L c) (.bool nb) (.slice b M d) (.bool false) (.slice none 0 0) 24
  have T1 := hide t1
  have T2 := hide t2
  have HB := hide hb
  have Ha := hide (show BArg _ (.agg #[.bool na, .slice a L c]) x from ⟨na, _, m, rfl, hm.below hb, hx⟩)
  have Hb := hide (show BArg _ (.agg #[.bool nb, .slice b M d]) y from ⟨nb, _, n, rfl, hn.below hb, hy⟩)
  have H0 := hide h0
  have Hbx := hide hbx
  have Hby := hide hby
  clear hm hn t0 t1 t2 hb hx hy h0 hbx hby
  go_enter Tryd.func41, Tryd.ntmps41
  go_wp2_with fail
  refine (bdiv_calls Ha.out Hb.out H0.out).mono ?_
  rintro e w1 ⟨q, r, rfl, hq, hr, hb1⟩
  obtain ⟨bq, aq, Lq, cq, rfl⟩ := hq.form
  obtain ⟨br, ar, Lr, cr, rfl⟩ := hr.form
  obtain ⟨s0, s1, hbx2⟩ := boxes2 w1 (.bool bq) (.slice aq Lq cq) (.bool br) (.slice ar Lr cr) 24
  have S0 := hide s0
  have S1 := hide s1
  have U1 := T1.out.keep hb1
  have U2 := hide ((T2.out.keep hb1).keep hbx2)
  have c0 := U1.c0
  have c1 := U1.c1
  have hlt : w.heap.size + 1 + 1 < w1.heap.size := by have := hb1.size; simp at this; omega
  have l1 : w.heap.size + 1 < w1.heap.size := by omega
  have l2 : w.heap.size < w1.heap.size := by omega
  have l3 : w.heap.size + 1 < w1.heap.size + 1 := by omega
  have Hlt := hide hlt
  have HbA := hide ((Hb.out.below hb1).below hbx2)
  have Hq := hide (hq.below hbx2)
  have Hr := hide (hr.below hbx2)
  have KB := hide (bafter (bafter HB.out hb1 (Nat.le_refl _)) hbx2 (Nat.le_refl _))
  clear hq hr s0 s1 T1 T2 HB Ha Hb hb1 hbx2 U1 hlt
  go_wp2_with fail
  refine (sign_calls HbA.out).mono ?_
  rintro e w2 ⟨rfl, hb2⟩
  have V0 := hide (S0.out.keep hb2)
  have V1 := hide (S1.out.keep hb2)
  have V2 := hide (U2.out.keep hb2)
  have KV := hide (bafter KB.out hb2 (Nat.le_refl _))
  have Vq := hide (Hq.out.below hb2)
  have Vr := hide (Hr.out.below hb2)
  clear S0 S1 U2 HbA Hq Hr KB hb2 c0 c1 l1 l3
  by_cases hy0 : 0 < y
  · have hsy : sg y > 0 := sg_posI.2 hy0
    generalize sg y = sy at *
    have Ar : Hid (BArg w2 (.agg #[.bool br, .slice ar Lr cr]) (x % y)) := by
      refine Vr.out.arg (k := k) (Nat.lt_trans ?_ Hby.out) (by omega)
      have h1 := Int.emod_nonneg x H0.out
      have h2 := Int.emod_lt x H0.out
      omega
    have d0 := V1.out.c0
    have d1 := V1.out.c1
    go_wp2_with fail
    refine (sign_calls Ar.out).mono ?_
    rintro e w3 ⟨rfl, hb3⟩
    by_cases hr0 : 0 < x % y
    · have hsr : sg (x % y) > 0 := sg_posI.2 hr0
      generalize sg (x % y) = sr at *
      have Hf : Hid (ceilZ x y = x / y + 1) := by
        show _ = _
        unfold ceilZ
        rw [if_pos ⟨hy0, hr0⟩]
      have X0 := hide (V0.out.keep hb3).drew
      have X2 := hide (V2.out.keep hb3).drew
      have KX := hide (bafter KV.out hb3 (Nat.le_refl _)).drew
      have Xq : Hid (BArg w3.drew (.agg #[.bool bq, .slice aq Lq cq]) (x / y)) := BArg.drew ((Vq.out.below hb3).arg (quo_bound Hbx.out) (by omega))
      have x0 := (V0.out.keep hb3).c0
      have x1 := (V0.out.keep hb3).c1
      clear V0 V1 V2 KV Vq Vr Ar hb3 d0 d1 hy0 hr0
      go_wp2
      go_region_with (first
          | (go_at_call 11; have g := hb4; clear g; refine (badd_calls (Xq.out.below hb4) (q4.arg one_R (by decide))).mono ?_; rintro e w5 ⟨r5, rfl, q5, hb5⟩; obtain ⟨b5, a5, L5, c5, rfl⟩ := q5.form; have e2 := ((X0.out.keep hb4).keep hb5).c0; have e3 := ((X0.out.keep hb4).keep hb5).c1; have g0 := ((X0.out.keep hb4).keep hb5).f0 0; have g1 := ((X0.out.keep hb4).keep hb5).f0 1)
          | (go_at_call 64; refine (bof_calls _ 1 (by decide) (by decide)).mono ?_; rintro e w4 ⟨r4, rfl, q4, hb4⟩; have e0 := (X0.out.keep hb4).c0; have e1 := (X0.out.keep hb4).c1))
      all_goals
        have ne1 : ¬ w.heap.size + 1 + 1 = w1.heap.size := by have := Hlt.out; omega
        have ne2 : ¬ w1.heap.size = w.heap.size + 1 + 1 := by have := Hlt.out; omega
        have Y0 := (X0.out.keep hb4).keep hb5
        have Y2 := (X2.out.keep hb4).keep hb5
        have d0 := Y2.c0
        have d1 := Y2.c1
        have f0 := Y2.f0 0
        have f1 := Y2.f0 1
        have P2 := hide (Y2.other (show w.heap.size + 1 + 1 ≠ w1.heap.size from ne1) (.bool b5) (.slice a5 L5 c5))
        have Q5 := hide (q5.put Y0 (.bool b5) (.slice a5 L5 c5))
        have K5 := hide (below_put (bafter (bafter KX.out hb4 (Nat.le_refl _)) hb5 (Nat.le_refl _)) (Nat.le_of_lt l2) (.bool b5) (.slice a5 L5 c5))
        clear Y0 Y2 hb4 hb5 q4 q5 X0 X2 KX Xq
        go_wp2
        refine bodyPost_ret (results_big2 rfl rfl rfl (P2.out.put _ _)) rfl ?_
        exact ⟨_, rfl, by rw [Hf.out]; exact Q5.out.put P2.out _ _, below_put K5.out (by omega) _ _⟩
    · have hsr : ¬ sg (x % y) > 0 := fun h => hr0 (sg_posI.1 h)
      generalize sg (x % y) = sr at *
      have Hf : Hid (ceilZ x y = x / y) := by
        show _ = _
        unfold ceilZ
        rw [if_neg (fun h => hr0 h.2)]
      clear hr0 Ar
      have Y0 := V0.out.keep hb3
      have Y2 := V2.out.keep hb3
      have x0 := Y0.c0
      have x1 := Y0.c1
      have d0 := Y2.c0
      have d1 := Y2.c1
      have f0 := Y2.f0 0
      have f1 := Y2.f0 1
      have P2 := hide Y2
      have Q5 := hide (Vq.out.below hb3)
      have K5 := hide (bafter KV.out hb3 (Nat.le_refl _))
      clear Y0 Y2
      go_wp2
      refine bodyPost_ret (results_big2 rfl rfl rfl (P2.out.put _ _)) rfl ?_
      exact ⟨_, rfl, by rw [Hf.out]; exact Q5.out.put P2.out _ _, below_put K5.out (by omega) _ _⟩
  · have hsy : ¬ sg y > 0 := fun h => hy0 (sg_posI.1 h)
    generalize sg y = sy at *
    have Hf : Hid (ceilZ x y = x / y) := by
      show _ = _
      unfold ceilZ
      rw [if_neg (fun h => hy0 h.1)]
    clear hy0
    have Y0 := V0.out
    have Y2 := V2.out
    have x0 := Y0.c0
    have x1 := Y0.c1
    have d0 := Y2.c0
    have d1 := Y2.c1
    have f0 := Y2.f0 0
    have f1 := Y2.f0 1
    have P2 := hide Y2
    have Q5 := hide (Vq.out)
    have K5 := hide (KV.out)
    clear Y0 Y2
    go_wp2
    refine bodyPost_ret (results_big2 rfl rfl rfl (P2.out.put _ _)) rfl ?_
    exact ⟨_, rfl, by rw [Hf.out]; exact Q5.out.put P2.out _ _, below_put K5.out (by omega) _ _⟩

end Go.Proofs.YtpenhmkodakpaaaDoor
