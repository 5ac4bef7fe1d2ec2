/- The contracts of Abs, Mul, Gcd, Add and Sub of numbers with a sign. -/
import Derived.Test.YtkdhcpfmlelfcaaDoorBigMem
import Derived.Test.YtkdhcpfmlelfcaaDoorGcd
import Derived.Test.YtkdhcpfmlelfcaaDoorSub
namespace Go.Proofs.YtkdhcpfmlelfcaaDoor
set_option linter.unusedVariables false
set_option linter.unusedSimpArgs false
set_option maxRecDepth 100000
open Go Go.RowKit Go.Shelf Go.Lib

/-- Two numbers and a place for the answer, as blocks. -/
theorem boxes (w : World) (x0 y0 x1 y1 x2 y2 : Value) (t : TypeId) :
    Two (((w.alloc (.cells #[x0, y0] t)).alloc (.cells #[x1, y1] t)).alloc (.cells #[x2, y2] t)) w.heap.size x0 y0 t ∧
    Two (((w.alloc (.cells #[x0, y0] t)).alloc (.cells #[x1, y1] t)).alloc (.cells #[x2, y2] t)) (w.heap.size + 1) x1 y1 t ∧
    Two (((w.alloc (.cells #[x0, y0] t)).alloc (.cells #[x1, y1] t)).alloc (.cells #[x2, y2] t)) (w.heap.size + 1 + 1) x2 y2 t ∧
    Below w.heap.size w (((w.alloc (.cells #[x0, y0] t)).alloc (.cells #[x1, y1] t)).alloc (.cells #[x2, y2] t)) := by
  refine ⟨((Two.new w x0 y0 t).alloc _).alloc _, ?_, ?_, ?_⟩
  · have := (Two.new (w.alloc (.cells #[x0, y0] t)) x1 y1 t).alloc (.cells #[x2, y2] t)
    rw [World.size_alloc] at this
    exact this
  · have := Two.new ((w.alloc (.cells #[x0, y0] t)).alloc (.cells #[x1, y1] t)) x2 y2 t
    rw [World.size_alloc, World.size_alloc] at this
    exact this
  · exact ((bel w _).alloc (by simp) _).alloc (by simp; omega) _

theorem boxes2 (w : World) (x0 y0 x1 y1 : Value) (t : TypeId) :
    Two ((w.alloc (.cells #[x0, y0] t)).alloc (.cells #[x1, y1] t)) w.heap.size x0 y0 t ∧
    Two ((w.alloc (.cells #[x0, y0] t)).alloc (.cells #[x1, y1] t)) (w.heap.size + 1) x1 y1 t ∧
    Below w.heap.size w ((w.alloc (.cells #[x0, y0] t)).alloc (.cells #[x1, y1] t)) := by
  refine ⟨(Two.new w x0 y0 t).alloc _, ?_, ?_⟩
  · have := Two.new (w.alloc (.cells #[x0, y0] t)) x1 y1 t
    rw [World.size_alloc] at this
    exact this
  · exact (bel w _).alloc (by simp) _

theorem bafter {n : Nat} {w w0 w1 : World} (h : Below n w w0) (k : Below w0.heap.size w0 w1) (hn : n ≤ w.heap.size) : Below n w w1 := h.trans (k.mono (Nat.le_trans hn h.size))

theorem Arg.upto {W W' : World} {n : Nat} {v : Value} {m : Nat} (h : Arg W v m) (hb : Below W.heap.size W W') : Arg W' v m := h.below hb

theorem mul_sgn (na nb : Bool) (m n : Nat) : sgn (na != nb) (m * n) = sgn na m * sgn nb n := by
  unfold sgn
  cases na <;> cases nb <;> simp [Int.neg_mul, Int.mul_neg]

set_option maxRecDepth 100000 in
set_option maxHeartbeats 2000000 in
theorem bmul_calls {w : World} {u v : Value} {x y : Int} (hu : BArg w u x) (hv : BArg w v y) :
    Calls Tryd.prog 45 #[u, v] w fun e w' => ∃ rv, e = .returned rv ∧ BRes w' rv (x * y) ∧ Below w.heap.size w w' := by
  obtain ⟨na, mu, m, rfl, hm, rfl⟩ := hu
  obtain ⟨nb, mv, n, rfl, hn, rfl⟩ := hv
  obtain ⟨a, L, c, rfl⟩ := hm.shape
  obtain ⟨b, M, d, rfl⟩ := hn.shape
  rw [← mul_sgn]
  obtain ⟨t0, t1, t2, hb⟩ := boxes w (.bool na) (.slice a L c) (.bool nb) (.slice b M d) (.bool false) (.slice none 0 0) 24
  have T0 := hide t0.drew
  have T1 := hide t1.drew
  have T2 := hide t2.drew
  have HB := hide hb.drew
  have Hm := hide (hm.below hb.drew)
  have Hn := hide (hn.below hb.drew)
  clear hm hn t0 t1 t2 hb
  have ne1 : ¬ w.heap.size + 1 + 1 = w.heap.size := by omega
  have ne2 : ¬ w.heap.size = w.heap.size + 1 + 1 := by omega
  go_enter Tryd.func45, Tryd.ntmps45
  go_wp2
  go_region_held3 (fun w' => w'.cell? ⟨w.heap.size, 0, none⟩ = some (.bool na) ∧ w'.cell? ⟨w.heap.size, 1, none⟩ = some (.slice a L c) ∧ w'.cell? ⟨w.heap.size + 1, 0, none⟩ = some (.bool nb) ∧ w'.cell? ⟨w.heap.size + 1, 1, none⟩ = some (.slice b M d)) (go_keep)
    (first
      | (go_at_call 63; refine (mul_res Hm.out Hn.out).mono ?_; rintro e w1 ⟨r1, rfl, q1, hb1⟩; have c0 := (T0.out.keep hb1).c0; have c1 := (T0.out.keep hb1).c1; have c2 := (T1.out.keep hb1).c0; have c3 := (T1.out.keep hb1).c1)
      | (go_at_call 27; refine (signed_calls q1).mono ?_; rintro e w2 ⟨r2, rfl, q2, hb2⟩; obtain ⟨b2, a2, L2, k2, rfl⟩ := q2.form; have c0' := ((T0.out.keep hb1).keep hb2).c0; have c1' := ((T0.out.keep hb1).keep hb2).c1; have c2' := ((T1.out.keep hb1).keep hb2).c0; have c3' := ((T1.out.keep hb1).keep hb2).c1; have d0 := ((T2.out.keep hb1).keep hb2).c0; have d1 := ((T2.out.keep hb1).keep hb2).c1; have f0 := ((T2.out.keep hb1).keep hb2).f0 0; have f1 := ((T2.out.keep hb1).keep hb2).f0 1))
  have TZ := (T2.out.keep hb1).keep hb2
  have KZ := bafter (bafter HB.out hb1 (Nat.le_refl _)) hb2 (Nat.le_refl _)
  go_wp2
  refine bodyPost_ret (results_big rfl rfl (TZ.put _ _)) rfl ?_
  exact ⟨_, rfl, q2.put TZ _ _, below_put KZ (by omega) _ _⟩

theorem sub_big {w : World} {sv tv : Value} {m n : Nat} (hx : Arg w sv m) (hy : Arg w tv n) (h : n ≤ m) :
    Calls Tryd.prog 44 #[sv, tv] w fun e w' => ∃ rv, e = .returned (.tuple #[rv, .int .i64 0]) ∧ Res w' rv (m - n) ∧ Below w.heap.size w w' := by
  obtain ⟨xs, h1, h2, rfl⟩ := hx
  obtain ⟨ys, k1, k2, rfl⟩ := hy
  refine (sub_calls w sv tv xs ys h1 k1 h2 k2).mono ?_
  rintro e w' ⟨_, hA, hb⟩
  obtain ⟨rv, rfl, hA'⟩ := hA h
  exact ⟨rv, rfl, hA'.res, hb⟩

theorem add_sgn (na : Bool) (m n : Nat) : sgn na (m + n) = sgn na m + sgn na n := by
  unfold sgn
  cases na <;> simp <;> omega
theorem add_sgn1 {na nb : Bool} {m n : Nat} (h : na ≠ nb) (hle : n ≤ m) : sgn na (m - n) = sgn na m + sgn nb n := by
  unfold sgn
  cases na <;> cases nb <;> simp at h ⊢ <;> omega
theorem add_sgn2 {na nb : Bool} {m n : Nat} (h : na ≠ nb) (hle : m ≤ n) : sgn nb (n - m) = sgn na m + sgn nb n := by
  unfold sgn
  cases na <;> cases nb <;> simp at h ⊢ <;> omega

set_option maxRecDepth 100000 in
set_option maxHeartbeats 2000000 in
theorem badd_calls {w : World} {u v : Value} {x y : Int} (hu : BArg w u x) (hv : BArg w v y) :
    Calls Tryd.prog 21 #[u, v] w fun e w' => ∃ rv, e = .returned rv ∧ BRes w' rv (x + y) ∧ Below w.heap.size w w' := by
  obtain ⟨na, mu, m, rfl, hm, rfl⟩ := hu
  obtain ⟨nb, mv, n, rfl, hn, rfl⟩ := hv
  obtain ⟨a, L, c, rfl⟩ := hm.shape
  obtain ⟨b, M, d, rfl⟩ := hn.shape
  obtain ⟨t0, t1, t2, hb⟩ := boxes w (.bool na) (.slice a L c) (.bool nb) (.slice b M d) (.bool false) (.slice none 0 0) 24
  have ne1 : ¬ w.heap.size + 1 + 1 = w.heap.size := by omega
  have ne2 : ¬ w.heap.size = w.heap.size + 1 + 1 := by omega
  by_cases hs : na = nb
  · subst hs
    rw [← add_sgn]
    have T0 := hide t0.drew
    have T1 := hide t1.drew
    have T2 := hide t2.drew
    have HB := hide hb.drew
    have Hm := hide (hm.below hb.drew)
    have Hn := hide (hn.below hb.drew)
    clear hm hn t0 t1 t2 hb
    go_enter Tryd.func21, Tryd.ntmps21
    go_wp2
    go_region_held3 (fun w' => w'.cell? ⟨w.heap.size, 0, none⟩ = some (.bool na) ∧ w'.cell? ⟨w.heap.size, 1, none⟩ = some (.slice a L c) ∧ w'.cell? ⟨w.heap.size + 1, 0, none⟩ = some (.bool na) ∧ w'.cell? ⟨w.heap.size + 1, 1, none⟩ = some (.slice b M d)) (go_keep)
      (first
        | (go_at_call 42; refine (add_res Hm.out Hn.out).mono ?_; rintro e w1 ⟨r1, rfl, q1, hb1⟩; have c0 := (T0.out.keep hb1).c0; have c1 := (T0.out.keep hb1).c1; have c2 := (T1.out.keep hb1).c0; have c3 := (T1.out.keep hb1).c1)
        | (go_at_call 27; refine (signed_calls q1).mono ?_; rintro e w2 ⟨r2, rfl, q2, hb2⟩; obtain ⟨b2, a2, L2, k2, rfl⟩ := q2.form; have c0' := ((T0.out.keep hb1).keep hb2).c0; have c1' := ((T0.out.keep hb1).keep hb2).c1; have c2' := ((T1.out.keep hb1).keep hb2).c0; have c3' := ((T1.out.keep hb1).keep hb2).c1; have d0 := ((T2.out.keep hb1).keep hb2).c0; have d1 := ((T2.out.keep hb1).keep hb2).c1; have f0 := ((T2.out.keep hb1).keep hb2).f0 0; have f1 := ((T2.out.keep hb1).keep hb2).f0 1))
    have TZ := (T2.out.keep hb1).keep hb2
    have KZ := bafter (bafter HB.out hb1 (Nat.le_refl _)) hb2 (Nat.le_refl _)
    go_wp2
    refine bodyPost_ret (results_big rfl rfl (TZ.put _ _)) rfl ?_
    exact ⟨_, rfl, q2.put TZ _ _, below_put KZ (by omega) _ _⟩
  · have hs' : (na == nb) = false := beq_eq_false_iff_ne.2 hs
    have Hs := hide hs
    have T0 := hide t0
    have T1 := hide t1
    have T2 := hide t2
    have HB := hide hb
    have Hm := hide (hm.below hb)
    have Hn := hide (hn.below hb)
    clear hm hn t0 t1 t2 hb hs
    by_cases hlt : m < n
    · have Hlt := hide hlt
      have hneg : cmpI (m : Int) (n : Int) = -1 := cmpI_lt (by omega)
      go_enter Tryd.func21, Tryd.ntmps21
      go_wp2_with fail
      refine (cmp_res Hm.out Hn.out).mono ?_
      rintro e w1 ⟨rfl, hb1⟩
      rw [hneg]
      have U0 := T0.out.keep hb1
      have U1 := T1.out.keep hb1
      have U2 := T2.out.keep hb1
      have c0 := U0.c0
      have c1 := U0.c1
      have c2 := U1.c0
      have c3 := U1.c1
      have g0 := U0.f0 0
      have g1 := U0.f0 1
      have g2 := U1.f0 0
      have g3 := U1.f0 1
      have V0 := (U0.put (.bool nb) (.slice b M d)).other (show w.heap.size ≠ w.heap.size + 1 by omega) (.bool na) (.slice a L c)
      have X1 := U1.other (show w.heap.size + 1 ≠ w.heap.size by omega) (.bool nb) (.slice b M d)
      have V2 := (U2.other (show w.heap.size + 1 + 1 ≠ w.heap.size by omega) (.bool nb) (.slice b M d)).other (show w.heap.size + 1 + 1 ≠ w.heap.size + 1 by omega) (.bool na) (.slice a L c)
      have Am := ((Hm.out.below hb1).put U0 (.bool nb) (.slice b M d)).put X1 (.bool na) (.slice a L c)
      have An := ((Hn.out.below hb1).put U0 (.bool nb) (.slice b M d)).put X1 (.bool na) (.slice a L c)
      have KB := below_put (below_put (bafter HB.out hb1 (Nat.le_refl _)) (show w.heap.size ≤ w.heap.size by omega) (.bool nb) (.slice b M d)) (show w.heap.size ≤ w.heap.size + 1 by omega) (.bool na) (.slice a L c)
      go_wp2_with fail
      clear c0 c1 c2 c3 g0 g1 g2 g3 U0 U1 U2 X1 hb1
      generalize ((((w1.setCell ⟨w.heap.size, 0, none⟩ (.bool nb)).setCell ⟨w.heap.size, 1, none⟩ (.slice b M d)).setCell ⟨w.heap.size + 1, 0, none⟩ (.bool na)).setCell ⟨w.heap.size + 1, 1, none⟩ (.slice a L c)) = W4 at *
      refine (sub_big An Am (by omega)).mono ?_
      rintro e w5 ⟨r5, rfl, q5, hb5⟩
      have c0 := (V0.keep hb5).c0
      have V2' := hide (V2.keep hb5)
      have K5 := hide (bafter KB hb5 (Nat.le_refl _))
      clear V0 V2 Am An KB
      go_wp2_with fail
      refine (signed_calls q5).mono ?_
      rintro e w6 ⟨r6, rfl, q6, hb6⟩
      obtain ⟨b2, a2, L2, k2, rfl⟩ := q6.form
      have TZ := V2'.out.keep hb6
      have KZ := bafter K5.out hb6 (Nat.le_refl _)
      have d0 := TZ.c0
      have d1 := TZ.c1
      have f0 := TZ.f0 0
      have f1 := TZ.f0 1
      have TZ' := hide TZ
      have KZ' := hide KZ
      clear TZ KZ hb6
      go_wp2
      refine bodyPost_ret (results_big rfl rfl (TZ'.out.put _ _)) rfl ?_
      rw [← add_sgn2 Hs.out (Nat.le_of_lt Hlt.out)]
      exact ⟨_, rfl, q6.put TZ'.out _ _, below_put KZ'.out (by omega) _ _⟩
    · have Hlt := hide hlt
      have hneg : ¬ cmpI (m : Int) (n : Int) < 0 := by unfold cmpI; split <;> (try split) <;> omega
      go_enter Tryd.func21, Tryd.ntmps21
      go_wp2_with fail
      refine (cmp_res Hm.out Hn.out).mono ?_
      rintro e w1 ⟨rfl, hb1⟩
      have U0 := T0.out.keep hb1
      have U1 := T1.out.keep hb1
      have c0 := U0.c0
      have c1 := U0.c1
      have c3 := U1.c1
      have V2 := hide (T2.out.keep hb1)
      have Am := hide (Hm.out.below hb1)
      have An := hide (Hn.out.below hb1)
      have KB := hide (bafter HB.out hb1 (Nat.le_refl _))
      have V0 := hide U0
      clear U0 U1
      generalize cmpI (m : Int) (n : Int) = cc at *
      go_wp2_with fail
      refine (sub_big Am.out An.out (by omega)).mono ?_
      rintro e w5 ⟨r5, rfl, q5, hb5⟩
      have c0' := (V0.out.keep hb5).c0
      have V2' := hide (V2.out.keep hb5)
      have K5 := hide (bafter KB.out hb5 (Nat.le_refl _))
      clear V0 V2 Am An KB
      go_wp2_with fail
      refine (signed_calls q5).mono ?_
      rintro e w6 ⟨r6, rfl, q6, hb6⟩
      obtain ⟨b2, a2, L2, k2, rfl⟩ := q6.form
      have TZ := V2'.out.keep hb6
      have KZ := bafter K5.out hb6 (Nat.le_refl _)
      have d0 := TZ.c0
      have d1 := TZ.c1
      have f0 := TZ.f0 0
      have f1 := TZ.f0 1
      have TZ' := hide TZ
      have KZ' := hide KZ
      clear TZ KZ hb6
      go_wp2
      refine bodyPost_ret (results_big rfl rfl (TZ'.out.put _ _)) rfl ?_
      rw [← add_sgn1 Hs.out (by have := Hlt.out; omega)]
      exact ⟨_, rfl, q6.put TZ'.out _ _, below_put KZ'.out (by omega) _ _⟩

theorem BArg.neg {W : World} {na : Bool} {mv : Value} {y : Int} (h : BArg W (.agg #[.bool na, mv]) y) : BArg W (.agg #[.bool (!na), mv]) (-y) := by
  obtain ⟨nb, mu, n, e, hm, rfl⟩ := h
  injection e with e
  simp only [Array.mk.injEq, List.cons.injEq, Value.bool.injEq, and_true] at e
  obtain ⟨rfl, rfl⟩ := e
  exact ⟨_, _, n, rfl, hm, (neg_sgn na n).symm⟩

end Go.Proofs.YtkdhcpfmlelfcaaDoor
