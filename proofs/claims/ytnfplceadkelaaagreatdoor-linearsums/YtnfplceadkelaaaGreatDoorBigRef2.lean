/- The reference's numbers with a sign: Neg, Abs, Sign, Cmp, Add, Sub, Mul, Gcd, From; the law's own function of. -/
import Derived.Test.YtnfplceadkelaaaGreatDoorBigRef
import Derived.Test.YtnfplceadkelaaaGreatDoorRGcd
import Derived.Test.YtnfplceadkelaaaGreatDoorRMul
import Derived.Test.YtnfplceadkelaaaGreatDoorFrom1
import Derived.Test.YtnfplceadkelaaaGreatDoorBigLaw0
namespace Go.Proofs.YtnfplceadkelaaaGreatDoor
set_option linter.unusedVariables false
set_option linter.unusedSimpArgs false
set_option maxRecDepth 100000
open Go Go.RowKit Go.Shelf Go.Lib

theorem sgn_natAbs (neg : Bool) (n : Nat) : (sgn neg n).natAbs = n := by unfold sgn; cases neg <;> simp

theorem RRes.zero {W : World} {a : Option Addr} {L c : Nat} {z : Int} (h : RRes W (.slice a L c) z.natAbs) : L = 0 ↔ z = 0 := by
  obtain ⟨a', L', c', e, hL⟩ := h.shape
  injection e with e1 e2 e3
  subst e2
  rw [hL]
  omega

set_option maxHeartbeats 1000000 in
theorem rsign_calls {K : Nat} {w : World} {v : Value} {z : Int} (hv : NArg K w v z) (hK : K ≤ 1000) :
    Calls Tryz.prog 57 #[v] w fun e w' => e = .returned (.int .i64 (sg z)) ∧ Below w.heap.size w w' := by
  obtain ⟨neg, dv, n, rfl, hd, hn, rfl⟩ := hv
  obtain ⟨a, L, c, rfl, _⟩ := hd.shape
  have hb := bel w (.cells #[.bool neg, .slice a L c] 32)
  have HB := hide hb
  have Hd := hide (RRes.lit (neg := neg) (hd.below hb) hn)
  clear hd hb hn
  generalize sgn neg n = z at *
  go_enter Tryz.func57, Tryz.ntmps57
  go_wp2_with fail
  refine (rnorm_calls Hd.out hK).mono ?_
  rintro e w2 ⟨r2, rfl, q2, hb2⟩
  obtain ⟨dv, rfl, p2⟩ := q2
  obtain ⟨a2, L2, c2, rfl, hsh⟩ := p2.shape
  have hL := p2.zero
  clear hsh
  have KB := hide (bafter HB.out hb2 (Nat.le_refl _))
  clear p2 hb2 HB Hd
  rcases Int.lt_trichotomy z 0 with h | h | h
  · have hs : decide (z < 0) = true := decide_eq_true h
    have hL0 : ((L2 : Int) == 0) = false := beq_eq_false_iff_ne.2 (by
      have : L2 ≠ 0 := fun e => by have := hL.1 e; omega
      omega)
    rw [hs]
    have Hsg := hide (sg_neg h)
    clear hs h hL
    go_wp2
    go_ret
    exact ⟨by rw [Hsg.out]; rfl, kalloc KB.out (Nat.le_refl _) _⟩
  · obtain rfl : L2 = 0 := hL.2 h
    have Hsg : Hid (sg z = 0) := by show _ = _; rw [h]; rfl
    generalize decide (z < 0) = sz
    clear h hL
    go_wp2
    go_ret
    exact ⟨by rw [Hsg.out]; rfl, kalloc KB.out (Nat.le_refl _) _⟩
  · have hs : decide (z < 0) = false := decide_eq_false (by omega)
    have hL0 : ((L2 : Int) == 0) = false := beq_eq_false_iff_ne.2 (by
      have : L2 ≠ 0 := fun e => by have := hL.1 e; omega
      omega)
    rw [hs]
    have Hsg := hide (sg_pos h)
    clear hs h hL
    go_wp2
    go_ret
    exact ⟨by rw [Hsg.out]; rfl, kalloc KB.out (Nat.le_refl _) _⟩

set_option maxHeartbeats 2000000 in
theorem rncmp_calls {K : Nat} {w : World} {u v : Value} {x y : Int} (hu : NArg K w u x) (hv : NArg K w v y) (hK : K ≤ 1000) :
    Calls Tryz.prog 68 #[u, v] w fun e w' => e = .returned (.int .i64 (cmpI x y)) ∧ Below w.heap.size w w' := by
  obtain ⟨na, du, m, rfl, hm, hlm, rfl⟩ := hu
  obtain ⟨nb, dv, n, rfl, hn, hln, rfl⟩ := hv
  obtain ⟨a, L, c, rfl, _⟩ := hm.shape
  obtain ⟨b, M, d, rfl, _⟩ := hn.shape
  have bx : (sgn na m).natAbs < 10 ^ K := by rw [sgn_natAbs]; exact hlm
  have byy : (sgn nb n).natAbs < 10 ^ K := by rw [sgn_natAbs]; exact hln
  obtain ⟨t0, t1, hb⟩ := boxes2 w (.bool na) (.slice a L c) (.bool nb) (.slice b M d) 32
  have T1 := hide t1
  have HB := hide hb
  have Hx := hide (RRes.lit (neg := na) (hm.below hb) hlm)
  have Hy := hide (RRes.lit (neg := nb) (hn.below hb) hln)
  have Bx := hide bx
  have By := hide byy
  clear hm hn hlm hln t0 t1 hb bx byy
  generalize sgn na m = x at *
  generalize sgn nb n = y at *
  go_enter Tryz.func68, Tryz.ntmps68
  go_wp2_with fail
  refine (rnorm_calls Hx.out hK).mono ?_
  rintro e w1 ⟨r1, rfl, q1, hb1⟩
  obtain ⟨d1, rfl, p1⟩ := q1
  obtain ⟨a1, L1, k1, rfl, _⟩ := p1.shape
  generalize hsx : decide (x < 0) = sx at *
  have U1 := T1.out.keep hb1
  have c2 := U1.c0
  have c3 := U1.c1
  have l1 : w.heap.size + 1 < w1.heap.size := (Array.getElem?_eq_some_iff.1 U1).1
  have l2 : w.heap.size < w1.heap.size := by omega
  have o := bel w1 (.cells #[.bool sx, .slice a1 L1 k1] 32)
  have X0 := hide (p1.below o)
  have TX := hide (Two.new w1 (.bool sx) (.slice a1 L1 k1) 32)
  have Y0 := hide ((Hy.out.below hb1).below o)
  have K1 := hide (bafter (bafter HB.out hb1 (Nat.le_refl _)) o (Nat.le_refl _))
  have Hsx := hide hsx
  clear p1 hb1 o U1 Hx Hy HB T1 hsx
  go_wp2_with fail
  refine (rnorm_calls Y0.out hK).mono ?_
  rintro e w2 ⟨r2, rfl, q2, hb2⟩
  obtain ⟨d2, rfl, p2⟩ := q2
  obtain ⟨a2, L2, k2, rfl, _⟩ := p2.shape
  have UX := TX.out.keep hb2
  have c0 := UX.c0
  have c1 := UX.c1
  have l3 : w1.heap.size < w2.heap.size := (Array.getElem?_eq_some_iff.1 UX).1
  have X := hide (((X0.out.below hb2).below (bel w2 (.cells #[.bool (decide (y < 0)), .slice a2 L2 k2] 32))).arg Bx.out (by omega))
  have Y := hide ((p2.below (bel w2 (.cells #[.bool (decide (y < 0)), .slice a2 L2 k2] 32))).arg By.out (by omega))
  have KB := hide (bafter K1.out hb2 (Nat.le_refl _))
  rw [← Hsx.out] at c0
  clear p2 hb2 UX X0 Y0 K1 TX c2 c3 l1 l2 Hsx
  by_cases hx : x < 0
  · by_cases hy : y < 0
    · have sx : decide (x < 0) = true := decide_eq_true hx
      have sy : decide (y < 0) = true := decide_eq_true hy
      rw [sy]
      rw [sx] at c0
      have hc : Hid (cmpI ((y.natAbs : Nat) : Int) ((x.natAbs : Nat) : Int) = cmpI x y) := by show _ = _; unfold cmpI; split <;> (try split) <;> (try split) <;> (try split) <;> omega
      rw [sy] at X Y
      clear sx sy hx hy
      go_wp2_with fail
      refine (rcmp_calls Y.out X.out).mono ?_
      rintro e w5 ⟨rfl, hb5⟩
      rw [hc.out]
      go_wp2
      go_ret
      exact ⟨rfl, bafter (kalloc KB.out (Nat.le_refl _) _) hb5 (Nat.le_refl _)⟩
    · have sx : decide (x < 0) = true := decide_eq_true hx
      have sy : decide (y < 0) = false := decide_eq_false hy
      rw [sy]
      rw [sx] at c0
      have Hc : Hid (cmpI x y = -1) := by show _ = _; unfold cmpI; split <;> (try split) <;> omega
      clear sx sy hx hy
      go_wp2
      go_ret
      exact ⟨by rw [Hc.out]; rfl, kalloc KB.out (Nat.le_refl _) _⟩
  · by_cases hy : y < 0
    · have sx : decide (x < 0) = false := decide_eq_false hx
      have sy : decide (y < 0) = true := decide_eq_true hy
      rw [sy]
      rw [sx] at c0
      have Hc : Hid (cmpI x y = 1) := by show _ = _; unfold cmpI; split <;> (try split) <;> omega
      clear sx sy hx hy
      go_wp2
      go_ret
      exact ⟨by rw [Hc.out]; rfl, kalloc KB.out (Nat.le_refl _) _⟩
    · have sx : decide (x < 0) = false := decide_eq_false hx
      have sy : decide (y < 0) = false := decide_eq_false hy
      rw [sy]
      rw [sx] at c0
      have hc : Hid (cmpI ((x.natAbs : Nat) : Int) ((y.natAbs : Nat) : Int) = cmpI x y) := by show _ = _; unfold cmpI; split <;> (try split) <;> (try split) <;> (try split) <;> omega
      rw [sy] at X Y
      clear sx sy hx hy
      go_wp2_with fail
      refine (rcmp_calls X.out Y.out).mono ?_
      rintro e w5 ⟨rfl, hb5⟩
      rw [hc.out]
      go_wp2
      go_ret
      exact ⟨rfl, bafter (kalloc KB.out (Nat.le_refl _) _) hb5 (Nat.le_refl _)⟩

set_option maxHeartbeats 2000000 in
theorem rnmul_calls {K : Nat} {w : World} {u v : Value} {x y : Int} (hu : NArg K w u x) (hv : NArg K w v y) (hK : K ≤ 400) :
    Calls Tryz.prog 66 #[u, v] w fun e w' => ∃ rv, e = .returned rv ∧ NRes w' rv (x * y) ∧ Below w.heap.size w w' := by
  obtain ⟨na, du, m, rfl, hm, hlm, rfl⟩ := hu
  obtain ⟨nb, dv, n, rfl, hn, hln, rfl⟩ := hv
  obtain ⟨a, L, c, rfl, _⟩ := hm.shape
  obtain ⟨b, M, d, rfl, _⟩ := hn.shape
  have Lm := hide hlm
  have Ln := hide hln
  obtain ⟨t0, t1, t2, hb⟩ := boxes w (.bool na) (.slice a L c) (.bool nb) (.slice b M d) (.bool false) (.slice none 0 0) 32
  have ne1 : ¬ w.heap.size + 1 + 1 = w.heap.size := by omega
  have ne2 : ¬ w.heap.size = w.heap.size + 1 + 1 := by omega
  rw [← mul_sgn]
  have T0 := hide t0.drew
  have T1 := hide t1.drew
  have T2 := hide t2.drew
  have HB := hide hb.drew
  have Hm := hide (hm.below hb.drew)
  have Hn := hide (hn.below hb.drew)
  clear hm hn t0 t1 t2 hb hlm hln
  go_enter Tryz.func66, Tryz.ntmps66
  go_wp2
  go_region_held3 (fun w' => w'.cell? ⟨w.heap.size, 0, none⟩ = some (.bool na) ∧ w'.cell? ⟨w.heap.size, 1, none⟩ = some (.slice a L c) ∧ w'.cell? ⟨w.heap.size + 1, 0, none⟩ = some (.bool nb) ∧ w'.cell? ⟨w.heap.size + 1, 1, none⟩ = some (.slice b M d)) (go_keep)
    (first
      | (go_at_call 103; refine (mul_rres Hm.out Hn.out Lm.out Ln.out (by omega) (by omega)).mono ?_; rintro e w1 ⟨r1, rfl, q1, hb1⟩; obtain ⟨a1, L1, k1, rfl, hsh1⟩ := q1.shape; clear hsh1; have c0 := (T0.out.keep hb1).c0; have c1 := (T0.out.keep hb1).c1; have c2 := (T1.out.keep hb1).c0; have c3 := (T1.out.keep hb1).c1)
      | (go_at_call 55; refine (rnorm_calls (RRes.lit (neg := na != nb) q1 (lt_mul10 Lm.out Ln.out)) (by omega)).mono ?_; rintro e w2 ⟨r2, rfl, q2, hb2⟩; obtain ⟨b2, a2, L2, k2, rfl⟩ := q2.form; have c0' := ((T0.out.keep hb1).keep hb2).c0; have c1' := ((T0.out.keep hb1).keep hb2).c1; have c2' := ((T1.out.keep hb1).keep hb2).c0; have c3' := ((T1.out.keep hb1).keep hb2).c1; have d0 := ((T2.out.keep hb1).keep hb2).c0; have d1 := ((T2.out.keep hb1).keep hb2).c1; have f0 := ((T2.out.keep hb1).keep hb2).f0 0; have f1 := ((T2.out.keep hb1).keep hb2).f0 1))
  have TZ := (T2.out.keep hb1).keep hb2
  have KZ := bafter (bafter HB.out hb1 (Nat.le_refl _)) hb2 (Nat.le_refl _)
  go_wp2
  refine bodyPost_ret (results_num rfl rfl (TZ.put _ _)) rfl ?_
  exact ⟨_, rfl, q2.put TZ _ _, below_put KZ (by omega) _ _⟩

theorem rsub_new {w : World} {av bv : Value} {m n : Nat} (hx : RArg w av m) (hy : RArg w bv n) (h : n ≤ m) :
    Calls Tryz.prog 101 #[av, bv] w fun e w' => ∃ rv, e = .returned rv ∧ RRes w' rv (m - n) ∧ Below w.heap.size w w' := by
  refine (rsub_calls hx hy h).mono ?_
  rintro e w' ⟨rv, rfl, h1, h2⟩
  exact ⟨rv, rfl, h1.res, h2⟩
theorem lt_sub10 {m n k : Nat} (h : m < 10 ^ k) : m - n < 10 ^ k := Nat.lt_of_le_of_lt (Nat.sub_le _ _) h

set_option maxHeartbeats 4000000 in
theorem rnadd_calls {K : Nat} {w : World} {u v : Value} {x y : Int} (hu : NArg K w u x) (hv : NArg K w v y) (hK : K ≤ 900) :
    Calls Tryz.prog 62 #[u, v] w fun e w' => ∃ rv, e = .returned rv ∧ NRes w' rv (x + y) ∧ Below w.heap.size w w' := by
  obtain ⟨na, du, m, rfl, hm, hlm, rfl⟩ := hu
  obtain ⟨nb, dv, n, rfl, hn, hln, rfl⟩ := hv
  obtain ⟨a, L, c, rfl, _⟩ := hm.shape
  obtain ⟨b, M, d, rfl, _⟩ := hn.shape
  have Lm := hide hlm
  have Ln := hide hln
  obtain ⟨t0, t1, t2, hb⟩ := boxes w (.bool na) (.slice a L c) (.bool nb) (.slice b M d) (.bool false) (.slice none 0 0) 32
  have ne1 : ¬ w.heap.size + 1 + 1 = w.heap.size := by omega
  have ne2 : ¬ w.heap.size = w.heap.size + 1 + 1 := by omega
  by_cases hs : na = nb
  · subst hs
    rw [← add_sgn]
    have T0 := hide t0.drew
    have T1 := hide t1.drew
    have T2 := hide t2.drew
    have HB := hide hb.drew
    have Hm := hide ((hm.below hb.drew).arg hlm (by omega))
    have Hn := hide ((hn.below hb.drew).arg hln (by omega))
    clear hm hn t0 t1 t2 hb hlm hln
    go_enter Tryz.func62, Tryz.ntmps62
    go_wp2
    go_region_held3 (fun w' => w'.cell? ⟨w.heap.size, 0, none⟩ = some (.bool na) ∧ w'.cell? ⟨w.heap.size, 1, none⟩ = some (.slice a L c) ∧ w'.cell? ⟨w.heap.size + 1, 0, none⟩ = some (.bool na) ∧ w'.cell? ⟨w.heap.size + 1, 1, none⟩ = some (.slice b M d)) (go_keep)
      (first
        | (go_at_call 99; refine (add_rres Hm.out Hn.out).mono ?_; rintro e w1 ⟨r1, rfl, q1, hb1⟩; obtain ⟨a1, L1, k1, rfl, hsh1⟩ := q1.shape; clear hsh1; have c0 := (T0.out.keep hb1).c0; have c1 := (T0.out.keep hb1).c1; have c2 := (T1.out.keep hb1).c0; have c3 := (T1.out.keep hb1).c1)
        | (go_at_call 55; refine (rnorm_calls (RRes.lit (neg := na) q1 (lt_add10 Lm.out Ln.out)) (by omega)).mono ?_; rintro e w2 ⟨r2, rfl, q2, hb2⟩; obtain ⟨b2, a2, L2, k2, rfl⟩ := q2.form; have c0' := ((T0.out.keep hb1).keep hb2).c0; have c1' := ((T0.out.keep hb1).keep hb2).c1; have c2' := ((T1.out.keep hb1).keep hb2).c0; have c3' := ((T1.out.keep hb1).keep hb2).c1; have d0 := ((T2.out.keep hb1).keep hb2).c0; have d1 := ((T2.out.keep hb1).keep hb2).c1; have f0 := ((T2.out.keep hb1).keep hb2).f0 0; have f1 := ((T2.out.keep hb1).keep hb2).f0 1))
    have TZ := (T2.out.keep hb1).keep hb2
    have KZ := bafter (bafter HB.out hb1 (Nat.le_refl _)) hb2 (Nat.le_refl _)
    go_wp2
    refine bodyPost_ret (results_num rfl rfl (TZ.put _ _)) rfl ?_
    exact ⟨_, rfl, q2.put TZ _ _, below_put KZ (by omega) _ _⟩
  · have hs' : (na == nb) = false := beq_eq_false_iff_ne.2 hs
    have Hs := hide hs
    have S0 := hide t0
    have S1 := hide t1
    have S2 := hide t2
    have HB0 := hide hb
    have Hm0 := hide ((hm.below hb).arg hlm (by omega))
    have Hn0 := hide ((hn.below hb).arg hln (by omega))
    clear hm hn t0 t1 t2 hb hs hlm hln
    go_enter Tryz.func62, Tryz.ntmps62
    go_wp2_with fail
    refine (rcmp_calls Hm0.out Hn0.out).mono ?_
    rintro e w0 ⟨rfl, hb0⟩
    have T0 := hide (S0.out.keep hb0).drew
    have T1 := hide (S1.out.keep hb0).drew
    have T2 := hide (S2.out.keep hb0).drew
    have HB := hide (bafter HB0.out hb0 (Nat.le_refl _)).drew
    have Hm := hide ((Hm0.out.below hb0).below ((Below.refl _ _).drew))
    have Hn := hide ((Hn0.out.below hb0).below ((Below.refl _ _).drew))
    have e0 := (S0.out.keep hb0).c0
    have e1 := (S0.out.keep hb0).c1
    have e2 := (S1.out.keep hb0).c0
    have e3 := (S1.out.keep hb0).c1
    clear S0 S1 S2 HB0 Hm0 Hn0 hb0 hs'
    by_cases hlt : m < n
    · have Hlt := hide hlt
      have hneg : cmpI (m : Int) (n : Int) = -1 := cmpI_lt (by omega)
      rw [hneg]
      clear hneg hlt
      go_wp2
      go_region_held3 (fun w' => w'.cell? ⟨w.heap.size, 0, none⟩ = some (.bool na) ∧ w'.cell? ⟨w.heap.size, 1, none⟩ = some (.slice a L c) ∧ w'.cell? ⟨w.heap.size + 1, 0, none⟩ = some (.bool nb) ∧ w'.cell? ⟨w.heap.size + 1, 1, none⟩ = some (.slice b M d)) (go_keep)
        (first
          | (go_at_call 101; refine (rsub_new Hn.out Hm.out (Nat.le_of_lt Hlt.out)).mono ?_; rintro e w1 ⟨r1, rfl, q1, hb1⟩; obtain ⟨a1, L1, k1, rfl, hsh1⟩ := q1.shape; clear hsh1; have c0 := (T0.out.keep hb1).c0; have c1 := (T0.out.keep hb1).c1; have c2 := (T1.out.keep hb1).c0; have c3 := (T1.out.keep hb1).c1)
          | (go_at_call 55; refine (rnorm_calls (RRes.lit (neg := nb) q1 (lt_sub10 Ln.out)) (by omega)).mono ?_; rintro e w2 ⟨r2, rfl, q2, hb2⟩; obtain ⟨b2, a2, L2, k2, rfl⟩ := q2.form; have c0' := ((T0.out.keep hb1).keep hb2).c0; have c1' := ((T0.out.keep hb1).keep hb2).c1; have c2' := ((T1.out.keep hb1).keep hb2).c0; have c3' := ((T1.out.keep hb1).keep hb2).c1; have d0 := ((T2.out.keep hb1).keep hb2).c0; have d1 := ((T2.out.keep hb1).keep hb2).c1; have f0 := ((T2.out.keep hb1).keep hb2).f0 0; have f1 := ((T2.out.keep hb1).keep hb2).f0 1))
      have TZ := (T2.out.keep hb1).keep hb2
      have KZ := bafter (bafter HB.out hb1 (Nat.le_refl _)) hb2 (Nat.le_refl _)
      go_wp2
      refine bodyPost_ret (results_num rfl rfl (TZ.put _ _)) rfl ?_
      rw [← add_sgn2 Hs.out (Nat.le_of_lt Hlt.out)]
      exact ⟨_, rfl, q2.put TZ _ _, below_put KZ (by omega) _ _⟩
    · have Hlt := hide hlt
      have hneg : cmpI (m : Int) (n : Int) ≥ 0 := cmpI_ge (by omega)
      generalize cmpI (m : Int) (n : Int) = cc at *
      clear hlt
      go_wp2
      go_region_held3 (fun w' => w'.cell? ⟨w.heap.size, 0, none⟩ = some (.bool na) ∧ w'.cell? ⟨w.heap.size, 1, none⟩ = some (.slice a L c) ∧ w'.cell? ⟨w.heap.size + 1, 0, none⟩ = some (.bool nb) ∧ w'.cell? ⟨w.heap.size + 1, 1, none⟩ = some (.slice b M d)) (go_keep)
        (first
          | (go_at_call 101; refine (rsub_new Hm.out Hn.out (Nat.le_of_not_lt Hlt.out)).mono ?_; rintro e w1 ⟨r1, rfl, q1, hb1⟩; obtain ⟨a1, L1, k1, rfl, hsh1⟩ := q1.shape; clear hsh1; have c0 := (T0.out.keep hb1).c0; have c1 := (T0.out.keep hb1).c1; have c2 := (T1.out.keep hb1).c0; have c3 := (T1.out.keep hb1).c1)
          | (go_at_call 55; refine (rnorm_calls (RRes.lit (neg := na) q1 (lt_sub10 Lm.out)) (by omega)).mono ?_; rintro e w2 ⟨r2, rfl, q2, hb2⟩; obtain ⟨b2, a2, L2, k2, rfl⟩ := q2.form; have c0' := ((T0.out.keep hb1).keep hb2).c0; have c1' := ((T0.out.keep hb1).keep hb2).c1; have c2' := ((T1.out.keep hb1).keep hb2).c0; have c3' := ((T1.out.keep hb1).keep hb2).c1; have d0 := ((T2.out.keep hb1).keep hb2).c0; have d1 := ((T2.out.keep hb1).keep hb2).c1; have f0 := ((T2.out.keep hb1).keep hb2).f0 0; have f1 := ((T2.out.keep hb1).keep hb2).f0 1))
      have TZ := (T2.out.keep hb1).keep hb2
      have KZ := bafter (bafter HB.out hb1 (Nat.le_refl _)) hb2 (Nat.le_refl _)
      go_wp2
      refine bodyPost_ret (results_num rfl rfl (TZ.put _ _)) rfl ?_
      rw [← add_sgn1 Hs.out (Nat.le_of_not_lt Hlt.out)]
      exact ⟨_, rfl, q2.put TZ _ _, below_put KZ (by omega) _ _⟩

theorem NArg.form {K : Nat} {W : World} {v : Value} {z : Int} (h : NArg K W v z) : ∃ b a L c, v = .agg #[.bool b, .slice a L c] := by
  obtain ⟨neg, dv, n, rfl, hm, _⟩ := h
  obtain ⟨a, L, c, rfl, _⟩ := hm.shape
  exact ⟨_, _, _, _, rfl⟩
theorem NArg.up {K M : Nat} {W : World} {v : Value} {z : Int} (h : NArg K W v z) (hk : K ≤ M) : NArg M W v z := by
  obtain ⟨neg, dv, n, h1, h2, h3, h4⟩ := h
  exact ⟨neg, dv, n, h1, h2, lt_up10 h3 hk, h4⟩
theorem NArg.lt {K : Nat} {W : World} {v : Value} {z : Int} (h : NArg K W v z) : z.natAbs < 10 ^ K := by
  obtain ⟨neg, dv, n, h1, h2, h3, rfl⟩ := h
  rw [sgn_natAbs]
  exact h3
theorem NArg.drew {K : Nat} {W : World} {v : Value} {z : Int} (h : NArg K W v z) : NArg K W.drew v z := h.below ((Below.refl _ _).drew)
theorem sub_neg_eq (x y : Int) : x + -y = x - y := by omega

theorem gcd_lt10 {m n K : Nat} (hm : m < 10 ^ K) (hn : n < 10 ^ K) : Nat.gcd m n < 10 ^ K := by
  rcases Nat.eq_zero_or_pos m with e | e
  · rw [e, Nat.gcd_zero_left]; exact hn
  · exact Nat.lt_of_le_of_lt (Nat.gcd_le_left _ e) hm

set_option maxHeartbeats 1000000 in
theorem rngcd_calls {K : Nat} {w : World} {u v : Value} {x y : Int} (hu : NArg K w u x) (hv : NArg K w v y) (hK : K ≤ 1000) :
    Calls Tryz.prog 61 #[u, v] w fun e w' => ∃ rv, e = .returned rv ∧ NRes w' rv (Nat.gcd x.natAbs y.natAbs : Int) ∧ Below w.heap.size w w' := by
  obtain ⟨na, du, m, rfl, hm, hlm, rfl⟩ := hu
  obtain ⟨nb, dv, n, rfl, hn, hln, rfl⟩ := hv
  obtain ⟨a, L, c, rfl, _⟩ := hm.shape
  obtain ⟨b, M, d, rfl, _⟩ := hn.shape
  have Lm := hide hlm
  have Ln := hide hln
  obtain ⟨t0, t1, t2, hb⟩ := boxes w (.bool na) (.slice a L c) (.bool nb) (.slice b M d) (.bool false) (.slice none 0 0) 32
  have ne1 : ¬ w.heap.size + 1 + 1 = w.heap.size := by omega
  have ne2 : ¬ w.heap.size = w.heap.size + 1 + 1 := by omega
  have e0 : ((Nat.gcd (sgn na m).natAbs (sgn nb n).natAbs : Nat) : Int) = sgn false (Nat.gcd m n) := by rw [sgn_natAbs, sgn_natAbs]; rfl
  rw [e0]
  have T2 := hide t2
  have HB := hide hb
  have Hm := hide ((hm.below hb).arg hlm (by omega))
  have Hn := hide ((hn.below hb).arg hln (by omega))
  clear hm hn t0 t1 t2 hb hlm hln e0
  go_enter Tryz.func61, Tryz.ntmps61
  go_wp2_with fail
  refine (rgcd_calls Hm.out Hn.out Lm.out Ln.out hK).mono ?_
  rintro e w1 ⟨r1, rfl, q1, hb1⟩
  obtain ⟨a1, L1, k1, rfl, hsh1⟩ := q1.shape
  clear hsh1
  have T3 := hide (T2.out.keep hb1)
  have HB1 := hide (bafter HB.out hb1 (Nat.le_refl _))
  have N1 := hide (RRes.lit (neg := false) q1 (gcd_lt10 Lm.out Ln.out))
  clear q1 hb1 T2 HB
  go_wp2_with fail
  refine (rnorm_calls N1.out hK).mono ?_
  rintro e w2 ⟨r2, rfl, q2, hb2⟩
  obtain ⟨b9, a9, L9, k9, rfl⟩ := q2.form
  have TZ := T3.out.keep hb2
  have KZ := bafter HB1.out hb2 (Nat.le_refl _)
  have d0 := TZ.c0
  have d1 := TZ.c1
  have f0 := TZ.f0 0
  have f1 := TZ.f0 1
  have TZ' := hide TZ
  have KZ' := hide KZ
  clear TZ KZ hb2
  go_wp2
  refine bodyPost_ret (results_num rfl rfl (TZ'.out.put _ _)) rfl ?_
  exact ⟨_, rfl, q2.put TZ'.out _ _, below_put KZ'.out (by omega) _ _⟩

set_option maxHeartbeats 1000000 in
theorem rnfrom_calls {w : World} {neg : Bool} {sv : Value} {xs : List Nat} (h : Limbs w sv xs) (hl : xs.length ≤ 8) :
    Calls Tryz.prog 67 #[.bool neg, sv] w fun e w' => ∃ rv, e = .returned rv ∧ NRes w' rv (sgn neg (val R xs)) ∧ Below w.heap.size w w' := by
  have T0 := hide (Two.new w (.bool false) (.slice none 0 0) 32)
  have HB := hide (bel w (.cells #[.bool false, .slice none 0 0] 32))
  have H := hide (h.below HB.out)
  have L8 := hide (lt120 h.small (by omega))
  clear h
  go_enter Tryz.func67, Tryz.ntmps67
  go_wp2_with fail
  refine (from_res H.out (by omega)).mono ?_
  rintro e w1 ⟨r1, rfl, q1, hb1⟩
  obtain ⟨a1, L1, k1, rfl, hsh1⟩ := q1.shape
  clear hsh1
  have T3 := hide (T0.out.keep hb1)
  have HB1 := hide (bafter HB.out hb1 (Nat.le_refl _))
  have N1 := hide (RRes.lit (neg := neg) q1 L8.out)
  clear q1 hb1 T0 HB H L8
  go_wp2_with fail
  refine (rnorm_calls N1.out (by decide)).mono ?_
  rintro e w2 ⟨r2, rfl, q2, hb2⟩
  obtain ⟨b9, a9, L9, k9, rfl⟩ := q2.form
  have TZ := T3.out.keep hb2
  have KZ := bafter HB1.out hb2 (Nat.le_refl _)
  have d0 := TZ.c0
  have d1 := TZ.c1
  have f0 := TZ.f0 0
  have f1 := TZ.f0 1
  have TZ' := hide TZ
  have KZ' := hide KZ
  clear TZ KZ hb2
  go_wp2
  refine bodyPost_ret (results_num rfl rfl (TZ'.out.put _ _)) rfl ?_
  exact ⟨_, rfl, q2.put TZ'.out _ _, below_put KZ'.out (by omega) _ _⟩

theorem two_second (W : World) (o : Obj) (x y : Value) (t : TypeId) : Two ((W.alloc o).alloc (.cells #[x, y] t)) (W.heap.size + 1) x y t := by
  have := Two.new (W.alloc o) x y t
  rw [World.size_alloc] at this
  exact this

end Go.Proofs.YtnfplceadkelaaaGreatDoor
