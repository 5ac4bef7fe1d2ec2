/- The reference's numbers with a sign: DivMod, Divides. -/
import Derived.Test.YtpenhmkodakpaaaDoorBigRef2
import Derived.Test.YtpenhmkodakpaaaDoorBigFloor
import Derived.Deep.RegionWith
import Derived.Deep.DeepMust
namespace Go.Proofs.YtpenhmkodakpaaaDoor
set_option linter.unusedVariables false
set_option linter.unusedSimpArgs false
set_option maxRecDepth 100000
open Go Go.RowKit Go.Shelf Go.Lib

/-- 4 blocks of two cells. -/
def T4 (W : World) (b1 : Nat) (x1 y1 : Value) (b2 : Nat) (x2 y2 : Value) (b3 : Nat) (x3 y3 : Value) (b4 : Nat) (x4 y4 : Value) : Prop := Two W b1 x1 y1 43 ∧ Two W b2 x2 y2 43 ∧ Two W b3 x3 y3 43 ∧ Two W b4 x4 y4 43
theorem T4.keep {W W' : World} {b1 : Nat} {x1 y1 : Value} {b2 : Nat} {x2 y2 : Value} {b3 : Nat} {x3 y3 : Value} {b4 : Nat} {x4 y4 : Value} (h : T4 W b1 x1 y1 b2 x2 y2 b3 x3 y3 b4 x4 y4) (hb : Below W.heap.size W W') : T4 W' b1 x1 y1 b2 x2 y2 b3 x3 y3 b4 x4 y4 :=
  ⟨h.1.keep hb, h.2.1.keep hb, h.2.2.1.keep hb, h.2.2.2.keep hb⟩
theorem T4.drew {W : World} {b1 : Nat} {x1 y1 : Value} {b2 : Nat} {x2 y2 : Value} {b3 : Nat} {x3 y3 : Value} {b4 : Nat} {x4 y4 : Value} (h : T4 W b1 x1 y1 b2 x2 y2 b3 x3 y3 b4 x4 y4) : T4 W.drew b1 x1 y1 b2 x2 y2 b3 x3 y3 b4 x4 y4 := h
/-- 5 blocks of two cells. -/
def T5 (W : World) (b1 : Nat) (x1 y1 : Value) (b2 : Nat) (x2 y2 : Value) (b3 : Nat) (x3 y3 : Value) (b4 : Nat) (x4 y4 : Value) (b5 : Nat) (x5 y5 : Value) : Prop := Two W b1 x1 y1 43 ∧ Two W b2 x2 y2 43 ∧ Two W b3 x3 y3 43 ∧ Two W b4 x4 y4 43 ∧ Two W b5 x5 y5 43
theorem T5.keep {W W' : World} {b1 : Nat} {x1 y1 : Value} {b2 : Nat} {x2 y2 : Value} {b3 : Nat} {x3 y3 : Value} {b4 : Nat} {x4 y4 : Value} {b5 : Nat} {x5 y5 : Value} (h : T5 W b1 x1 y1 b2 x2 y2 b3 x3 y3 b4 x4 y4 b5 x5 y5) (hb : Below W.heap.size W W') : T5 W' b1 x1 y1 b2 x2 y2 b3 x3 y3 b4 x4 y4 b5 x5 y5 :=
  ⟨h.1.keep hb, h.2.1.keep hb, h.2.2.1.keep hb, h.2.2.2.1.keep hb, h.2.2.2.2.keep hb⟩
theorem T5.drew {W : World} {b1 : Nat} {x1 y1 : Value} {b2 : Nat} {x2 y2 : Value} {b3 : Nat} {x3 y3 : Value} {b4 : Nat} {x4 y4 : Value} {b5 : Nat} {x5 y5 : Value} (h : T5 W b1 x1 y1 b2 x2 y2 b3 x3 y3 b4 x4 y4 b5 x5 y5) : T5 W.drew b1 x1 y1 b2 x2 y2 b3 x3 y3 b4 x4 y4 b5 x5 y5 := h

theorem results_num3 {fn : Func} {i j k : Tmp} (h : fn.results = #[.cell i 43, .cell j 43, .tmp k]) {tmps : Array Value} {W : World} {b b' : Nat} {x y x' y' : Value} {t : TypeId} {ev : Value} (hp : tmps.getD i undef = .pointer (some ⟨b, 0, none⟩)) (hq : tmps.getD j undef = .pointer (some ⟨b', 0, none⟩)) (he : tmps.getD k undef = ev) (T : Two W b x y t) (T' : Two W b' x' y' t) :
    (results fn tmps).run Tryd.prog W = .ok (.tuple #[.agg #[x, y], .agg #[x', y'], ev]) W := by
  have c0 := T.c0
  have c1 := T.c1
  have d0 := T'.c0
  have d1 := T'.c1
  have hp' : tmps[i]?.getD undef = .pointer (some ⟨b, 0, none⟩) := by simpa using hp
  have hq' : tmps[j]?.getD undef = .pointer (some ⟨b', 0, none⟩) := by simpa using hq
  have he' : tmps[k]?.getD undef = ev := by simpa using he
  simp [results, h, hp', hq', he', go_sem, c0, c1, d0, d1]

theorem results_num2 {fn : Func} {i k : Tmp} (h : fn.results = #[.cell i 43, .tmp k]) {tmps : Array Value} {W : World} {b : Nat} {x y : Value} {t : TypeId} {ev : Value} (hp : tmps.getD i undef = .pointer (some ⟨b, 0, none⟩)) (he : tmps.getD k undef = ev) (T : Two W b x y t) :
    (results fn tmps).run Tryd.prog W = .ok (.tuple #[.agg #[x, y], ev]) W := by
  have c0 := T.c0
  have c1 := T.c1
  have hp' : tmps[i]?.getD undef = .pointer (some ⟨b, 0, none⟩) := by simpa using hp
  have he' : tmps[k]?.getD undef = ev := by simpa using he
  simp [results, h, hp', he', go_sem, c0, c1]

set_option maxHeartbeats 2000000 in
theorem rndiv_zero {K : Nat} {w : World} {u v : Value} {x y : Int} (hu : NArg K w u x) (hv : NArg K w v y) (hK : K ≤ 1000) (h0 : y = 0) :
    Calls Tryd.prog 38 #[u, v] w fun e w' => e = .returned (.tuple #[.agg #[.bool false, .slice none 0 0], .agg #[.bool false, .slice none 0 0], .int .i64 4]) ∧ Below w.heap.size w w' := by
  obtain ⟨na, a, L, c, rfl⟩ := hu.form
  obtain ⟨nb, b, M, d, rfl⟩ := hv.form
  obtain ⟨t0, t1, t2, t3, hb⟩ := boxes4 w (.bool na) (.slice a L c) (.bool nb) (.slice b M d) (.bool false) (.slice none 0 0) (.bool false) (.slice none 0 0) 43
  have T2 := hide t2
  have T3 := hide t3
  have HB := hide hb
  have Hv := hide (hv.below hb)
  have H0 := hide h0
  clear hu hv t0 t1 t2 t3 hb h0
  go_enter Tryd.func38, Tryd.ntmps38
  go_wp2_with fail
  refine (rsign_calls Hv.out hK).mono ?_
  rintro e w1 ⟨rfl, hb1⟩
  rw [H0.out, sg_zero]
  have U2 := T2.out.keep hb1
  have U3 := T3.out.keep hb1
  have d0 := U2.c0
  have d1 := U2.c1
  have f0 := U2.f0 0
  have f1 := U2.f0 1
  have e0 := U3.c0
  have e1 := U3.c1
  have g0 := U3.f0 0
  have g1 := U3.f0 1
  have V2 := hide U2
  have V3 := hide U3
  have KB := hide (bafter HB.out hb1 (Nat.le_refl _))
  clear U2 U3 hb1 T2 T3 HB Hv
  go_wp2
  refine bodyPost_ret (results_num3 rfl rfl rfl rfl ((V2.out.put _ _).other (by omega) _ _) ((V3.out.other (by omega) _ _).put _ _)) rfl ?_
  exact ⟨rfl, below_put (below_put KB.out (by omega) _ _) (by omega) _ _⟩

theorem divmod_rres {w : World} {av bv : Value} {m n k : Nat} (hx : RArg w av m) (hy : RArg w bv n) (hn0 : n ≠ 0) (hkn : n < 10 ^ k) (hk9 : k ≤ 1000) :
    Calls Tryd.prog 76 #[av, bv] w fun e w' => ∃ q r, e = .returned (.tuple #[q, r]) ∧ RRes w' q (m / n) ∧ RRes w' r (m % n) ∧ Below w.heap.size w w' := by
  refine (rdivmod_calls hx hy hn0 hkn hk9).mono ?_
  rintro e w' ⟨q, r, rfl, h1, h2, h3⟩
  exact ⟨q, r, rfl, h1.res, h2.res, h3⟩

theorem div_sign {x y : Int} (hy : y ≠ 0) : sgn (decide (x - x % y < 0) != decide (y < 0)) ((x - x % y).natAbs / y.natAbs) = x / y := by
  have e : x - x % y = y * (x / y) := by have := Int.mul_ediv_add_emod x y; omega
  have e2 : (y * (x / y)).natAbs / y.natAbs = (x / y).natAbs := by
    rw [Int.natAbs_mul, Nat.mul_div_cancel_left _ (by omega)]
  rw [e, e2]
  generalize x / y = q
  rcases Int.lt_trichotomy q 0 with hq | hq | hq <;> rcases Int.lt_or_gt_of_ne hy with h | h
  · have hp : 0 < y * q := Int.mul_pos_of_neg_of_neg h hq
    rw [decide_eq_false (by omega), decide_eq_true h]
    unfold sgn
    simp
    omega
  · have hp : y * q < 0 := Int.mul_neg_of_pos_of_neg h hq
    rw [decide_eq_true hp, decide_eq_false (by omega)]
    unfold sgn
    simp
    omega
  · subst hq
    unfold sgn
    split <;> simp
  · subst hq
    unfold sgn
    split <;> simp
  · have hp : y * q < 0 := Int.mul_neg_of_neg_of_pos h hq
    rw [decide_eq_true hp, decide_eq_true h]
    unfold sgn
    simp
    omega
  · have hp : 0 < y * q := Int.mul_pos h hq
    rw [decide_eq_false (by omega), decide_eq_false (by omega)]
    unfold sgn
    simp
    omega

theorem rest_up {x y : Int} (hy : y ≠ 0) (hx : x < 0) (hr : x.natAbs % y.natAbs ≠ 0) : (y.natAbs : Int) - ((x.natAbs % y.natAbs : Nat) : Int) = x % y := by
  have h := spec_up (nb := decide (y < 0)) (m := x.natAbs) (n := y.natAbs) (by omega) hr
  have e1 : sgn true x.natAbs = x := by unfold sgn; rw [if_pos rfl]; omega
  have h2 := h.2
  rw [e1, sgn_abs] at h2
  rw [← h2]
  have := Nat.mod_lt x.natAbs (y := y.natAbs) (by omega)
  unfold sgn
  simp
  omega
theorem rest_down {x y : Int} (hy : y ≠ 0) (h : x < 0 → x.natAbs % y.natAbs = 0) : ((x.natAbs % y.natAbs : Nat) : Int) = x % y := by
  have h1 := spec_down (na := decide (x < 0)) (nb := decide (y < 0)) (m := x.natAbs) (n := y.natAbs) (by omega) (fun e => h (of_decide_eq_true e))
  have h2 := h1.2
  rw [sgn_abs, sgn_abs] at h2
  rw [← h2]
  rfl

theorem NArg.flag {K : Nat} {W : World} {nb : Bool} {dv : Value} {y : Int} (h : NArg K W (.agg #[.bool nb, dv]) y) (hy : y ≠ 0) : nb = decide (y < 0) := by
  obtain ⟨neg, du, m, e, hm, hl, rfl⟩ := h
  injection e with e
  simp only [Array.mk.injEq, List.cons.injEq, Value.bool.injEq, and_true] at e
  obtain ⟨rfl, rfl⟩ := e
  unfold sgn at hy ⊢
  cases nb
  · simp
  · simp at hy ⊢
    omega
theorem NArg.dig {K : Nat} {W : World} {nb : Bool} {dv : Value} {y : Int} (h : NArg K W (.agg #[.bool nb, dv]) y) : RRes W dv y.natAbs := by
  obtain ⟨neg, du, m, e, hm, hl, rfl⟩ := h
  injection e with e
  simp only [Array.mk.injEq, List.cons.injEq, Value.bool.injEq, and_true] at e
  obtain ⟨rfl, rfl⟩ := e
  rw [sgn_natAbs]
  exact hm
theorem rem10 {x y : Int} {k : Nat} (h0 : y ≠ 0) (h : y.natAbs < 10 ^ k) : (x % y).natAbs < 10 ^ k := by
  refine Nat.lt_trans ?_ h
  have h1 := Int.emod_nonneg x h0
  have h2 := Int.emod_lt x h0
  omega
theorem diff10 {x y : Int} {k : Nat} (h0 : y ≠ 0) (hx : x.natAbs < 10 ^ k) (h : y.natAbs < 10 ^ k) : (x - x % y).natAbs < 10 ^ (k + 1) := by
  have h1 := rem10 (x := x) h0 h
  have h2 := lt_add10 hx h1
  have h3 := Int.natAbs_sub_le x (x % y)
  omega
theorem NRes.drew {W : World} {v : Value} {z : Int} (h : NRes W v z) : NRes W.drew v z := h.below ((Below.refl _ _).drew)
theorem RRes.drew {W : World} {v : Value} {n : Nat} (h : RRes W v n) : RRes W.drew v n := h.below ((Below.refl _ _).drew)

theorem NArg.put {K : Nat} {W : World} {b : Nat} {bx : Bool} {ay : Option Addr} {Ly cy : Nat} {t : TypeId} {v : Value} {z : Int} (h : NArg K W v z) (T : Two W b (.bool bx) (.slice ay Ly cy) t) (p q : Value) :
    NArg K ((W.setCell ⟨b, 0, none⟩ p).setCell ⟨b, 1, none⟩ q) v z := by
  obtain ⟨neg, dv, n, h1, h2, h3⟩ := h
  exact ⟨neg, dv, n, h1, h2.put T p q, h3⟩

set_option maxHeartbeats 8000000 in
theorem rndiv_calls {K : Nat} {w : World} {u v : Value} {x y : Int} (hu : NArg K w u x) (hv : NArg K w v y) (hK : K ≤ 400) (h0 : y ≠ 0) :
    Calls Tryd.prog 38 #[u, v] w fun e w' => ∃ q r, e = .returned (.tuple #[q, r, .int .i64 0]) ∧ NRes w' q (x / y) ∧ NRes w' r (x % y) ∧ Below w.heap.size w w' := by
  obtain ⟨na, a, L, c, rfl⟩ := hu.form
  obtain ⟨nb, b, M, d, rfl⟩ := hv.form
  have Hnb := hide (hv.flag h0)
  have Lx := hide hu.lt
  have Ly := hide hv.lt
  have Ld := hide (diff10 h0 hu.lt hv.lt)
  have H0 := hide h0
  have Hn0 : Hid (y.natAbs ≠ 0) := by show _ ≠ _; omega
  obtain ⟨t0, t1, t2, t3, hb⟩ := boxes4 w (.bool na) (.slice a L c) (.bool nb) (.slice b M d) (.bool false) (.slice none 0 0) (.bool false) (.slice none 0 0) 43
  have S0 : Hid (T4 _ _ _ _ _ _ _ _ _ _ _ _ _) := ⟨t0, t1, t2, t3⟩
  have HB := hide hb
  have Hu := hide (hu.below hb)
  have Hv := hide (hv.below hb)
  have hsy : (sg y == 0) = false := beq_eq_false_iff_ne.2 (sg_ne h0)
  clear hu hv t0 t1 t2 t3 hb h0
  go_enter Tryd.func38, Tryd.ntmps38
  go_wp2_with fail
  refine (rsign_calls Hv.out (by omega)).mono ?_
  rintro e w1 ⟨rfl, hb1⟩
  generalize sg y = sy at *
  have Z0 := hide (S0.out.keep hb1).drew
  have Kz0 := hide (bafter HB.out hb1 (Nat.le_refl _)).drew
  have U0 := hide (Hu.out.below hb1).drew
  have V0 := hide (Hv.out.below hb1).drew
  have c0 := (S0.out.keep hb1).1.c0
  have c1 := (S0.out.keep hb1).1.c1
  have c2 := (S0.out.keep hb1).2.1.c0
  have c3 := (S0.out.keep hb1).2.1.c1
  clear S0 HB Hu Hv hb1
  go_wp2
  go_region_held3 (fun w' => w'.cell? ⟨w.heap.size, 0, none⟩ = some (.bool na) ∧ w'.cell? ⟨w.heap.size, 1, none⟩ = some (.slice a L c) ∧ w'.cell? ⟨w.heap.size + 1, 0, none⟩ = some (.bool nb) ∧ w'.cell? ⟨w.heap.size + 1, 1, none⟩ = some (.slice b M d))
    (first | exact ⟨Z3.out.1.c0, Z3.out.1.c1, Z3.out.2.1.c0, Z3.out.2.1.c1⟩ | exact ⟨Z2.out.1.c0, Z2.out.1.c1, Z2.out.2.1.c0, Z2.out.2.1.c1⟩ | exact ⟨Z1.out.1.c0, Z1.out.1.c1, Z1.out.2.1.c0, Z1.out.2.1.c1⟩ | exact ⟨Z0.out.1.c0, Z0.out.1.c1, Z0.out.2.1.c0, Z0.out.2.1.c1⟩)
    (first
      | (go_at_call 76; have g := Z2; clear g; refine (divmod_rres (d2.out.arg Lx.out (by omega)) (b2.out.arg Ly.out (by omega)) Hn0.out Ly.out (by omega)).mono ?_; rintro e z3 ⟨qv, rv, rfl, _, qr, g3⟩; obtain ⟨ar0, Lr0, cr0, rfl, hsh0⟩ := qr.shape; clear hsh0; have Z3 := hide (Z2.out.keep g3); have Kz3 := hide (bafter Kz2.out g3 (Nat.le_refl _)); have U3 := hide (U2.out.below g3); have V3 := hide (V2.out.below g3))
      | (go_at_call 77; have g := Z1; clear g; refine (trim_any V1.out.dig Ly.out (by omega)).mono ?_; rintro e z2 ⟨v2, rfl, p2, g2⟩; have Z2 := hide (Z1.out.keep g2); have Kz2 := hide (bafter Kz1.out g2 (Nat.le_refl _)); have U2 := hide (U1.out.below g2); have V2 := hide (V1.out.below g2); have b2 := hide p2; have d2 := hide (d1.out.below g2))
      | (go_at_call 77; have g := Z0; clear g; refine (trim_any U0.out.dig Lx.out (by omega)).mono ?_; rintro e z1 ⟨v1, rfl, p1, g1⟩; have Z1 := hide (Z0.out.keep g1); have Kz1 := hide (bafter Kz0.out g1 (Nat.le_refl _)); have U1 := hide (U0.out.below g1); have V1 := hide (V0.out.below g1); have d1 := hide p1))
  have Qr := hide (RRes.lit (neg := false) (K := K) qr (Nat.lt_of_le_of_lt (Nat.le_of_lt (Nat.mod_lt _ (Nat.pos_of_ne_zero Hn0.out))) Ly.out))
  clear Z0 Z1 Z2 Kz0 Kz1 Kz2 U0 U1 U2 V0 V1 V2 d1 d2 b2 qr c0 c1 c2 c3
  go_wp2_with fail
  refine (rnorm_calls Qr.out (by omega)).mono ?_
  rintro e w4 ⟨r4, rfl, q4, j4⟩
  obtain ⟨nr, ar, Lr, cr, rfl⟩ := q4.form
  have o := bel w4 (.cells #[.bool nr, .slice ar Lr cr] 43)
  have J := bthn j4 o
  have Z4p := Z3.out.keep j4
  have c0 := Z4p.1.c0
  have c1 := Z4p.1.c1
  have l1 : w.heap.size + 1 + 1 + 1 < w4.heap.size := (Array.getElem?_eq_some_iff.1 Z4p.2.2.2).1
  have l0 : w.heap.size < w4.heap.size := by omega
  have Z4 := hide (Z3.out.keep J)
  have G4 := hide (Two.new w4 (.bool nr) (.slice ar Lr cr) 43)
  have Kz4 := hide (bafter Kz3.out J (Nat.le_refl _))
  have U4 := hide (U3.out.below J)
  have V4 := hide (V3.out.below J)
  have R4 := hide (q4.below o)
  have Hl1 := hide l1
  clear Z3 Kz3 U3 V3 Qr q4 j4 o J Z4p
  go_wp2_with fail
  refine (rsign_calls U4.out (by omega)).mono ?_
  rintro e w5 ⟨rfl, j5⟩
  have Z5 := hide (Z4.out.keep j5)
  have G5 := hide (G4.out.keep j5)
  have Kz5 := hide (bafter Kz4.out j5 (Nat.le_refl _))
  have U5 := hide (U4.out.below j5)
  have V5 := hide (V4.out.below j5)
  have R5 := hide (R4.out.below j5)
  clear Z4 G4 Kz4 U4 V4 R4 j5 c0 c1
  by_cases hx : x < 0
  · rw [sg_neg hx]
    have h0 := G5.out.c0
    have h1 := G5.out.c1
    go_wp2_with fail
    refine (rsign_calls (R5.out.arg (by rw [sgn_natAbs]; exact Nat.lt_of_le_of_lt (Nat.le_of_lt (Nat.mod_lt _ (Nat.pos_of_ne_zero Hn0.out))) Ly.out)) (by omega : K ≤ 1000)).mono ?_
    rintro e w6 ⟨rfl, j6⟩
    have Z6 := hide (Z5.out.keep j6)
    have G6 := hide (G5.out.keep j6)
    have Kz6 := hide (bafter Kz5.out j6 (Nat.le_refl _))
    have U6 := hide (U5.out.below j6)
    have V6 := hide (V5.out.below j6)
    have R6 := hide (R5.out.below j6)
    clear Z5 G5 Kz5 U5 V5 R5 j6 h0 h1
    by_cases hr : x.natAbs % y.natAbs = 0
    · have Hr := hide (rest_down H0.out (fun _ => hr))
      have hsg : sg (sgn false (x.natAbs % y.natAbs)) = 0 := by rw [hr]; rfl
      rw [hsg]
      have Rr : Hid (NRes w6 (.agg #[.bool nr, .slice ar Lr cr]) (x % y)) := by
        have h := R6.out
        rw [show sgn false (x.natAbs % y.natAbs) = ((x.natAbs % y.natAbs : Nat) : Int) from rfl, Hr.out] at h
        exact h
      have X := Z6
      have XG := G6
      have KX := Kz6
      have Ax := U6
      have By := V6
      clear Z6 G6 Kz6 U6 V6 R6 hr hx Hr hsg
      have c0 := X.out.1.c0
      have c1 := X.out.1.c1
      have h0 := XG.out.c0
      have h1 := XG.out.c1
      have hlX : w4.heap.size < w6.heap.size := (Array.getElem?_eq_some_iff.1 XG.out).1
      go_wp2_with fail
      refine (rnsub_calls Ax.out (Rr.out.arg (rem10 H0.out Ly.out)) (by omega)).mono ?_
      rintro e w7 ⟨r7, rfl, q7, j7⟩
      obtain ⟨dv7, rfl, p7⟩ := q7
      obtain ⟨a7, L7, c7, rfl, _⟩ := p7.shape
      generalize hs7 : decide (x - x % y < 0) = s7
      have Hs7 := hide hs7
      have o := bel w7 (.cells #[.bool s7, .slice a7 L7 c7] 43)
      have J := bthn j7 o
      have Z0 : Hid (T5 (w7.alloc (.cells #[.bool s7, .slice a7 L7 c7] 43)).drew _ _ _ _ _ _ _ _ _ _ _ _ _ _ _) := ⟨(X.out.2.1.keep J).drew, (Two.new w7 _ _ _).drew, (XG.out.keep J).drew, (X.out.2.2.1.keep J).drew, (X.out.2.2.2.keep J).drew⟩
      have Kz0 := hide (bafter KX.out J (Nat.le_refl _)).drew
      have D0 := hide (p7.below o).drew
      have B0 := hide (By.out.dig.below J).drew
      have R0 := hide (Rr.out.below J).drew
      have hl1 := Hl1.out
      have hl7 := j7.size
      have hDQ : w7.heap.size ≠ w.heap.size + 1 + 1 := by omega
      have hDR : w7.heap.size ≠ w.heap.size + 1 + 1 + 1 := by omega
      have hBQ : w.heap.size + 1 ≠ w.heap.size + 1 + 1 := by omega
      have hBR : w.heap.size + 1 ≠ w.heap.size + 1 + 1 + 1 := by omega
      have hGQ : w4.heap.size ≠ w.heap.size + 1 + 1 := by omega
      have hGR : w4.heap.size ≠ w.heap.size + 1 + 1 + 1 := by omega
      clear c0 c1 h0 h1 p7 j7 o J X XG Rr KX Ax By hs7 hl1 hl7
      go_wp2
      go_region_held3 (fun w' => w'.cell? ⟨w7.heap.size, 0, none⟩ = some (.bool s7) ∧ w'.cell? ⟨w7.heap.size, 1, none⟩ = some (.slice a7 L7 c7) ∧ w'.cell? ⟨w.heap.size + 1, 0, none⟩ = some (.bool nb) ∧ w'.cell? ⟨w.heap.size + 1, 1, none⟩ = some (.slice b M d))
        (first | exact ⟨Z3.out.2.1.c0, Z3.out.2.1.c1, Z3.out.1.c0, Z3.out.1.c1⟩ | exact ⟨Z2.out.2.1.c0, Z2.out.2.1.c1, Z2.out.1.c0, Z2.out.1.c1⟩ | exact ⟨Z1.out.2.1.c0, Z1.out.2.1.c1, Z1.out.1.c0, Z1.out.1.c1⟩ | exact ⟨Z0.out.2.1.c0, Z0.out.2.1.c1, Z0.out.1.c0, Z0.out.1.c1⟩)
        (first
          | (go_at_call 76; have g := Z2; clear g; refine (divmod_rres (d2.out.arg Ld.out (by omega)) (b2.out.arg Ly.out (by omega)) Hn0.out Ly.out (by omega)).mono ?_; rintro e z3 ⟨qv, rv, rfl, qq, _, g3⟩; obtain ⟨aq, Lq, cq, rfl, hsh0⟩ := qq.shape; clear hsh0; have Z3 := hide (Z2.out.keep g3); have Kz3 := hide (bafter Kz2.out g3 (Nat.le_refl _)); have R3 := hide (R2.out.below g3))
          | (go_at_call 77; have g := Z1; clear g; refine (trim_any B1.out Ly.out (by omega)).mono ?_; rintro e z2 ⟨v2, rfl, p2, g2⟩; have Z2 := hide (Z1.out.keep g2); have Kz2 := hide (bafter Kz1.out g2 (Nat.le_refl _)); have R2 := hide (R1.out.below g2); have b2 := hide p2; have d2 := hide (d1.out.below g2))
          | (go_at_call 77; have g := Z0; clear g; refine (trim_any D0.out Ld.out (by omega)).mono ?_; rintro e z1 ⟨v1, rfl, p1, g1⟩; have Z1 := hide (Z0.out.keep g1); have Kz1 := hide (bafter Kz0.out g1 (Nat.le_refl _)); have R1 := hide (R0.out.below g1); have B1 := hide (B0.out.below g1); have d1 := hide p1))
      have Y0 := hide Z3.out.drew
      have Ky0 := hide Kz3.out.drew
      have Ry0 := hide R3.out.drew
      have Qy := hide (RRes.lit (neg := s7 != nb) (K := K + 1) qq.drew (Nat.lt_of_le_of_lt (Nat.div_le_self _ _) Ld.out))
      clear Z0 Z1 Z2 Z3 Kz0 Kz1 Kz2 Kz3 R0 R1 R2 R3 D0 B0 B1 d1 d2 b2 qq
      go_wp2
      go_region_held3 (fun w' => w'.cell? ⟨w7.heap.size, 0, none⟩ = some (.bool s7) ∧ w'.cell? ⟨w7.heap.size, 1, none⟩ = some (.slice a7 L7 c7) ∧ w'.cell? ⟨w.heap.size + 1, 0, none⟩ = some (.bool nb) ∧ w'.cell? ⟨w.heap.size + 1, 1, none⟩ = some (.slice b M d) ∧ w'.cell? ⟨w4.heap.size, 0, none⟩ = some (.bool nr) ∧ w'.cell? ⟨w4.heap.size, 1, none⟩ = some (.slice ar Lr cr))
        (first | (with_reducible exact ⟨tD.c0, tD.c1, tB.c0, tB.c1, tG.c0, tG.c1⟩) | (with_reducible exact ⟨(tD.other hDQ _ _).c0, (tD.other hDQ _ _).c1, (tB.other hBQ _ _).c0, (tB.other hBQ _ _).c1, (tG.other hGQ _ _).c0, (tG.other hGQ _ _).c1⟩) | (with_reducible exact ⟨((tD.other hDQ _ _).other hDR _ _).c0, ((tD.other hDQ _ _).other hDR _ _).c1, ((tB.other hBQ _ _).other hBR _ _).c0, ((tB.other hBQ _ _).other hBR _ _).c1, ((tG.other hGQ _ _).other hGR _ _).c0, ((tG.other hGQ _ _).other hGR _ _).c1⟩) | exact ⟨Y0.out.2.1.c0, Y0.out.2.1.c1, Y0.out.1.c0, Y0.out.1.c1, Y0.out.2.2.1.c0, Y0.out.2.2.1.c1⟩)
        (first | (go_at_call 67; refine (rnorm_calls Qy.out (by omega)).mono ?_; rintro e y1 ⟨v1, rfl, p1, g1⟩; obtain ⟨nq, aq1, Lq1, cq1, rfl⟩ := p1.form; have Y1 := hide (Y0.out.keep g1); have tD : Two y1 w7.heap.size (.bool s7) (.slice a7 L7 c7) 43 := Y1.out.2.1; have tB : Two y1 (w.heap.size + 1) (.bool nb) (.slice b M d) 43 := Y1.out.1; have tG : Two y1 w4.heap.size (.bool nr) (.slice ar Lr cr) 43 := Y1.out.2.2.1; have Ky1 := hide (bafter Ky0.out g1 (Nat.le_refl _)); have Ry1 := hide (Ry0.out.below g1); have d0 := Y1.out.2.2.2.1.c0; have d1 := Y1.out.2.2.2.1.c1; have f0 := Y1.out.2.2.2.1.f0 0; have f1 := Y1.out.2.2.2.1.f0 1; have e0 := Y1.out.2.2.2.2.c0; have e1 := Y1.out.2.2.2.2.c1; have g0 := Y1.out.2.2.2.2.f0 0; have g1' := Y1.out.2.2.2.2.f0 1))
      go_wp2
      refine bodyPost_ret (results_num3 rfl rfl rfl rfl ((Y1.out.2.2.2.1.put _ _).other (by omega) _ _) ((Y1.out.2.2.2.2.other (by omega) _ _).put _ _)) rfl ?_
      have hq : sgn (s7 != nb) ((x - x % y).natAbs / y.natAbs) = x / y := by rw [← Hs7.out, Hnb.out]; exact div_sign H0.out
      rw [hq] at p1
      exact ⟨_, _, rfl, (p1.put Y1.out.2.2.2.1 _ _).put (Y1.out.2.2.2.2.other (by omega) _ _) _ _, (Ry1.out.put Y1.out.2.2.2.1 _ _).put (Y1.out.2.2.2.2.other (by omega) _ _) _ _, below_put (below_put Ky1.out (by omega) _ _) (by omega) _ _⟩
    · have Hr := hide (rest_up H0.out hx hr)
      have hsg : sg (sgn false (x.natAbs % y.natAbs)) = 1 := sg_pos (by unfold sgn; simp; omega)
      rw [hsg]
      clear hr hx hsg
      have e0 := Z6.out.2.1.c0
      have e1 := Z6.out.2.1.c1
      have e2 := G6.out.c0
      have e3 := G6.out.c1
      have Ly1 : Hid (((y.natAbs : Int)).natAbs < 10 ^ K) := by show _ < _; rw [Int.natAbs_natCast]; exact Ly.out
      have Lr1 : Hid ((sgn false (x.natAbs % y.natAbs)).natAbs < 10 ^ K) := by show _ < _; rw [sgn_natAbs]; exact Nat.lt_of_le_of_lt (Nat.le_of_lt (Nat.mod_lt _ (Nat.pos_of_ne_zero Hn0.out))) Ly.out
      go_upto_region 6 with fail
      go_cut [9] from 39 to 65 (fun s9 wx => ∃ nr ar Lr cr, s9 = .pointer (some ⟨w4.heap.size, 0, none⟩) ∧ T4 wx w.heap.size (.bool na) (.slice a L c) (w.heap.size + 1) (.bool nb) (.slice b M d) (w.heap.size + 1 + 1) (.bool false) (.slice none 0 0) (w.heap.size + 1 + 1 + 1) (.bool false) (.slice none 0 0) ∧ Two wx w4.heap.size (.bool nr) (.slice ar Lr cr) 43 ∧ NRes wx (.agg #[.bool nr, .slice ar Lr cr]) (x % y) ∧ NArg K wx (.agg #[.bool na, .slice a L c]) x ∧ NArg K wx (.agg #[.bool nb, .slice b M d]) y ∧ Below w.heap.size w wx)
      case first =>
        have Z0 := hide Z6.out.drew
        have G0 := hide G6.out.drew
        have K0 := hide Kz6.out.drew
        have U0 := hide U6.out.drew
        have V0 := hide V6.out.drew
        have R0 := hide R6.out.drew
        clear Z6 G6 Kz6 U6 V6 R6
        go_region_with (first
          | (go_at_call 25; have g := j8; clear g; refine (rnsub_calls (q8.arg Ly1.out) ((R0.out.below j8).arg Lr1.out) (by omega)).mono ?_; rintro e w9 ⟨r9, rfl, q9, j9⟩; obtain ⟨n9, a9, L9, c9, rfl⟩ := q9.form; have h2 := ((G0.out.keep j8).keep j9).c0; have h3 := ((G0.out.keep j8).keep j9).c1; have f2 := ((G0.out.keep j8).keep j9).f0 0; have f3 := ((G0.out.keep j8).keep j9).f0 1)
          | (go_at_call 31; refine (rabs_calls V0.out (by omega)).mono ?_; rintro e w8 ⟨r8, rfl, q8, j8⟩; have h0 := (G0.out.keep j8).c0; have h1 := (G0.out.keep j8).c1; have h4 := h0))
        all_goals
          go_wp2_with fail
          go_meet
          have YG := (G0.out.keep j8).keep j9
          have YZ := (Z0.out.keep j8).keep j9
          rw [show sgn false (x.natAbs % y.natAbs) = ((x.natAbs % y.natAbs : Nat) : Int) from rfl, Hr.out] at q9
          have hl := Hl1.out
          exact ⟨_, _, _, _, rfl, ⟨YZ.1.other (by omega) _ _, YZ.2.1.other (by omega) _ _, YZ.2.2.1.other (by omega) _ _, YZ.2.2.2.other (by omega) _ _⟩, YG.put _ _, q9.put YG _ _, ((U0.out.below j8).below j9).put YG _ _, ((V0.out.below j8).below j9).put YG _ _, below_put (bafter (bafter K0.out j8 (Nat.le_refl _)) j9 (Nat.le_refl _)) (by omega) _ _⟩
      case rest =>
        obtain ⟨nr, ar, Lr, cr, rfl, hz, hg, hr, ha, hb, hk⟩ := hcut
        have X := hide hz
        have XG := hide hg
        have Rr := hide hr
        have Ax := hide ha
        have By := hide hb
        have KX := hide hk
        clear hz hg hr ha hb hk Z6 G6 Kz6 U6 V6 R6 e0 e1 e2 e3
        have c0 := X.out.1.c0
        have c1 := X.out.1.c1
        have h0 := XG.out.c0
        have h1 := XG.out.c1
        have hlX : w4.heap.size < wc.heap.size := (Array.getElem?_eq_some_iff.1 XG.out).1
        go_wp2_with fail
        refine (rnsub_calls Ax.out (Rr.out.arg (rem10 H0.out Ly.out)) (by omega)).mono ?_
        rintro e w7 ⟨r7, rfl, q7, j7⟩
        obtain ⟨dv7, rfl, p7⟩ := q7
        obtain ⟨a7, L7, c7, rfl, _⟩ := p7.shape
        generalize hs7 : decide (x - x % y < 0) = s7
        have Hs7 := hide hs7
        have o := bel w7 (.cells #[.bool s7, .slice a7 L7 c7] 43)
        have J := bthn j7 o
        have Z0 : Hid (T5 (w7.alloc (.cells #[.bool s7, .slice a7 L7 c7] 43)).drew _ _ _ _ _ _ _ _ _ _ _ _ _ _ _) := ⟨(X.out.2.1.keep J).drew, (Two.new w7 _ _ _).drew, (XG.out.keep J).drew, (X.out.2.2.1.keep J).drew, (X.out.2.2.2.keep J).drew⟩
        have Kz0 := hide (bafter KX.out J (Nat.le_refl _)).drew
        have D0 := hide (p7.below o).drew
        have B0 := hide (By.out.dig.below J).drew
        have R0 := hide (Rr.out.below J).drew
        have hl1 := Hl1.out
        have hl7 := j7.size
        have hDQ : w7.heap.size ≠ w.heap.size + 1 + 1 := by omega
        have hDR : w7.heap.size ≠ w.heap.size + 1 + 1 + 1 := by omega
        have hBQ : w.heap.size + 1 ≠ w.heap.size + 1 + 1 := by omega
        have hBR : w.heap.size + 1 ≠ w.heap.size + 1 + 1 + 1 := by omega
        have hGQ : w4.heap.size ≠ w.heap.size + 1 + 1 := by omega
        have hGR : w4.heap.size ≠ w.heap.size + 1 + 1 + 1 := by omega
        clear c0 c1 h0 h1 p7 j7 o J X XG Rr KX Ax By hs7 hl1 hl7
        go_wp2
        go_region_held3 (fun w' => w'.cell? ⟨w7.heap.size, 0, none⟩ = some (.bool s7) ∧ w'.cell? ⟨w7.heap.size, 1, none⟩ = some (.slice a7 L7 c7) ∧ w'.cell? ⟨w.heap.size + 1, 0, none⟩ = some (.bool nb) ∧ w'.cell? ⟨w.heap.size + 1, 1, none⟩ = some (.slice b M d))
          (first | exact ⟨Z3.out.2.1.c0, Z3.out.2.1.c1, Z3.out.1.c0, Z3.out.1.c1⟩ | exact ⟨Z2.out.2.1.c0, Z2.out.2.1.c1, Z2.out.1.c0, Z2.out.1.c1⟩ | exact ⟨Z1.out.2.1.c0, Z1.out.2.1.c1, Z1.out.1.c0, Z1.out.1.c1⟩ | exact ⟨Z0.out.2.1.c0, Z0.out.2.1.c1, Z0.out.1.c0, Z0.out.1.c1⟩)
          (first
            | (go_at_call 76; have g := Z2; clear g; refine (divmod_rres (d2.out.arg Ld.out (by omega)) (b2.out.arg Ly.out (by omega)) Hn0.out Ly.out (by omega)).mono ?_; rintro e z3 ⟨qv, rv, rfl, qq, _, g3⟩; obtain ⟨aq, Lq, cq, rfl, hsh0⟩ := qq.shape; clear hsh0; have Z3 := hide (Z2.out.keep g3); have Kz3 := hide (bafter Kz2.out g3 (Nat.le_refl _)); have R3 := hide (R2.out.below g3))
            | (go_at_call 77; have g := Z1; clear g; refine (trim_any B1.out Ly.out (by omega)).mono ?_; rintro e z2 ⟨v2, rfl, p2, g2⟩; have Z2 := hide (Z1.out.keep g2); have Kz2 := hide (bafter Kz1.out g2 (Nat.le_refl _)); have R2 := hide (R1.out.below g2); have b2 := hide p2; have d2 := hide (d1.out.below g2))
            | (go_at_call 77; have g := Z0; clear g; refine (trim_any D0.out Ld.out (by omega)).mono ?_; rintro e z1 ⟨v1, rfl, p1, g1⟩; have Z1 := hide (Z0.out.keep g1); have Kz1 := hide (bafter Kz0.out g1 (Nat.le_refl _)); have R1 := hide (R0.out.below g1); have B1 := hide (B0.out.below g1); have d1 := hide p1))
        have Y0 := hide Z3.out.drew
        have Ky0 := hide Kz3.out.drew
        have Ry0 := hide R3.out.drew
        have Qy := hide (RRes.lit (neg := s7 != nb) (K := K + 1) qq.drew (Nat.lt_of_le_of_lt (Nat.div_le_self _ _) Ld.out))
        clear Z0 Z1 Z2 Z3 Kz0 Kz1 Kz2 Kz3 R0 R1 R2 R3 D0 B0 B1 d1 d2 b2 qq
        go_wp2
        go_region_held3 (fun w' => w'.cell? ⟨w7.heap.size, 0, none⟩ = some (.bool s7) ∧ w'.cell? ⟨w7.heap.size, 1, none⟩ = some (.slice a7 L7 c7) ∧ w'.cell? ⟨w.heap.size + 1, 0, none⟩ = some (.bool nb) ∧ w'.cell? ⟨w.heap.size + 1, 1, none⟩ = some (.slice b M d) ∧ w'.cell? ⟨w4.heap.size, 0, none⟩ = some (.bool nr) ∧ w'.cell? ⟨w4.heap.size, 1, none⟩ = some (.slice ar Lr cr))
          (first | (with_reducible exact ⟨tD.c0, tD.c1, tB.c0, tB.c1, tG.c0, tG.c1⟩) | (with_reducible exact ⟨(tD.other hDQ _ _).c0, (tD.other hDQ _ _).c1, (tB.other hBQ _ _).c0, (tB.other hBQ _ _).c1, (tG.other hGQ _ _).c0, (tG.other hGQ _ _).c1⟩) | (with_reducible exact ⟨((tD.other hDQ _ _).other hDR _ _).c0, ((tD.other hDQ _ _).other hDR _ _).c1, ((tB.other hBQ _ _).other hBR _ _).c0, ((tB.other hBQ _ _).other hBR _ _).c1, ((tG.other hGQ _ _).other hGR _ _).c0, ((tG.other hGQ _ _).other hGR _ _).c1⟩) | exact ⟨Y0.out.2.1.c0, Y0.out.2.1.c1, Y0.out.1.c0, Y0.out.1.c1, Y0.out.2.2.1.c0, Y0.out.2.2.1.c1⟩)
          (first | (go_at_call 67; refine (rnorm_calls Qy.out (by omega)).mono ?_; rintro e y1 ⟨v1, rfl, p1, g1⟩; obtain ⟨nq, aq1, Lq1, cq1, rfl⟩ := p1.form; have Y1 := hide (Y0.out.keep g1); have tD : Two y1 w7.heap.size (.bool s7) (.slice a7 L7 c7) 43 := Y1.out.2.1; have tB : Two y1 (w.heap.size + 1) (.bool nb) (.slice b M d) 43 := Y1.out.1; have tG : Two y1 w4.heap.size (.bool nr) (.slice ar Lr cr) 43 := Y1.out.2.2.1; have Ky1 := hide (bafter Ky0.out g1 (Nat.le_refl _)); have Ry1 := hide (Ry0.out.below g1); have d0 := Y1.out.2.2.2.1.c0; have d1 := Y1.out.2.2.2.1.c1; have f0 := Y1.out.2.2.2.1.f0 0; have f1 := Y1.out.2.2.2.1.f0 1; have e0 := Y1.out.2.2.2.2.c0; have e1 := Y1.out.2.2.2.2.c1; have g0 := Y1.out.2.2.2.2.f0 0; have g1' := Y1.out.2.2.2.2.f0 1))
        go_wp2
        refine bodyPost_ret (results_num3 rfl rfl rfl rfl ((Y1.out.2.2.2.1.put _ _).other (by omega) _ _) ((Y1.out.2.2.2.2.other (by omega) _ _).put _ _)) rfl ?_
        have hq : sgn (s7 != nb) ((x - x % y).natAbs / y.natAbs) = x / y := by rw [← Hs7.out, Hnb.out]; exact div_sign H0.out
        rw [hq] at p1
        exact ⟨_, _, rfl, (p1.put Y1.out.2.2.2.1 _ _).put (Y1.out.2.2.2.2.other (by omega) _ _) _ _, (Ry1.out.put Y1.out.2.2.2.1 _ _).put (Y1.out.2.2.2.2.other (by omega) _ _) _ _, below_put (below_put Ky1.out (by omega) _ _) (by omega) _ _⟩
  · have Hr := hide (rest_down H0.out (fun h => absurd h hx))
    have hs : ¬ sg x < 0 := fun h => hx (sg_negI.1 h)
    generalize sg x = sx at *
    have Rr : Hid (NRes w5 (.agg #[.bool nr, .slice ar Lr cr]) (x % y)) := by
      have h := R5.out
      rw [show sgn false (x.natAbs % y.natAbs) = ((x.natAbs % y.natAbs : Nat) : Int) from rfl, Hr.out] at h
      exact h
    have X := Z5
    have XG := G5
    have KX := Kz5
    have Ax := U5
    have By := V5
    clear Z5 G5 Kz5 U5 V5 R5 hx Hr
    have c0 := X.out.1.c0
    have c1 := X.out.1.c1
    have h0 := XG.out.c0
    have h1 := XG.out.c1
    have hlX : w4.heap.size < w5.heap.size := (Array.getElem?_eq_some_iff.1 XG.out).1
    go_wp2_with fail
    refine (rnsub_calls Ax.out (Rr.out.arg (rem10 H0.out Ly.out)) (by omega)).mono ?_
    rintro e w7 ⟨r7, rfl, q7, j7⟩
    obtain ⟨dv7, rfl, p7⟩ := q7
    obtain ⟨a7, L7, c7, rfl, _⟩ := p7.shape
    generalize hs7 : decide (x - x % y < 0) = s7
    have Hs7 := hide hs7
    have o := bel w7 (.cells #[.bool s7, .slice a7 L7 c7] 43)
    have J := bthn j7 o
    have Z0 : Hid (T5 (w7.alloc (.cells #[.bool s7, .slice a7 L7 c7] 43)).drew _ _ _ _ _ _ _ _ _ _ _ _ _ _ _) := ⟨(X.out.2.1.keep J).drew, (Two.new w7 _ _ _).drew, (XG.out.keep J).drew, (X.out.2.2.1.keep J).drew, (X.out.2.2.2.keep J).drew⟩
    have Kz0 := hide (bafter KX.out J (Nat.le_refl _)).drew
    have D0 := hide (p7.below o).drew
    have B0 := hide (By.out.dig.below J).drew
    have R0 := hide (Rr.out.below J).drew
    have hl1 := Hl1.out
    have hl7 := j7.size
    have hDQ : w7.heap.size ≠ w.heap.size + 1 + 1 := by omega
    have hDR : w7.heap.size ≠ w.heap.size + 1 + 1 + 1 := by omega
    have hBQ : w.heap.size + 1 ≠ w.heap.size + 1 + 1 := by omega
    have hBR : w.heap.size + 1 ≠ w.heap.size + 1 + 1 + 1 := by omega
    have hGQ : w4.heap.size ≠ w.heap.size + 1 + 1 := by omega
    have hGR : w4.heap.size ≠ w.heap.size + 1 + 1 + 1 := by omega
    clear c0 c1 h0 h1 p7 j7 o J X XG Rr KX Ax By hs7 hl1 hl7
    go_wp2
    go_region_held3 (fun w' => w'.cell? ⟨w7.heap.size, 0, none⟩ = some (.bool s7) ∧ w'.cell? ⟨w7.heap.size, 1, none⟩ = some (.slice a7 L7 c7) ∧ w'.cell? ⟨w.heap.size + 1, 0, none⟩ = some (.bool nb) ∧ w'.cell? ⟨w.heap.size + 1, 1, none⟩ = some (.slice b M d))
      (first | exact ⟨Z3.out.2.1.c0, Z3.out.2.1.c1, Z3.out.1.c0, Z3.out.1.c1⟩ | exact ⟨Z2.out.2.1.c0, Z2.out.2.1.c1, Z2.out.1.c0, Z2.out.1.c1⟩ | exact ⟨Z1.out.2.1.c0, Z1.out.2.1.c1, Z1.out.1.c0, Z1.out.1.c1⟩ | exact ⟨Z0.out.2.1.c0, Z0.out.2.1.c1, Z0.out.1.c0, Z0.out.1.c1⟩)
      (first
        | (go_at_call 76; have g := Z2; clear g; refine (divmod_rres (d2.out.arg Ld.out (by omega)) (b2.out.arg Ly.out (by omega)) Hn0.out Ly.out (by omega)).mono ?_; rintro e z3 ⟨qv, rv, rfl, qq, _, g3⟩; obtain ⟨aq, Lq, cq, rfl, hsh0⟩ := qq.shape; clear hsh0; have Z3 := hide (Z2.out.keep g3); have Kz3 := hide (bafter Kz2.out g3 (Nat.le_refl _)); have R3 := hide (R2.out.below g3))
        | (go_at_call 77; have g := Z1; clear g; refine (trim_any B1.out Ly.out (by omega)).mono ?_; rintro e z2 ⟨v2, rfl, p2, g2⟩; have Z2 := hide (Z1.out.keep g2); have Kz2 := hide (bafter Kz1.out g2 (Nat.le_refl _)); have R2 := hide (R1.out.below g2); have b2 := hide p2; have d2 := hide (d1.out.below g2))
        | (go_at_call 77; have g := Z0; clear g; refine (trim_any D0.out Ld.out (by omega)).mono ?_; rintro e z1 ⟨v1, rfl, p1, g1⟩; have Z1 := hide (Z0.out.keep g1); have Kz1 := hide (bafter Kz0.out g1 (Nat.le_refl _)); have R1 := hide (R0.out.below g1); have B1 := hide (B0.out.below g1); have d1 := hide p1))
    have Y0 := hide Z3.out.drew
    have Ky0 := hide Kz3.out.drew
    have Ry0 := hide R3.out.drew
    have Qy := hide (RRes.lit (neg := s7 != nb) (K := K + 1) qq.drew (Nat.lt_of_le_of_lt (Nat.div_le_self _ _) Ld.out))
    clear Z0 Z1 Z2 Z3 Kz0 Kz1 Kz2 Kz3 R0 R1 R2 R3 D0 B0 B1 d1 d2 b2 qq
    go_wp2
    go_region_held3 (fun w' => w'.cell? ⟨w7.heap.size, 0, none⟩ = some (.bool s7) ∧ w'.cell? ⟨w7.heap.size, 1, none⟩ = some (.slice a7 L7 c7) ∧ w'.cell? ⟨w.heap.size + 1, 0, none⟩ = some (.bool nb) ∧ w'.cell? ⟨w.heap.size + 1, 1, none⟩ = some (.slice b M d) ∧ w'.cell? ⟨w4.heap.size, 0, none⟩ = some (.bool nr) ∧ w'.cell? ⟨w4.heap.size, 1, none⟩ = some (.slice ar Lr cr))
      (first | (with_reducible exact ⟨tD.c0, tD.c1, tB.c0, tB.c1, tG.c0, tG.c1⟩) | (with_reducible exact ⟨(tD.other hDQ _ _).c0, (tD.other hDQ _ _).c1, (tB.other hBQ _ _).c0, (tB.other hBQ _ _).c1, (tG.other hGQ _ _).c0, (tG.other hGQ _ _).c1⟩) | (with_reducible exact ⟨((tD.other hDQ _ _).other hDR _ _).c0, ((tD.other hDQ _ _).other hDR _ _).c1, ((tB.other hBQ _ _).other hBR _ _).c0, ((tB.other hBQ _ _).other hBR _ _).c1, ((tG.other hGQ _ _).other hGR _ _).c0, ((tG.other hGQ _ _).other hGR _ _).c1⟩) | exact ⟨Y0.out.2.1.c0, Y0.out.2.1.c1, Y0.out.1.c0, Y0.out.1.c1, Y0.out.2.2.1.c0, Y0.out.2.2.1.c1⟩)
      (first | (go_at_call 67; refine (rnorm_calls Qy.out (by omega)).mono ?_; rintro e y1 ⟨v1, rfl, p1, g1⟩; obtain ⟨nq, aq1, Lq1, cq1, rfl⟩ := p1.form; have Y1 := hide (Y0.out.keep g1); have tD : Two y1 w7.heap.size (.bool s7) (.slice a7 L7 c7) 43 := Y1.out.2.1; have tB : Two y1 (w.heap.size + 1) (.bool nb) (.slice b M d) 43 := Y1.out.1; have tG : Two y1 w4.heap.size (.bool nr) (.slice ar Lr cr) 43 := Y1.out.2.2.1; have Ky1 := hide (bafter Ky0.out g1 (Nat.le_refl _)); have Ry1 := hide (Ry0.out.below g1); have d0 := Y1.out.2.2.2.1.c0; have d1 := Y1.out.2.2.2.1.c1; have f0 := Y1.out.2.2.2.1.f0 0; have f1 := Y1.out.2.2.2.1.f0 1; have e0 := Y1.out.2.2.2.2.c0; have e1 := Y1.out.2.2.2.2.c1; have g0 := Y1.out.2.2.2.2.f0 0; have g1' := Y1.out.2.2.2.2.f0 1))
    go_wp2
    refine bodyPost_ret (results_num3 rfl rfl rfl rfl ((Y1.out.2.2.2.1.put _ _).other (by omega) _ _) ((Y1.out.2.2.2.2.other (by omega) _ _).put _ _)) rfl ?_
    have hq : sgn (s7 != nb) ((x - x % y).natAbs / y.natAbs) = x / y := by rw [← Hs7.out, Hnb.out]; exact div_sign H0.out
    rw [hq] at p1
    exact ⟨_, _, rfl, (p1.put Y1.out.2.2.2.1 _ _).put (Y1.out.2.2.2.2.other (by omega) _ _) _ _, (Ry1.out.put Y1.out.2.2.2.1 _ _).put (Y1.out.2.2.2.2.other (by omega) _ _) _ _, below_put (below_put Ky1.out (by omega) _ _) (by omega) _ _⟩

set_option maxHeartbeats 2000000 in
theorem rndivides_calls {K : Nat} {w : World} {u v : Value} {x y : Int} (hu : NArg K w u x) (hv : NArg K w v y) (hK : K ≤ 400) :
    Calls Tryd.prog 37 #[u, v] w fun e w' => e = .returned (.bool (decide (x ∣ y))) ∧ Below w.heap.size w w' := by
  obtain ⟨na, a, L, c, rfl⟩ := hu.form
  obtain ⟨nb, b, M, d, rfl⟩ := hv.form
  have Lx := hide hu.lt
  obtain ⟨t0, t1, hb⟩ := boxes2 w (.bool na) (.slice a L c) (.bool nb) (.slice b M d) 43
  have S0 := hide t0
  have S1 := hide t1
  have HB := hide hb
  have Hu := hide (hu.below hb)
  have Hv := hide (hv.below hb)
  clear hu hv t0 t1 hb
  go_enter Tryd.func37, Tryd.ntmps37
  go_wp2_with fail
  refine (rsign_calls Hu.out (by omega)).mono ?_
  rintro e w1 ⟨rfl, hb1⟩
  have U0 := hide (Hu.out.below hb1)
  have V0 := hide (Hv.out.below hb1)
  have K0 := hide (bafter HB.out hb1 (Nat.le_refl _))
  have c0 := (S0.out.keep hb1).c0
  have c1 := (S0.out.keep hb1).c1
  have c2 := (S1.out.keep hb1).c0
  have c3 := (S1.out.keep hb1).c1
  clear S0 S1 HB Hu Hv hb1
  by_cases hx : x = 0
  · have hd : decide (x ∣ y) = decide (y = 0) := by rw [hx, decide_eq_decide]; exact Int.zero_dvd
    have hs : sg x = 0 := by rw [hx]; rfl
    rw [hs]
    have Hd := hide hd
    clear hd hx hs
    go_wp2_with fail
    refine (rsign_calls V0.out (by omega)).mono ?_
    rintro e w2 ⟨rfl, hb2⟩
    have he : (sg y == 0) = decide (y = 0) := by
      by_cases h : y = 0
      · rw [h]; rfl
      · rw [decide_eq_false h]; exact beq_eq_false_iff_ne.2 (sg_ne h)
    have He := hide he
    clear he
    go_wp2
    go_ret
    exact ⟨congrArg (fun b => Ending.returned (Value.bool b)) (He.out.trans Hd.out.symm), bafter K0.out hb2 (Nat.le_refl _)⟩
  · have hsx : (sg x == 0) = false := beq_eq_false_iff_ne.2 (sg_ne hx)
    have H0 := hide hx
    generalize sg x = sx at *
    clear hx
    go_wp2_with fail
    refine (rndiv_calls V0.out U0.out hK H0.out).mono ?_
    rintro e w2 ⟨q, r, rfl, hq, hr, hb2⟩
    obtain ⟨bq, aq, Lq, cq, rfl⟩ := hq.form
    obtain ⟨br, ar, Lr, cr, rfl⟩ := hr.form
    have o := bthn (bel w2 (.cells #[.bool bq, .slice aq Lq cq] 43)) (bel _ (.cells #[.bool br, .slice ar Lr cr] 43))
    have R2 := hide ((hr.below o).arg (rem10 (x := y) H0.out Lx.out))
    have K2 := hide (bafter (bafter K0.out hb2 (Nat.le_refl _)) o (Nat.le_refl _))
    clear hq hr hb2 o U0 V0 K0 c0 c1 c2 c3
    go_wp2_with fail
    refine (rsign_calls R2.out (by omega)).mono ?_
    rintro e w3 ⟨rfl, hb3⟩
    have he : (sg (y % x) == 0) = decide (x ∣ y) := by
      by_cases h : y % x = 0
      · rw [h, decide_eq_true (Int.dvd_of_emod_eq_zero h)]; rfl
      · rw [decide_eq_false (fun k => h (Int.emod_eq_zero_of_dvd k))]; exact beq_eq_false_iff_ne.2 (sg_ne h)
    have He := hide he
    clear he
    go_wp2
    go_ret
    exact ⟨congrArg (fun b => Ending.returned (Value.bool b)) He.out, bafter K2.out hb3 (Nat.le_refl _)⟩

end Go.Proofs.YtpenhmkodakpaaaDoor
