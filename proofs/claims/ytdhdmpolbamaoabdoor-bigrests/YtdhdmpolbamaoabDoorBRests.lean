/- The law BigRests: the walk. -/
import Derived.Test.YtdhdmpolbamaoabDoorBigLaw0
import Derived.Test.YtdhdmpolbamaoabDoorBigFloor
import Derived.Deep.RegionWith
import Derived.Deep.DeepMust
namespace Go.Proofs.YtdhdmpolbamaoabDoor
set_option linter.unusedVariables false
set_option linter.unusedSimpArgs false
set_option maxRecDepth 100000
open Go Go.RowKit Go.Shelf Go.Lib

theorem diff_zero {x y : Int} (h : x % y = 0) : ceilZ x y - floorZ x y = 0 := by
  unfold ceilZ floorZ
  rw [if_neg (fun k => by omega), if_neg (fun k => by omega)]
  omega
theorem diff_one {x y : Int} (h0 : y ≠ 0) (h : 0 < x % y) : ceilZ x y - floorZ x y = 1 := by
  unfold ceilZ floorZ
  by_cases hy : y < 0
  · rw [if_neg (fun k => by omega), if_pos ⟨hy, h⟩]
    omega
  · rw [if_pos ⟨by omega, h⟩, if_neg (fun k => hy k.1)]
    omega

theorem floor_bound {x y : Int} {k : Nat} (h : x.natAbs < R ^ k) : (floorZ x y).natAbs < R ^ (k + 2) := by
  unfold floorZ
  split
  · exact bl_sub (quo_bound h) (lt_up one_R (by omega))
  · exact lt_up (quo_bound h) (by omega)
theorem ceil_bound {x y : Int} {k : Nat} (h : x.natAbs < R ^ k) : (ceilZ x y).natAbs < R ^ (k + 2) := by
  unfold ceilZ
  split
  · exact bl_add (quo_bound h) (lt_up one_R (by omega))
  · exact lt_up (quo_bound h) (by omega)

theorem rem_bound {x y : Int} {k : Nat} (h0 : y ≠ 0) (h : y.natAbs < R ^ k) : (x % y).natAbs < R ^ k := by
  refine Nat.lt_trans ?_ h
  have h1 := Int.emod_nonneg x h0
  have h2 := Int.emod_lt x h0
  omega

set_option maxHeartbeats 8000000 in
theorem brests_calls (w : World) (na nb : Bool) (sa sb : Value) (xs ys : List Nat) (ha0 : Limbs w sa xs) (hb0 : Limbs w sb ys) (htab : TabIs Tryd.prog w "internal/strconv.uint64pow10" .u64 pow10Tab) :
    Calls Tryd.prog 4 #[.agg #[.bool na, sa], .agg #[.bool nb, sb]] w fun e w' => e = .returned (.bool true) ∧ Below w.heap.size w w' := by
  obtain ⟨aa, ca, rfl⟩ := ha0.len
  obtain ⟨ab, cb, rfl⟩ := hb0.len
  obtain ⟨t0, t1, hb⟩ := boxes2 w (.bool na) (.slice aa xs.length ca) (.bool nb) (.slice ab ys.length cb) 24
  have A0 := hide t0
  have B0 := hide t1
  have LA0 := hide (ha0.below hb)
  have LB0 := hide (hb0.below hb)
  have K0 := hide hb
  have Ht0 := hide (tab_keep htab hb)
  clear t0 t1 hb ha0 hb0 htab
  generalize hLa : xs.length = La at *
  generalize hLb : ys.length = Lb at *
  have HLa := hide hLa
  have HLb := hide hLb
  clear hLa hLb
  go_enter Tryd.func4, Tryd.ntmps4
  go_wp2_with fail
  refine (msigned_calls _ Ht0.out).mono ?_
  rintro e w1 ⟨rfl, k1⟩
  have A1 := hide (A0.out.keep k1)
  have B1 := hide (B0.out.keep k1)
  have LA1 := hide (LA0.out.below k1)
  have LB1 := hide (LB0.out.below k1)
  have K1 := hide (bafter K0.out k1 (Nat.le_refl _))
  have Ht1 := hide (tab_keep Ht0.out k1)
  have c0 := A1.out.c0
  have c1 := A1.out.c1
  clear A0 B0 LA0 LB0 K0 Ht0 k1
  by_cases ha : La ≤ 8
  case neg =>
    go_wp2_with fail
    refine (small_no ha).mono ?_
    rintro e v1 ⟨rfl, j1⟩
    go_wp2_with fail
    refine (msigned_calls _ (tab_keep Ht1.out j1)).mono ?_
    rintro e v2 ⟨rfl, j2⟩
    go_wp2
    go_ret
    exact ⟨rfl, bafter (bafter K1.out j1 (Nat.le_refl _)) j2 (Nat.le_refl _)⟩
  go_wp2_with fail
  refine (small_yes ha).mono ?_
  rintro e w2 ⟨rfl, k2⟩
  have A2 := hide (A1.out.keep k2)
  have B2 := hide (B1.out.keep k2)
  have LA2 := hide (LA1.out.below k2)
  have LB2 := hide (LB1.out.below k2)
  have K2 := hide (bafter K1.out k2 (Nat.le_refl _))
  have Ht2 := hide (tab_keep Ht1.out k2)
  have c2 := B2.out.c0
  have c3 := B2.out.c1
  clear A1 B1 LA1 LB1 K1 Ht1 k2 c0 c1
  by_cases hb : Lb ≤ 8
  case neg =>
    go_wp2_with fail
    refine (small_no hb).mono ?_
    rintro e v1 ⟨rfl, j1⟩
    go_wp2_with fail
    refine (msigned_calls _ (tab_keep Ht2.out j1)).mono ?_
    rintro e v2 ⟨rfl, j2⟩
    go_wp2
    go_ret
    exact ⟨rfl, bafter (bafter K2.out j1 (Nat.le_refl _)) j2 (Nat.le_refl _)⟩
  go_wp2_with fail
  refine (small_yes hb).mono ?_
  rintro e w3 ⟨rfl, k3⟩
  have hA := bl_limbs (na := na) LA2.out.small (by rw [HLa.out]; exact ha)
  have hB := bl_limbs (na := nb) LB2.out.small (by rw [HLb.out]; exact hb)
  have A3 : Hid (BoxA w3 w.heap.size na aa La ca (sgn na (val R xs))) := ⟨A2.out.keep k3, box_arg (LA2.out.below k3) (by rw [HLa.out]; exact ha)⟩
  have B3 : Hid (BoxA w3 (w.heap.size + 1) nb ab Lb cb (sgn nb (val R ys))) := ⟨B2.out.keep k3, box_arg (LB2.out.below k3) (by rw [HLb.out]; exact hb)⟩
  have K3 := hide (bafter K2.out k3 (Nat.le_refl _))
  generalize sgn na (val R xs) = x at *
  generalize sgn nb (val R ys) = y at *
  have HA := hide hA
  have HB := hide hB
  clear A2 B2 LA2 LB2 K2 Ht2 k3 c2 c3 hA hB
  have c0 := A3.out.c0
  have c1 := A3.out.c1
  have c2 := B3.out.c0
  have c3 := B3.out.c1
  by_cases hy : y = 0
  · have zarg : ∀ W : World, BArg W (.agg #[.bool false, .slice none 0 0]) 0 := fun W => ⟨false, _, 0, rfl, ⟨[], Limbs.nil W, by simp, rfl⟩, rfl⟩
    have hsy : sg y = 0 := by rw [hy]; rfl
    go_wp2_with fail
    refine (bdiv_zero A3.out.arg B3.out.arg hy).mono ?_
    rintro e w4 ⟨rfl, k4⟩
    obtain ⟨q4, r4⟩ := BoxA.new2 (W := w4) (zarg w4) (zarg w4)
    have B4 := hide ((B3.out.keep k4).alloc (.cells #[.bool false, .slice none 0 0] 24)).alloc
    have Bp := B3.out.keep k4
    have d2 := Bp.c0
    have d3 := Bp.c1
    have l1 : w.heap.size + 1 < w4.heap.size := Bp.lt
    have l2 : w.heap.size < w4.heap.size := by omega
    have l3 : w.heap.size + 1 < w4.heap.size + 1 := by omega
    have Q4 := hide q4
    have R4 := hide r4
    have K4 := hide (kalloc (kalloc (bafter K3.out k4 (Nat.le_refl _)) (Nat.le_refl _) (.cells #[.bool false, .slice none 0 0] 24)) (Nat.le_refl _) (.cells #[.bool false, .slice none 0 0] 24))
    have S4 := hide (sign_is (((Bp.alloc (.cells #[.bool false, .slice none 0 0] 24)).alloc (.cells #[.bool false, .slice none 0 0] 24)).arg) hsy)
    clear q4 r4 Bp k4 zarg B4 hy
    go_wp2_with fail
    refine S4.out.mono ?_
    rintro e w5 ⟨rfl, k5⟩
    have Q5 := hide (Q4.out.keep k5)
    have R5 := hide (R4.out.keep k5)
    have K5 := hide (bafter K4.out k5 (Nat.le_refl _))
    have e0 := Q5.out.c0
    have e1 := Q5.out.c1
    clear Q4 R4 K4 S4 k5
    go_wp2_with fail
    refine (sign_zero Q5.out.arg rfl).mono ?_
    rintro e w6 ⟨rfl, k6⟩
    have R6 := hide (R5.out.keep k6)
    have K6 := hide (bafter K5.out k6 (Nat.le_refl _))
    have e2 := R6.out.c0
    have e3 := R6.out.c1
    clear Q5 R5 K5 k6 e0 e1
    go_wp2_with fail
    refine (sign_zero R6.out.arg rfl).mono ?_
    rintro e w7 ⟨rfl, k7⟩
    go_wp2
    go_ret
    exact ⟨rfl, bafter K6.out k7 (Nat.le_refl _)⟩
  · have H0 := hide hy
    have hr0 := Int.emod_nonneg x hy
    have hrl := Int.emod_lt x hy
    have hsy : (sg y == 0) = false := beq_eq_false_iff_ne.2 (sg_ne hy)
    have Hr0 := hide hr0
    have Rl : Hid (x % y < (y.natAbs : Int)) := by show _ < _; omega
    have Eq : Hid (x / y * y + x % y = x) := by show _ = _; rw [Int.mul_comm]; exact Int.mul_ediv_add_emod x y
    clear hr0 hrl
    go_wp2_with fail
    refine (bdiv_calls A3.out.arg B3.out.arg H0.out).mono ?_
    rintro e w4 ⟨q, r, rfl, hq, hr, k4⟩
    obtain ⟨bq, aq, Lq, cq, rfl⟩ := hq.form
    obtain ⟨br, ar, Lr, cr, rfl⟩ := hr.form
    obtain ⟨q4, r4⟩ := BoxA.new2 (hq.arg (quo_bound HA.out) (by decide)) (hr.arg (rem_bound H0.out HB.out) (by decide))
    have Ap := A3.out.keep k4
    have Bp := B3.out.keep k4
    have d2 := Bp.c0
    have d3 := Bp.c1
    have l1 : w.heap.size + 1 < w4.heap.size := Bp.lt
    have l2 : w.heap.size < w4.heap.size := by omega
    have l3 : w.heap.size + 1 < w4.heap.size + 1 := by omega
    have A4 := hide ((Ap.alloc (.cells #[.bool bq, .slice aq Lq cq] 24)).alloc (.cells #[.bool br, .slice ar Lr cr] 24))
    have B4 := hide ((Bp.alloc (.cells #[.bool bq, .slice aq Lq cq] 24)).alloc (.cells #[.bool br, .slice ar Lr cr] 24))
    have Q4 := hide q4
    have R4 := hide r4
    have K4 := hide (kalloc (kalloc (bafter K3.out k4 (Nat.le_refl _)) (Nat.le_refl _) (.cells #[.bool bq, .slice aq Lq cq] 24)) (Nat.le_refl _) (.cells #[.bool br, .slice ar Lr cr] 24))
    clear q4 r4 Ap Bp k4 hq hr A3 B3 K3 c0 c1 c2 c3 hy
    go_wp2_with fail
    refine (sign_calls B4.out.arg).mono ?_
    rintro e w5 ⟨rfl, k5⟩
    generalize sg y = sy at *
    have A5 := hide (A4.out.keep k5)
    have B5 := hide (B4.out.keep k5)
    have Q5 := hide (Q4.out.keep k5)
    have R5 := hide (R4.out.keep k5)
    have K5 := hide (bafter K4.out k5 (Nat.le_refl _))
    have c0 := A5.out.c0
    have c1 := A5.out.c1
    have c2 := B5.out.c0
    have c3 := B5.out.c1
    clear A4 B4 Q4 R4 K4 k5 d2 d3 l1 l3
    go_wp2_with fail
    refine (floor_calls A5.out.arg B5.out.arg H0.out HA.out HB.out (by decide)).mono ?_
    rintro e w6 ⟨lo, rfl, hlo, k6⟩
    obtain ⟨bl', al, Ll, cl, rfl⟩ := hlo.form
    have Lo6 := hide (BoxA.new (hlo.arg (floor_bound HA.out) (by decide)))
    have o := bel w6 (.cells #[.bool bl', .slice al Ll cl] 24)
    have Ap := A5.out.keep k6
    have Bp := B5.out.keep k6
    have d0 := Ap.c0
    have d1 := Ap.c1
    have d2 := Bp.c0
    have d3 := Bp.c1
    have m1 : w.heap.size + 1 < w6.heap.size := Bp.lt
    have m2 : w.heap.size < w6.heap.size := by omega
    have A6 := hide (Ap.keep o)
    have B6 := hide (Bp.keep o)
    have Q6 := hide ((Q5.out.keep k6).keep o)
    have R6 := hide ((R5.out.keep k6).keep o)
    have K6 := hide (bafter (bafter K5.out k6 (Nat.le_refl _)) o (Nat.le_refl _))
    clear A5 B5 Q5 R5 K5 k6 o Ap Bp hlo c0 c1 c2 c3
    go_wp2_with fail
    refine (ceil_calls A6.out.arg B6.out.arg H0.out HA.out HB.out (by decide)).mono ?_
    rintro e w7 ⟨hi', rfl, hhi, k7⟩
    obtain ⟨bh, ah, Lh, ch, rfl⟩ := hhi.form
    have o := bel w7 (.cells #[.bool bh, .slice ah Lh ch] 24)
    have Hi7 := hide (BoxA.new (hhi.arg (ceil_bound HA.out) (by decide))).drew
    have X0 : Hid (Quad (w7.alloc (.cells #[.bool bh, .slice ah Lh ch] 24)).drew _ _ _ _ _ _ _ _ _ _ _ _ _ _ _ _ _ _ _ _ _ _ _ _) := ⟨((A6.out.keep k7).keep o).drew, ((B6.out.keep k7).keep o).drew, ((Q6.out.keep k7).keep o).drew, ((R6.out.keep k7).keep o).drew⟩
    have Lo7 := hide (((Lo6.out.keep k7).keep o).drew)
    have Kx0 := hide (bafter (bafter K6.out k7 (Nat.le_refl _)) o (Nat.le_refl _)).drew
    clear A6 B6 Q6 R6 K6 Lo6 k7 o hhi d0 d1 d2 d3 m1 m2
    have Lo0 := hide Lo7.out
    have Hi0 := hide Hi7.out
    clear Lo7 Hi7
    by_cases hrz : x % y = 0
    · have Rz := hide hrz
      have Sv : Hid (sg (x % y) = 0) := by show _ = _; rw [hrz]; rfl
      clear hrz
      go_wp2
      go_region_held3 (fun w' => w'.cell? ⟨w.heap.size, 0, none⟩ = some (.bool na) ∧ w'.cell? ⟨w.heap.size, 1, none⟩ = some (.slice aa La ca) ∧ w'.cell? ⟨w.heap.size + 1, 0, none⟩ = some (.bool nb) ∧ w'.cell? ⟨w.heap.size + 1, 1, none⟩ = some (.slice ab Lb cb) ∧ w'.cell? ⟨w4.heap.size, 0, none⟩ = some (.bool bq) ∧ w'.cell? ⟨w4.heap.size, 1, none⟩ = some (.slice aq Lq cq) ∧ w'.cell? ⟨w4.heap.size + 1, 0, none⟩ = some (.bool br) ∧ w'.cell? ⟨w4.heap.size + 1, 1, none⟩ = some (.slice ar Lr cr))
        (first | exact X6.out.cells | exact X5.out.cells | exact X4.out.cells | exact X3.out.cells | exact X2.out.cells | exact X1.out.cells | exact X0.out.cells)
        (first
          | (go_at_call 9; have g := X5; clear g; refine (bcmp_same s5.out X5.out.1.arg Eq.out).mono ?_; rintro e y6 ⟨rfl, g6⟩; have X6 := hide (X5.out.keep g6); have Kx6 := hide (bafter Kx5.out g6 (Nat.le_refl _)); have Lo6 := hide (Lo5.out.keep g6); have Hi6 := hide (Hi5.out.keep g6))
          | (go_at_call 11; have g := X4; clear g; refine (badd_calls p4.out X4.out.2.2.2.arg).mono ?_; rintro e y5 ⟨v5, rfl, q5, g5⟩; have X5 := hide (X4.out.keep g5); have Kx5 := hide (bafter Kx4.out g5 (Nat.le_refl _)); have Lo5 := hide (Lo4.out.keep g5); have Hi5 := hide (Hi4.out.keep g5); have s5 := hide (q5.arg (bl_add (bl_mul (quo_bound HA.out) HB.out) (lt_up (rem_bound H0.out HB.out) (by decide))) (by decide)))
          | (go_at_call 10; have g := X3; clear g; refine (bmul_calls X3.out.2.2.1.arg X3.out.2.1.arg).mono ?_; rintro e y4 ⟨v4, rfl, q4, g4⟩; have X4 := hide (X3.out.keep g4); have Kx4 := hide (bafter Kx3.out g4 (Nat.le_refl _)); have Lo4 := hide (Lo3.out.keep g4); have Hi4 := hide (Hi3.out.keep g4); have p4 := hide (q4.arg (bl_mul (quo_bound HA.out) HB.out) (by decide)))
          | (go_at_call 9; have g := X2; clear g; refine (bcmp_lt X2.out.2.2.2.arg m2.out Rl.out).mono ?_; rintro e y3 ⟨rfl, g3⟩; have X3 := hide (X2.out.keep g3); have Kx3 := hide (bafter Kx2.out g3 (Nat.le_refl _)); have Lo3 := hide (Lo2.out.keep g3); have Hi3 := hide (Hi2.out.keep g3))
          | (go_at_call 19; have g := X1; clear g; refine (abs_calls X1.out.2.1.arg).mono ?_; rintro e y2 ⟨v2, rfl, q2, g2⟩; have X2 := hide (X1.out.keep g2); have Kx2 := hide (bafter Kx1.out g2 (Nat.le_refl _)); have Lo2 := hide (Lo1.out.keep g2); have Hi2 := hide (Hi1.out.keep g2); have m2 := hide (q2.arg (show ((y.natAbs : Int)).natAbs < R ^ 8 by rw [Int.natAbs_natCast]; exact HB.out) (by decide)))
          | (go_at_call 14; have g := X0; clear g; refine (sign_is X0.out.2.2.2.arg Sv.out).mono ?_; rintro e y1 ⟨rfl, g1⟩; have X1 := hide (X0.out.keep g1); have Kx1 := hide (bafter Kx0.out g1 (Nat.le_refl _)); have Lo1 := hide (Lo0.out.keep g1); have Hi1 := hide (Hi0.out.keep g1)))
      have R6 := hide X6.out.2.2.2
      have c0 := Hi6.out.c0
      have c1 := Hi6.out.c1
      have c2 := Lo6.out.c0
      have c3 := Lo6.out.c1
      clear X0 X1 X2 X3 X4 X5 X6
      go_wp2_with fail
      refine (bsub_calls Hi6.out.arg Lo6.out.arg).mono ?_
      rintro e w8 ⟨dv, rfl, hd, k8⟩
      obtain ⟨bd, ad, Ld, cd, rfl⟩ := hd.form
      have Ad := BoxA.new (hd.arg (bl_sub (ceil_bound HA.out) (floor_bound HA.out)) (by decide))
      rw [diff_zero Rz.out] at Ad
      have o := bel w8 (.cells #[.bool bd, .slice ad Ld cd] 24)
      have D0 := hide Ad.drew
      have E0 := hide ((R6.out.keep k8).keep o).drew
      have Kd0 := hide (bafter (bafter Kx6.out k8 (Nat.le_refl _)) o (Nat.le_refl _)).drew
      have r0 := (R6.out.keep k8).c0
      have r1 := (R6.out.keep k8).c1
      have lt8 : w4.heap.size + 1 < w8.heap.size := (R6.out.keep k8).lt
      have lt8' : w4.heap.size < w8.heap.size := by omega
      clear Ad o R6 k8 hd c0 c1 c2 c3
      go_wp2
      have hund : undef = Value.tuple #[] := rfl
      first | (go_region_with (first
          | (go_at_call 14; have g := E1; clear g; refine (sign_zero D1.out.arg rfl).mono ?_; rintro e z2 ⟨rfl, f2⟩; have E2 := hide (E1.out.keep f2); have D2 := hide (D1.out.keep f2); have ea2 := E2.out.c0; have eb2 := E2.out.c1; have da2 := D2.out.c0; have db2 := D2.out.c1; have Kd2 := hide (bafter Kd1.out f2 (Nat.le_refl _)))
          | (go_at_call 14; refine (sign_is E0.out.arg Sv.out).mono ?_; rintro e z1 ⟨rfl, f1⟩; have E1 := hide (E0.out.keep f1); have D1 := hide (D0.out.keep f1); have ea1 := E1.out.c0; have eb1 := E1.out.c1; have da1 := D1.out.c0; have db1 := D1.out.c1; have Kd1 := hide (bafter Kd0.out f1 (Nat.le_refl _))))) | fail
      all_goals
        go_wp2
        go_ret
        exact ⟨rfl, Kd2.out⟩

    · have Rz : Hid (0 < x % y) := by show _ < _; have := Hr0.out; omega
      have Sv : Hid (sg (x % y) = 1) := sg_pos Rz.out
      clear hrz
      go_wp2
      go_region_held3 (fun w' => w'.cell? ⟨w.heap.size, 0, none⟩ = some (.bool na) ∧ w'.cell? ⟨w.heap.size, 1, none⟩ = some (.slice aa La ca) ∧ w'.cell? ⟨w.heap.size + 1, 0, none⟩ = some (.bool nb) ∧ w'.cell? ⟨w.heap.size + 1, 1, none⟩ = some (.slice ab Lb cb) ∧ w'.cell? ⟨w4.heap.size, 0, none⟩ = some (.bool bq) ∧ w'.cell? ⟨w4.heap.size, 1, none⟩ = some (.slice aq Lq cq) ∧ w'.cell? ⟨w4.heap.size + 1, 0, none⟩ = some (.bool br) ∧ w'.cell? ⟨w4.heap.size + 1, 1, none⟩ = some (.slice ar Lr cr))
        (first | exact X6.out.cells | exact X5.out.cells | exact X4.out.cells | exact X3.out.cells | exact X2.out.cells | exact X1.out.cells | exact X0.out.cells)
        (first
          | (go_at_call 9; have g := X5; clear g; refine (bcmp_same s5.out X5.out.1.arg Eq.out).mono ?_; rintro e y6 ⟨rfl, g6⟩; have X6 := hide (X5.out.keep g6); have Kx6 := hide (bafter Kx5.out g6 (Nat.le_refl _)); have Lo6 := hide (Lo5.out.keep g6); have Hi6 := hide (Hi5.out.keep g6))
          | (go_at_call 11; have g := X4; clear g; refine (badd_calls p4.out X4.out.2.2.2.arg).mono ?_; rintro e y5 ⟨v5, rfl, q5, g5⟩; have X5 := hide (X4.out.keep g5); have Kx5 := hide (bafter Kx4.out g5 (Nat.le_refl _)); have Lo5 := hide (Lo4.out.keep g5); have Hi5 := hide (Hi4.out.keep g5); have s5 := hide (q5.arg (bl_add (bl_mul (quo_bound HA.out) HB.out) (lt_up (rem_bound H0.out HB.out) (by decide))) (by decide)))
          | (go_at_call 10; have g := X3; clear g; refine (bmul_calls X3.out.2.2.1.arg X3.out.2.1.arg).mono ?_; rintro e y4 ⟨v4, rfl, q4, g4⟩; have X4 := hide (X3.out.keep g4); have Kx4 := hide (bafter Kx3.out g4 (Nat.le_refl _)); have Lo4 := hide (Lo3.out.keep g4); have Hi4 := hide (Hi3.out.keep g4); have p4 := hide (q4.arg (bl_mul (quo_bound HA.out) HB.out) (by decide)))
          | (go_at_call 9; have g := X2; clear g; refine (bcmp_lt X2.out.2.2.2.arg m2.out Rl.out).mono ?_; rintro e y3 ⟨rfl, g3⟩; have X3 := hide (X2.out.keep g3); have Kx3 := hide (bafter Kx2.out g3 (Nat.le_refl _)); have Lo3 := hide (Lo2.out.keep g3); have Hi3 := hide (Hi2.out.keep g3))
          | (go_at_call 19; have g := X1; clear g; refine (abs_calls X1.out.2.1.arg).mono ?_; rintro e y2 ⟨v2, rfl, q2, g2⟩; have X2 := hide (X1.out.keep g2); have Kx2 := hide (bafter Kx1.out g2 (Nat.le_refl _)); have Lo2 := hide (Lo1.out.keep g2); have Hi2 := hide (Hi1.out.keep g2); have m2 := hide (q2.arg (show ((y.natAbs : Int)).natAbs < R ^ 8 by rw [Int.natAbs_natCast]; exact HB.out) (by decide)))
          | (go_at_call 14; have g := X0; clear g; refine (sign_is X0.out.2.2.2.arg Sv.out).mono ?_; rintro e y1 ⟨rfl, g1⟩; have X1 := hide (X0.out.keep g1); have Kx1 := hide (bafter Kx0.out g1 (Nat.le_refl _)); have Lo1 := hide (Lo0.out.keep g1); have Hi1 := hide (Hi0.out.keep g1)))
      have R6 := hide X6.out.2.2.2
      have c0 := Hi6.out.c0
      have c1 := Hi6.out.c1
      have c2 := Lo6.out.c0
      have c3 := Lo6.out.c1
      clear X0 X1 X2 X3 X4 X5 X6
      go_wp2_with fail
      refine (bsub_calls Hi6.out.arg Lo6.out.arg).mono ?_
      rintro e w8 ⟨dv, rfl, hd, k8⟩
      obtain ⟨bd, ad, Ld, cd, rfl⟩ := hd.form
      have Ad := BoxA.new (hd.arg (bl_sub (ceil_bound HA.out) (floor_bound HA.out)) (by decide))
      rw [diff_one H0.out Rz.out] at Ad
      have o := bel w8 (.cells #[.bool bd, .slice ad Ld cd] 24)
      have D0 := hide Ad.drew
      have E0 := hide ((R6.out.keep k8).keep o).drew
      have Kd0 := hide (bafter (bafter Kx6.out k8 (Nat.le_refl _)) o (Nat.le_refl _)).drew
      have r0 := (R6.out.keep k8).c0
      have r1 := (R6.out.keep k8).c1
      have lt8 : w4.heap.size + 1 < w8.heap.size := (R6.out.keep k8).lt
      have lt8' : w4.heap.size < w8.heap.size := by omega
      clear Ad o R6 k8 hd c0 c1 c2 c3
      go_wp2
      have hund : undef = Value.tuple #[] := rfl
      first | (go_region_with (first
          | (go_at_call 9; have g := E3; clear g; refine (bcmp_same D3.out.arg (q3.arg one_R (by decide)) rfl).mono ?_; rintro e z4 ⟨rfl, f4⟩; have E4 := hide (E3.out.keep f4); have D4 := hide (D3.out.keep f4); have ea4 := E4.out.c0; have eb4 := E4.out.c1; have da4 := D4.out.c0; have db4 := D4.out.c1; have Kd4 := hide (bafter Kd3.out f4 (Nat.le_refl _)))
          | (go_at_call 15; have g := E2; clear g; refine (bof_calls _ 1 (by decide) (by decide)).mono ?_; rintro e z3 ⟨u3, rfl, q3, f3⟩; have E3 := hide (E2.out.keep f3); have D3 := hide (D2.out.keep f3); have ea3 := E3.out.c0; have eb3 := E3.out.c1; have da3 := D3.out.c0; have db3 := D3.out.c1; have Kd3 := hide (bafter Kd2.out f3 (Nat.le_refl _)))
          | (go_at_call 14; have g := E1; clear g; refine (sign_is E1.out.arg Sv.out).mono ?_; rintro e z2 ⟨rfl, f2⟩; have E2 := hide (E1.out.keep f2); have D2 := hide (D1.out.keep f2); have ea2 := E2.out.c0; have eb2 := E2.out.c1; have da2 := D2.out.c0; have db2 := D2.out.c1; have Kd2 := hide (bafter Kd1.out f2 (Nat.le_refl _)))
          | (go_at_call 14; refine (sign_is E0.out.arg Sv.out).mono ?_; rintro e z1 ⟨rfl, f1⟩; have E1 := hide (E0.out.keep f1); have D1 := hide (D0.out.keep f1); have ea1 := E1.out.c0; have eb1 := E1.out.c1; have da1 := D1.out.c0; have db1 := D1.out.c1; have Kd1 := hide (bafter Kd0.out f1 (Nat.le_refl _))))) | fail
      all_goals
        go_wp2
        go_ret
        exact ⟨rfl, Kd4.out⟩

end Go.Proofs.YtdhdmpolbamaoabDoor
