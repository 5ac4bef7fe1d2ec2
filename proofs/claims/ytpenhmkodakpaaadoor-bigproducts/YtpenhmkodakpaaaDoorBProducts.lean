/- The law BigProducts: the walk. -/
import Derived.Test.YtpenhmkodakpaaaDoorBigLaw2
import Derived.Test.YtpenhmkodakpaaaDoorBigRef3
namespace Go.Proofs.YtpenhmkodakpaaaDoor
set_option linter.unusedVariables false
set_option linter.unusedSimpArgs false
set_option maxRecDepth 100000
open Go Go.RowKit Go.Shelf Go.Lib

theorem ten_mul {x y : Int} (h : x.natAbs < R ^ 8) (k : y.natAbs < R ^ 8) : (x * y).natAbs < 10 ^ 160 := Nat.lt_of_lt_of_le (bl_mul h k) (pow_R_le 16)
theorem ten_gcd {x y : Int} (h : x.natAbs < R ^ 8) (k : y.natAbs < R ^ 8) : ((Nat.gcd x.natAbs y.natAbs : Nat) : Int).natAbs < 10 ^ 80 := by rw [Int.natAbs_natCast]; exact gcd_lt10 (bl10 h) (bl10 k)

set_option maxHeartbeats 8000000 in
theorem bproducts_calls (w : World) (na nb : Bool) (sa sb : Value) (xs ys : List Nat) (ha0 : Limbs w sa xs) (hb0 : Limbs w sb ys) (htab : TabIs Tryd.prog w "internal/strconv.uint64pow10" .u64 pow10Tab) :
    Calls Tryd.prog 5 #[.agg #[.bool na, sa], .agg #[.bool nb, sb]] w fun e w' => e = .returned (.bool true) ∧ Below w.heap.size w w' := by
  obtain ⟨aa, ca, rfl⟩ := ha0.len
  obtain ⟨ab, cb, rfl⟩ := hb0.len
  obtain ⟨t0, t1, hb⟩ := boxes2 w (.bool na) (.slice aa xs.length ca) (.bool nb) (.slice ab ys.length cb) 24
  have A0 := hide t0
  have B0 := hide t1
  have LA0 := hide (ha0.below hb)
  have LB0 := hide (hb0.below hb)
  have K0 := hide hb
  have Ht := hide htab
  clear t0 t1 hb ha0 hb0 htab
  generalize hLa : xs.length = La at *
  generalize hLb : ys.length = Lb at *
  have HLa := hide hLa
  have HLb := hide hLb
  clear hLa hLb
  go_enter Tryd.func5, Tryd.ntmps5
  by_cases ha : La ≤ 8
  case neg =>
    go_wp2_with fail
    refine (small_no ha).mono ?_
    rintro e v1 ⟨rfl, j1⟩
    have J1 := hide (bafter K0.out j1 (Nat.le_refl _))
    clear j1
    go_wp2_with fail
    refine (msigned_calls _ (tab_keep Ht.out J1.out)).mono ?_
    rintro e v2 ⟨rfl, j2⟩
    go_wp2
    go_ret
    exact ⟨rfl, bafter J1.out j2 (Nat.le_refl _)⟩
  go_wp2_with fail
  refine (small_yes ha).mono ?_
  rintro e w1 ⟨rfl, k1⟩
  have A1 := hide (A0.out.keep k1)
  have B1 := hide (B0.out.keep k1)
  have LA1 := hide (LA0.out.below k1)
  have LB1 := hide (LB0.out.below k1)
  have K1 := hide (bafter K0.out k1 (Nat.le_refl _))
  have c2 := B1.out.c0
  have c3 := B1.out.c1
  clear A0 B0 LA0 LB0 K0 k1
  by_cases hb : Lb ≤ 8
  case neg =>
    go_wp2_with fail
    refine (small_no hb).mono ?_
    rintro e v1 ⟨rfl, j1⟩
    have J1 := hide (bafter K1.out j1 (Nat.le_refl _))
    clear j1
    go_wp2_with fail
    refine (msigned_calls _ (tab_keep Ht.out J1.out)).mono ?_
    rintro e v2 ⟨rfl, j2⟩
    go_wp2
    go_ret
    exact ⟨rfl, bafter J1.out j2 (Nat.le_refl _)⟩
  go_wp2_with fail
  refine (small_yes hb).mono ?_
  rintro e w2 ⟨rfl, k2⟩
  have HA := hide (bl_limbs (na := na) LA1.out.small (by rw [HLa.out]; exact ha))
  have HB := hide (bl_limbs (na := nb) LB1.out.small (by rw [HLb.out]; exact hb))
  have A2 : Hid (BoxL w2 w.heap.size na aa La ca xs) := ⟨A1.out.keep k2, LA1.out.below k2, by rw [HLa.out]; exact ha⟩
  have B2 : Hid (BoxL w2 (w.heap.size + 1) nb ab Lb cb ys) := ⟨B1.out.keep k2, LB1.out.below k2, by rw [HLb.out]; exact hb⟩
  have K2 := hide (bafter K1.out k2 (Nat.le_refl _))
  have c0 := A2.out.1.c0
  have c1 := A2.out.1.c1
  clear A1 B1 LA1 LB1 K1 k2 c2 c3
  have c2 := B2.out.1.c0
  have c3 := B2.out.1.c1
  go_upto_region 3 with fail
  go_cut [5, 6] from 16 to 48 (fun s5 s6 wx => ∃ b5 n5 a5 L5 k5 b6 n6 a6 L6 k6, s5 = .pointer (some ⟨b5, 0, none⟩) ∧ s6 = .pointer (some ⟨b6, 0, none⟩) ∧ b5 ≠ b6 ∧ Four wx w.heap.size na aa La ca xs (w.heap.size + 1) nb ab Lb cb ys b5 n5 a5 L5 k5 (sgn na (val R xs)) b6 n6 a6 L6 k6 (sgn nb (val R ys)) ∧ Below w.heap.size w wx)
  case first =>
    go_region_held3 (fun w' => w'.cell? ⟨w.heap.size, 0, none⟩ = some (.bool na) ∧ w'.cell? ⟨w.heap.size, 1, none⟩ = some (.slice aa La ca) ∧ w'.cell? ⟨w.heap.size + 1, 0, none⟩ = some (.bool nb) ∧ w'.cell? ⟨w.heap.size + 1, 1, none⟩ = some (.slice ab Lb cb) ∧ Below w2.heap.size w2 w')
      (first | (refine held_ab A2.out B2.out ?_; go_grown; done) | (trace_state; fail))
      (first
        | (go_at_call 22; have g := X1; clear g; have hB : Below w2.heap.size w2 _ := And.right (And.right (And.right (And.right (by with_reducible assumption)))); refine (mof_calls (neg := nb) (B2.out.2.1.below hB) B2.out.2.2).mono ?_; rintro e x2 ⟨y2, rfl, q2, f2⟩; obtain ⟨b2, a2, L2, k2, rfl⟩ := q2.form; have X2 := hide q2; have N2 : Below w2.heap.size w2 x2 := bafter hB f2 (Nat.le_refl _); have z2 := N2.size; have G2 : Below x1.heap.size x1 x2 := bthn (by go_grown) f2; have X3 := hide (X1.out.below G2); (try (have T2a : Two x2 w2.heap.size (.bool false) (.slice none 0 0) 43 := Two.keep T1a G2; obtain ⟨T2ac0, T2ac1, T2af0, T2af1, T2al0, T2al1⟩ := T2a.every)); (try (have T2b : Two x2 (w2.heap.size + 1) (.bool false) (.slice none 0 0) 43 := Two.keep T1b G2; obtain ⟨T2bc0, T2bc1, T2bf0, T2bf1, T2bl0, T2bl1⟩ := T2b.every)); (try (have T2c : Two x2 x1.heap.size (.bool false) (.slice none 0 0) 43 := Two.keep (by first | exact fresh0 x1 _ _ _ | exact (fresh0 x1 _ _ _).alloc _) f2; obtain ⟨T2cc0, T2cc1, T2cf0, T2cf1, T2cl0, T2cl1⟩ := T2c.every)); (try (have T2d : Two x2 (x1.heap.size + 1) (.bool false) (.slice none 0 0) 43 := Two.keep (fresh1 x1 _ _ _ _) f2; obtain ⟨T2dc0, T2dc1, T2df0, T2df1, T2dl0, T2dl1⟩ := T2d.every)); clear hB f2 q2)
        | (go_at_call 22; have hB : Below w2.heap.size w2 _ := And.right (And.right (And.right (And.right (by with_reducible assumption)))); refine (mof_calls (neg := na) (A2.out.2.1.below hB) A2.out.2.2).mono ?_; rintro e x1 ⟨y1, rfl, q1, f1⟩; obtain ⟨b1, a1, L1, k1, rfl⟩ := q1.form; have X1 := hide q1; have N1 : Below w2.heap.size w2 x1 := bafter hB f1 (Nat.le_refl _); have z1 := N1.size; (try (have T1a : Two x1 w2.heap.size (.bool false) (.slice none 0 0) 43 := Two.keep (by first | exact (fresh0 w2 _ _ _).drew | exact ((fresh0 w2 _ _ _).alloc _).drew) f1; obtain ⟨T1ac0, T1ac1, T1af0, T1af1, T1al0, T1al1⟩ := T1a.every)); (try (have T1b : Two x1 (w2.heap.size + 1) (.bool false) (.slice none 0 0) 43 := Two.keep ((fresh1 w2 _ _ _ _).drew) f1; obtain ⟨T1bc0, T1bc1, T1bf0, T1bf1, T1bl0, T1bl1⟩ := T1b.every)); clear hB f1 q1))
    all_goals
      go_wp2_with fail
      go_meet
      have X3' := X3.out
      have X2' := X2.out
      refine nleaf_meet (n5 := b1) (a5 := a1) (L5 := L1) (k5 := k1) (n6 := b2) (a6 := a2) (L6 := L2) (k6 := k2) ?_ (A2.out.keep ?_) (B2.out.keep ?_) (bafter K2.out ?_ (Nat.le_refl _))
      · first
          | (with_reducible exact nleaf1 X3' X2')
          | (with_reducible exact nleaf2 X3' X2')
          | (with_reducible exact nleaf3 X3' X2' T2a)
          | (with_reducible exact nleaf3 X3' X2' T2b)
          | (with_reducible exact nleaf3 X3' X2' T2c)
          | (with_reducible exact nleaf3 X3' X2' T2d)
          | (with_reducible exact nleaf4 X3' X2' T2a)
          | (with_reducible exact nleaf4 X3' X2' T2b)
          | (with_reducible exact nleaf4 X3' X2' T2c)
          | (with_reducible exact nleaf4 X3' X2' T2d)
          | (with_reducible exact nleaf5 X3' X2' T2a T2b (by omega))
          | (with_reducible exact nleaf5 X3' X2' T2a T2c (by omega))
          | (with_reducible exact nleaf5 X3' X2' T2a T2d (by omega))
          | (with_reducible exact nleaf5 X3' X2' T2b T2a (by omega))
          | (with_reducible exact nleaf5 X3' X2' T2b T2c (by omega))
          | (with_reducible exact nleaf5 X3' X2' T2b T2d (by omega))
          | (with_reducible exact nleaf5 X3' X2' T2c T2a (by omega))
          | (with_reducible exact nleaf5 X3' X2' T2c T2b (by omega))
          | (with_reducible exact nleaf5 X3' X2' T2c T2d (by omega))
          | (with_reducible exact nleaf5 X3' X2' T2d T2a (by omega))
          | (with_reducible exact nleaf5 X3' X2' T2d T2b (by omega))
          | (with_reducible exact nleaf5 X3' X2' T2d T2c (by omega))
      · go_grown
      · go_grown
      · go_grown
  case rest =>
    obtain ⟨b5, n5, a5, L5, k5, b6, n6, a6, L6, k6, rfl, rfl, hne, hF, hB⟩ := hcut
    clear c0 c1 c2 c3 A2 B2 K2
    have X0 := hide hF.drew
    have Kx0 := hide hB.drew
    clear hF hB hne
    go_wp2
    go_region_held3 (fun w' => w'.cell? ⟨w.heap.size, 0, none⟩ = some (.bool na) ∧ w'.cell? ⟨w.heap.size, 1, none⟩ = some (.slice aa La ca) ∧ w'.cell? ⟨w.heap.size + 1, 0, none⟩ = some (.bool nb) ∧ w'.cell? ⟨w.heap.size + 1, 1, none⟩ = some (.slice ab Lb cb) ∧ w'.cell? ⟨b5, 0, none⟩ = some (.bool n5) ∧ w'.cell? ⟨b5, 1, none⟩ = some (.slice a5 L5 k5) ∧ w'.cell? ⟨b6, 0, none⟩ = some (.bool n6) ∧ w'.cell? ⟨b6, 1, none⟩ = some (.slice a6 L6 k6))
      (first | exact X9.out.cells | exact X8.out.cells | exact X7.out.cells | exact X6.out.cells | exact X5.out.cells | exact X4.out.cells | exact X3.out.cells | exact X2.out.cells | exact X1.out.cells | exact X0.out.cells)
      (first
        | (go_at_call 37; have g := X8; clear g; refine (rndivides_calls (X8.out.2.2.1.2.arg (bl10 HA.out)) (X8.out.2.2.2.2.arg (bl10 HB.out)) (by decide)).mono ?_; rintro e y9 ⟨rfl, g9⟩; have X9 := hide (X8.out.keep g9); have Kx9 := hide (bafter Kx8.out g9 (Nat.le_refl _)))
        | (go_at_call 36; have g := X7; clear g; refine (divides_calls X7.out.1.arg X7.out.2.1.arg).mono ?_; rintro e y8 ⟨rfl, g8⟩; have X8 := hide (X7.out.keep g8); have Kx8 := hide (bafter Kx7.out g8 (Nat.le_refl _)))
        | (go_at_call 23; have g := X6; clear g; refine (same_true P5.out (P6.out.arg (ten_gcd HA.out HB.out)) (by decide)).mono ?_; rintro e y7 ⟨rfl, g7⟩; have X7 := hide (X6.out.keep g7); have Kx7 := hide (bafter Kx6.out g7 (Nat.le_refl _)))
        | (go_at_call 35; have g := X5; clear g; refine (rngcd_calls (X5.out.2.2.1.2.arg (bl10 HA.out)) (X5.out.2.2.2.2.arg (bl10 HB.out)) (by decide)).mono ?_; rintro e y6 ⟨v6, rfl, p6, g6⟩; have X6 := hide (X5.out.keep g6); have Kx6 := hide (bafter Kx5.out g6 (Nat.le_refl _)); replace P5 := hide (P5.out.below g6); have P6 := hide p6)
        | (go_at_call 34; have g := X4; clear g; refine (bgcd_calls X4.out.1.arg X4.out.2.1.arg).mono ?_; rintro e y5 ⟨v5, rfl, p5, g5⟩; have X5 := hide (X4.out.keep g5); have Kx5 := hide (bafter Kx4.out g5 (Nat.le_refl _)); have P5 := hide p5)
        | (go_at_call 23; have g := X3; clear g; refine (same_true P2.out (P3.out.arg (ten_mul HA.out HB.out)) (by decide)).mono ?_; rintro e y4 ⟨rfl, g4⟩; have X4 := hide (X3.out.keep g4); have Kx4 := hide (bafter Kx3.out g4 (Nat.le_refl _)))
        | (go_at_call 33; have g := X2; clear g; refine (rnmul_calls (X2.out.2.2.1.2.arg (bl10 HA.out)) (X2.out.2.2.2.2.arg (bl10 HB.out)) (by decide)).mono ?_; rintro e y3 ⟨v3, rfl, p3, g3⟩; have X3 := hide (X2.out.keep g3); have Kx3 := hide (bafter Kx2.out g3 (Nat.le_refl _)); replace P2 := hide (P2.out.below g3); have P3 := hide p3)
        | (go_at_call 12; have g := X1; clear g; refine (bmul_calls X1.out.1.arg X1.out.2.1.arg).mono ?_; rintro e y2 ⟨v2, rfl, p2, g2⟩; have X2 := hide (X1.out.keep g2); have Kx2 := hide (bafter Kx1.out g2 (Nat.le_refl _)); have P2 := hide p2)
        | (go_at_call 21; have g := X0; clear g; refine (msigned_calls _ (tab_keep Ht.out Kx0.out)).mono ?_; rintro e y1 ⟨rfl, g1⟩; have X1 := hide (X0.out.keep g1); have Kx1 := hide (bafter Kx0.out g1 (Nat.le_refl _))))
    go_wp2
    go_ret
    exact ⟨rfl, Kx9.out⟩

end Go.Proofs.YtpenhmkodakpaaaDoor
