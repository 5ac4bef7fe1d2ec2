/- The law BigQuotients: the walk. -/
import Derived.Test.YtpenhmkodakpaaaDoorBigAny
namespace Go.Proofs.YtpenhmkodakpaaaDoor
set_option linter.unusedVariables false
set_option linter.unusedSimpArgs false
set_option maxRecDepth 100000
open Go Go.RowKit Go.Shelf Go.Lib

set_option maxHeartbeats 8000000 in
theorem bquots_calls (w : World) (na nb : Bool) (sa sb : Value) (xs ys : List Nat) (ha0 : Limbs w sa xs) (hb0 : Limbs w sb ys) (htab : TabIs Tryd.prog w "internal/strconv.uint64pow10" .u64 pow10Tab) :
    Calls Tryd.prog 6 #[.agg #[.bool na, sa], .agg #[.bool nb, sb]] w fun e w' => e = .returned (.bool true) ∧ Below w.heap.size w w' := by
  obtain ⟨aa, ca, rfl⟩ := ha0.len
  obtain ⟨ab, cb, rfl⟩ := hb0.len
  obtain ⟨t0, t1, hb⟩ := boxes2 w (.bool na) (.slice aa xs.length ca) (.bool nb) (.slice ab ys.length cb) 24
  have A0 := hide t0
  have B0 := hide t1
  have LA0 := hide (ha0.below hb)
  have LB0 := hide (hb0.below hb)
  have K0 := hide hb
  have Ht := hide htab
  clear t0 t1 hb ha0 hb0 htab
  generalize hLa : xs.length = La at *
  generalize hLb : ys.length = Lb at *
  have HLa := hide hLa
  have HLb := hide hLb
  clear hLa hLb
  go_enter Tryd.func6, Tryd.ntmps6
  by_cases ha : La ≤ 8
  case neg =>
    go_wp2_with fail
    refine (small_no ha).mono ?_
    rintro e v1 ⟨rfl, j1⟩
    have J1 := hide (bafter K0.out j1 (Nat.le_refl _))
    clear j1
    go_wp2_with fail
    refine (msigned_calls _ (tab_keep Ht.out J1.out)).mono ?_
    rintro e v2 ⟨rfl, j2⟩
    go_wp2
    go_ret
    exact ⟨rfl, bafter J1.out j2 (Nat.le_refl _)⟩
  go_wp2_with fail
  refine (small_yes ha).mono ?_
  rintro e w1 ⟨rfl, k1⟩
  have A1 := hide (A0.out.keep k1)
  have B1 := hide (B0.out.keep k1)
  have LA1 := hide (LA0.out.below k1)
  have LB1 := hide (LB0.out.below k1)
  have K1 := hide (bafter K0.out k1 (Nat.le_refl _))
  have c2 := B1.out.c0
  have c3 := B1.out.c1
  clear A0 B0 LA0 LB0 K0 k1
  by_cases hb : Lb ≤ 8
  case neg =>
    go_wp2_with fail
    refine (small_no hb).mono ?_
    rintro e v1 ⟨rfl, j1⟩
    have J1 := hide (bafter K1.out j1 (Nat.le_refl _))
    clear j1
    go_wp2_with fail
    refine (msigned_calls _ (tab_keep Ht.out J1.out)).mono ?_
    rintro e v2 ⟨rfl, j2⟩
    go_wp2
    go_ret
    exact ⟨rfl, bafter J1.out j2 (Nat.le_refl _)⟩
  go_wp2_with fail
  refine (small_yes hb).mono ?_
  rintro e w2 ⟨rfl, k2⟩
  have HA := hide (bl_limbs (na := na) LA1.out.small (by rw [HLa.out]; exact ha))
  have HB := hide (bl_limbs (na := nb) LB1.out.small (by rw [HLb.out]; exact hb))
  have A2 : Hid (BoxL w2 w.heap.size na aa La ca xs) := ⟨A1.out.keep k2, LA1.out.below k2, by rw [HLa.out]; exact ha⟩
  have B2 : Hid (BoxL w2 (w.heap.size + 1) nb ab Lb cb ys) := ⟨B1.out.keep k2, LB1.out.below k2, by rw [HLb.out]; exact hb⟩
  have K2 := hide (bafter K1.out k2 (Nat.le_refl _))
  have c0 := A2.out.1.c0
  have c1 := A2.out.1.c1
  clear A1 B1 LA1 LB1 K1 k2 c2 c3
  have c2 := B2.out.1.c0
  have c3 := B2.out.1.c1
  go_wp2_with fail
  refine (bdiv_any A2.out.arg B2.out.arg).mono ?_
  rintro e w3 ⟨q, r, rfl, hq, hr, k3⟩
  obtain ⟨nq, aq, Lq, kq, rfl⟩ := hq.form
  obtain ⟨nr, ar, Lr, kr, rfl⟩ := hr.form
  have o := bthn (bel w3 (.cells #[.bool nq, .slice aq Lq kq] 24)) (bel _ (.cells #[.bool nr, .slice ar Lr kr] 24))
  have J := bthn k3 o
  have A9 := hide (A2.out.keep J)
  have B9 := hide (B2.out.keep J)
  have K9 := hide (bafter K2.out J (Nat.le_refl _))
  have G9 : Hid (Bag ((w3.alloc (.cells #[.bool nq, .slice aq Lq kq] 24)).alloc (.cells #[.bool nr, .slice ar Lr kr] 24)) [(true, w3.heap.size, nq, aq, Lq, kq, (sgn na (val R xs)) / (sgn nb (val R ys))), (true, w3.heap.size + 1, nr, ar, Lr, kr, divR (sgn na (val R xs)) (sgn nb (val R ys)))]) := ⟨⟨(Two.new w3 _ _ _).alloc _, hq.below o⟩, ⟨fresh1 w3 _ _ _ _, hr.below o⟩, trivial⟩
  clear A2 B2 K2 hq hr o J k3 c0 c1 c2 c3
  obtain ⟨E, hE⟩ : ∃ E, E = divE (sgn nb (val R ys)) := ⟨_, rfl⟩
  rw [← hE]
  have HE := hide hE
  clear hE
  go_upto_region 4 with fail
  generalize ((w3.alloc (.cells #[.bool nq, .slice aq Lq kq] 24)).alloc (.cells #[.bool nr, .slice ar Lr kr] 24)) = W4 at *
  have c0 := A9.out.1.c0
  have c1 := A9.out.1.c1
  have c2 := B9.out.1.c0
  have c3 := B9.out.1.c1
  go_cut [8, 9, 10] from 36 to 108 (fun s8 s9 s10 wx => ∃ b8 n8 a8 L8 k8 b9 n9 a9 L9 k9, s8 = .pointer (some ⟨b8, 0, none⟩) ∧ s9 = .pointer (some ⟨b9, 0, none⟩) ∧ s10 = .int .i64 E ∧ BoxN wx b8 n8 a8 L8 k8 ((sgn na (val R xs)) / (sgn nb (val R ys))) ∧ BoxN wx b9 n9 a9 L9 k9 (divR (sgn na (val R xs)) (sgn nb (val R ys))) ∧ BoxL wx w.heap.size na aa La ca xs ∧ BoxL wx (w.heap.size + 1) nb ab Lb cb ys ∧ Bag wx [(true, w3.heap.size, nq, aq, Lq, kq, (sgn na (val R xs)) / (sgn nb (val R ys))), (true, w3.heap.size + 1, nr, ar, Lr, kr, divR (sgn na (val R xs)) (sgn nb (val R ys)))] ∧ Below w.heap.size w wx)
  case first =>
    go_region_held3 (fun w' => w'.cell? ⟨w.heap.size, 0, none⟩ = some (.bool na) ∧ w'.cell? ⟨w.heap.size, 1, none⟩ = some (.slice aa La ca) ∧ w'.cell? ⟨w.heap.size + 1, 0, none⟩ = some (.bool nb) ∧ w'.cell? ⟨w.heap.size + 1, 1, none⟩ = some (.slice ab Lb cb) ∧ Below W4.heap.size W4 w')
      (first | (refine held_ab A9.out B9.out ?_; go_grown; done) | (trace_state; fail))
      (first
        | (go_at_call 38; have g := X2; clear g; have hB : Below W4.heap.size W4 _ := And.right (And.right (And.right (And.right (by with_reducible assumption)))); refine (rndiv_any ((X1q.out.arg (bl10 HA.out)).below (by go_grown)) ((X2.out.arg (bl10 HB.out)).below (by go_grown)) (by decide)).mono ?_; rintro e x3 ⟨yq, yr, rfl, qq, qr, f3⟩; rw [← HE.out]; obtain ⟨n5, a5, L5, k5, rfl⟩ := qq.form; obtain ⟨n6, a6, L6, k6, rfl⟩ := qr.form; have X3q := hide qq; have X3r := hide qr; clear qq qr; have N3 : Below W4.heap.size W4 x3 := bafter hB f3 (Nat.le_refl _); have z3 := N3.size; have G3 : Below x2.heap.size x2 x3 := bthn (by go_grown) f3; have z33 := G3.size; (try (have T3a : Two x3 W4.heap.size (.bool false) (.slice none 0 0) 43 := Two.keep T2a G3; obtain ⟨T3ac0, T3ac1, T3af0, T3af1, T3al0, T3al1⟩ := T3a.every)); (try (have T3c : Two x3 x1.heap.size (.bool false) (.slice none 0 0) 43 := Two.keep T2c G3; obtain ⟨T3cc0, T3cc1, T3cf0, T3cf1, T3cl0, T3cl1⟩ := T3c.every)); (try (have T3e : Two x3 x2.heap.size (.bool false) (.slice none 0 0) 43 := Two.keep (by first | exact fresh0 x2 _ _ _ | exact (fresh0 x2 _ _ _).alloc _) f3; obtain ⟨T3ec0, T3ec1, T3ef0, T3ef1, T3el0, T3el1⟩ := T3e.every)); (try (have T3b : Two x3 (W4.heap.size + 1) (.bool false) (.slice none 0 0) 43 := Two.keep T2b G3; obtain ⟨T3bc0, T3bc1, T3bf0, T3bf1, T3bl0, T3bl1⟩ := T3b.every)); (try (have T3d : Two x3 (x1.heap.size + 1) (.bool false) (.slice none 0 0) 43 := Two.keep T2d G3; obtain ⟨T3dc0, T3dc1, T3df0, T3df1, T3dl0, T3dl1⟩ := T3d.every)); (try (have T3f : Two x3 (x2.heap.size + 1) (.bool false) (.slice none 0 0) 43 := Two.keep (fresh1 x2 _ _ _ _) f3; obtain ⟨T3fc0, T3fc1, T3ff0, T3ff1, T3fl0, T3fl1⟩ := T3f.every)); clear hB f3)
        | (go_at_call 22; have g := X1; clear g; have hB : Below W4.heap.size W4 _ := And.right (And.right (And.right (And.right (by with_reducible assumption)))); refine (mof_calls (neg := nb) (B9.out.2.1.below hB) B9.out.2.2).mono ?_; rintro e x2 ⟨y2, rfl, q2, f2⟩; obtain ⟨b2, a2, L2, k2, rfl⟩ := q2.form; have X2 := hide q2; have N2 : Below W4.heap.size W4 x2 := bafter hB f2 (Nat.le_refl _); have z2 := N2.size; have G2 : Below x1.heap.size x1 x2 := bthn (by go_grown) f2; have z22 := G2.size; have X1q := hide (X1.out.below G2); (try (have T2a : Two x2 W4.heap.size (.bool false) (.slice none 0 0) 43 := Two.keep T1a G2; obtain ⟨T2ac0, T2ac1, T2af0, T2af1, T2al0, T2al1⟩ := T2a.every)); (try (have T2c : Two x2 x1.heap.size (.bool false) (.slice none 0 0) 43 := Two.keep (by first | exact fresh0 x1 _ _ _ | exact (fresh0 x1 _ _ _).alloc _) f2; obtain ⟨T2cc0, T2cc1, T2cf0, T2cf1, T2cl0, T2cl1⟩ := T2c.every)); (try (have T2b : Two x2 (W4.heap.size + 1) (.bool false) (.slice none 0 0) 43 := Two.keep T1b G2; obtain ⟨T2bc0, T2bc1, T2bf0, T2bf1, T2bl0, T2bl1⟩ := T2b.every)); (try (have T2d : Two x2 (x1.heap.size + 1) (.bool false) (.slice none 0 0) 43 := Two.keep (fresh1 x1 _ _ _ _) f2; obtain ⟨T2dc0, T2dc1, T2df0, T2df1, T2dl0, T2dl1⟩ := T2d.every)); clear hB f2 q2)
        | (go_at_call 22; have hB : Below W4.heap.size W4 _ := And.right (And.right (And.right (And.right (by with_reducible assumption)))); refine (mof_calls (neg := na) (A9.out.2.1.below hB) A9.out.2.2).mono ?_; rintro e x1 ⟨y1, rfl, q1, f1⟩; obtain ⟨b1, a1, L1, k1, rfl⟩ := q1.form; have X1 := hide q1; have N1 : Below W4.heap.size W4 x1 := bafter hB f1 (Nat.le_refl _); have z1 := N1.size; (try (have T1a : Two x1 W4.heap.size (.bool false) (.slice none 0 0) 43 := Two.keep (by first | exact (fresh0 W4 _ _ _).drew | exact ((fresh0 W4 _ _ _).alloc _).drew) f1; obtain ⟨T1ac0, T1ac1, T1af0, T1af1, T1al0, T1al1⟩ := T1a.every)); (try (have T1b : Two x1 (W4.heap.size + 1) (.bool false) (.slice none 0 0) 43 := Two.keep ((fresh1 W4 _ _ _ _).drew) f1; obtain ⟨T1bc0, T1bc1, T1bf0, T1bf1, T1bl0, T1bl1⟩ := T1b.every)); clear hB f1 q1))
    all_goals
      go_wp2_with fail
      go_meet
      have X3' := X3q.out
      have X2' := X3r.out
      refine q2_meet (n5 := n5) (a5 := a5) (L5 := L5) (k5 := k5) (n6 := n6) (a6 := a6) (L6 := L6) (k6 := k6) ?_ (A9.out.keep ?_) (B9.out.keep ?_) (Bag.keep ?_ G9.out) (bafter K9.out ?_ (Nat.le_refl _))
      · first
          | (with_reducible exact nleaf1 X3' X2')
          | (with_reducible exact nleaf2 X3' X2')
          | (with_reducible exact nleaf3 X3' X2' T3a)
          | (with_reducible exact nleaf3 X3' X2' T3b)
          | (with_reducible exact nleaf3 X3' X2' T3c)
          | (with_reducible exact nleaf3 X3' X2' T3d)
          | (with_reducible exact nleaf3 X3' X2' T3e)
          | (with_reducible exact nleaf3 X3' X2' T3f)
          | (with_reducible exact nleaf4 X3' X2' T3a)
          | (with_reducible exact nleaf4 X3' X2' T3b)
          | (with_reducible exact nleaf4 X3' X2' T3c)
          | (with_reducible exact nleaf4 X3' X2' T3d)
          | (with_reducible exact nleaf4 X3' X2' T3e)
          | (with_reducible exact nleaf4 X3' X2' T3f)
          | (with_reducible exact nleaf5 X3' X2' T3a T3b (by omega))
          | (with_reducible exact nleaf5 X3' X2' T3a T3c (by omega))
          | (with_reducible exact nleaf5 X3' X2' T3a T3d (by omega))
          | (with_reducible exact nleaf5 X3' X2' T3a T3e (by omega))
          | (with_reducible exact nleaf5 X3' X2' T3a T3f (by omega))
          | (with_reducible exact nleaf5 X3' X2' T3b T3a (by omega))
          | (with_reducible exact nleaf5 X3' X2' T3b T3c (by omega))
          | (with_reducible exact nleaf5 X3' X2' T3b T3d (by omega))
          | (with_reducible exact nleaf5 X3' X2' T3b T3e (by omega))
          | (with_reducible exact nleaf5 X3' X2' T3b T3f (by omega))
          | (with_reducible exact nleaf5 X3' X2' T3c T3a (by omega))
          | (with_reducible exact nleaf5 X3' X2' T3c T3b (by omega))
          | (with_reducible exact nleaf5 X3' X2' T3c T3d (by omega))
          | (with_reducible exact nleaf5 X3' X2' T3c T3e (by omega))
          | (with_reducible exact nleaf5 X3' X2' T3c T3f (by omega))
          | (with_reducible exact nleaf5 X3' X2' T3d T3a (by omega))
          | (with_reducible exact nleaf5 X3' X2' T3d T3b (by omega))
          | (with_reducible exact nleaf5 X3' X2' T3d T3c (by omega))
          | (with_reducible exact nleaf5 X3' X2' T3d T3e (by omega))
          | (with_reducible exact nleaf5 X3' X2' T3d T3f (by omega))
          | (with_reducible exact nleaf5 X3' X2' T3e T3a (by omega))
          | (with_reducible exact nleaf5 X3' X2' T3e T3b (by omega))
          | (with_reducible exact nleaf5 X3' X2' T3e T3c (by omega))
          | (with_reducible exact nleaf5 X3' X2' T3e T3d (by omega))
          | (with_reducible exact nleaf5 X3' X2' T3e T3f (by omega))
          | (with_reducible exact nleaf5 X3' X2' T3f T3a (by omega))
          | (with_reducible exact nleaf5 X3' X2' T3f T3b (by omega))
          | (with_reducible exact nleaf5 X3' X2' T3f T3c (by omega))
          | (with_reducible exact nleaf5 X3' X2' T3f T3d (by omega))
          | (with_reducible exact nleaf5 X3' X2' T3f T3e (by omega))
      · go_grown
      · go_grown
      · go_grown
      · go_grown
  case rest =>
    obtain ⟨b8, n8, a8, L8, k8, b9, n9, a9, L9, k9, rfl, rfl, rfl, h8, h9, ha9, hb9, hg9, hk9⟩ := hcut
    have G8 : Hid (Bag wc [(false, b8, n8, a8, L8, k8, (sgn na (val R xs)) / (sgn nb (val R ys))), (false, b9, n9, a9, L9, k9, divR (sgn na (val R xs)) (sgn nb (val R ys))), (true, w3.heap.size, nq, aq, Lq, kq, (sgn na (val R xs)) / (sgn nb (val R ys))), (true, w3.heap.size + 1, nr, ar, Lr, kr, divR (sgn na (val R xs)) (sgn nb (val R ys)))]) := ⟨h8, h9, hg9⟩
    have A8 := hide ha9
    have C8 := hide hb9
    have K8 := hide hk9
    clear h8 h9 ha9 hb9 hg9 hk9 A9 B9 K9 G9 c0 c1 c2 c3
    have c0 := A8.out.1.c0
    have c1 := A8.out.1.c1
    have c2 := C8.out.1.c0
    have c3 := C8.out.1.c1
    go_wp2_with fail
    refine (bfloor_any A8.out.arg C8.out.arg HA.out HB.out (by decide)).mono ?_
    rintro e w5 ⟨q, rfl, hq, k5⟩
    rw [← HE.out]
    obtain ⟨n11, a11, L11, k11, rfl⟩ := hq.form
    have o := bel w5 (.cells #[.bool n11, .slice a11 L11 k11] 24)
    have J := bthn k5 o
    have A9 := hide (A8.out.keep J)
    have B9 := hide (C8.out.keep J)
    have K9 := hide (bafter K8.out J (Nat.le_refl _))
    have G9 : Hid (Bag (w5.alloc (.cells #[.bool n11, .slice a11 L11 k11] 24)) [(true, w5.heap.size, n11, a11, L11, k11, floorZ (sgn na (val R xs)) (sgn nb (val R ys))), (false, b8, n8, a8, L8, k8, (sgn na (val R xs)) / (sgn nb (val R ys))), (false, b9, n9, a9, L9, k9, divR (sgn na (val R xs)) (sgn nb (val R ys))), (true, w3.heap.size, nq, aq, Lq, kq, (sgn na (val R xs)) / (sgn nb (val R ys))), (true, w3.heap.size + 1, nr, ar, Lr, kr, divR (sgn na (val R xs)) (sgn nb (val R ys)))]) := ⟨⟨Two.new w5 _ _ _, hq.below o⟩, Bag.keep J G8.out⟩
    clear A8 C8 K8 G8 hq o J k5 c0 c1 c2 c3
    go_upto_region 6 with fail
    generalize (w5.alloc (.cells #[.bool n11, .slice a11 L11 k11] 24)) = W6 at *
    have c0 := A9.out.1.c0
    have c1 := A9.out.1.c1
    have c2 := B9.out.1.c0
    have c3 := B9.out.1.c1
    go_cut [13, 14] from 51 to 108 (fun s13 s14 wx => ∃ b13 n13 a13 L13 k13, s13 = .pointer (some ⟨b13, 0, none⟩) ∧ s14 = .int .i64 E ∧ BoxN wx b13 n13 a13 L13 k13 (floorZ (sgn na (val R xs)) (sgn nb (val R ys))) ∧ BoxL wx w.heap.size na aa La ca xs ∧ BoxL wx (w.heap.size + 1) nb ab Lb cb ys ∧ Bag wx [(true, w5.heap.size, n11, a11, L11, k11, floorZ (sgn na (val R xs)) (sgn nb (val R ys))), (false, b8, n8, a8, L8, k8, (sgn na (val R xs)) / (sgn nb (val R ys))), (false, b9, n9, a9, L9, k9, divR (sgn na (val R xs)) (sgn nb (val R ys))), (true, w3.heap.size, nq, aq, Lq, kq, (sgn na (val R xs)) / (sgn nb (val R ys))), (true, w3.heap.size + 1, nr, ar, Lr, kr, divR (sgn na (val R xs)) (sgn nb (val R ys)))] ∧ Below w.heap.size w wx)
    case first =>
      go_region_held3 (fun w' => w'.cell? ⟨w.heap.size, 0, none⟩ = some (.bool na) ∧ w'.cell? ⟨w.heap.size, 1, none⟩ = some (.slice aa La ca) ∧ w'.cell? ⟨w.heap.size + 1, 0, none⟩ = some (.bool nb) ∧ w'.cell? ⟨w.heap.size + 1, 1, none⟩ = some (.slice ab Lb cb) ∧ Below W6.heap.size W6 w')
        (first | (refine held_ab A9.out B9.out ?_; go_grown; done) | (trace_state; fail))
        (first
          | (go_at_call 40; have g := X2; clear g; have hB : Below W6.heap.size W6 _ := And.right (And.right (And.right (And.right (by with_reducible assumption)))); refine (rnfloor_any ((X1q.out.arg (bl10 HA.out)).below (by go_grown)) ((X2.out.arg (bl10 HB.out)).below (by go_grown)) (by decide)).mono ?_; rintro e x3 ⟨yq, rfl, qq, f3⟩; rw [← HE.out]; obtain ⟨n5, a5, L5, k5, rfl⟩ := qq.form; have X3q := hide qq; clear qq; have N3 : Below W6.heap.size W6 x3 := bafter hB f3 (Nat.le_refl _); have z3 := N3.size; have G3 : Below x2.heap.size x2 x3 := bthn (by go_grown) f3; have z33 := G3.size; (try (have T3a : Two x3 W6.heap.size (.bool false) (.slice none 0 0) 43 := Two.keep T2a G3; obtain ⟨T3ac0, T3ac1, T3af0, T3af1, T3al0, T3al1⟩ := T3a.every)); (try (have T3c : Two x3 x1.heap.size (.bool false) (.slice none 0 0) 43 := Two.keep T2c G3; obtain ⟨T3cc0, T3cc1, T3cf0, T3cf1, T3cl0, T3cl1⟩ := T3c.every)); (try (have T3e : Two x3 x2.heap.size (.bool false) (.slice none 0 0) 43 := Two.keep (by first | exact fresh0 x2 _ _ _ | exact (fresh0 x2 _ _ _).alloc _) f3; obtain ⟨T3ec0, T3ec1, T3ef0, T3ef1, T3el0, T3el1⟩ := T3e.every)); clear hB f3)
          | (go_at_call 22; have g := X1; clear g; have hB : Below W6.heap.size W6 _ := And.right (And.right (And.right (And.right (by with_reducible assumption)))); refine (mof_calls (neg := nb) (B9.out.2.1.below hB) B9.out.2.2).mono ?_; rintro e x2 ⟨y2, rfl, q2, f2⟩; obtain ⟨b2, a2, L2, k2, rfl⟩ := q2.form; have X2 := hide q2; have N2 : Below W6.heap.size W6 x2 := bafter hB f2 (Nat.le_refl _); have z2 := N2.size; have G2 : Below x1.heap.size x1 x2 := bthn (by go_grown) f2; have z22 := G2.size; have X1q := hide (X1.out.below G2); (try (have T2a : Two x2 W6.heap.size (.bool false) (.slice none 0 0) 43 := Two.keep T1a G2; obtain ⟨T2ac0, T2ac1, T2af0, T2af1, T2al0, T2al1⟩ := T2a.every)); (try (have T2c : Two x2 x1.heap.size (.bool false) (.slice none 0 0) 43 := Two.keep (by first | exact fresh0 x1 _ _ _ | exact (fresh0 x1 _ _ _).alloc _) f2; obtain ⟨T2cc0, T2cc1, T2cf0, T2cf1, T2cl0, T2cl1⟩ := T2c.every)); clear hB f2 q2)
          | (go_at_call 22; have hB : Below W6.heap.size W6 _ := And.right (And.right (And.right (And.right (by with_reducible assumption)))); refine (mof_calls (neg := na) (A9.out.2.1.below hB) A9.out.2.2).mono ?_; rintro e x1 ⟨y1, rfl, q1, f1⟩; obtain ⟨b1, a1, L1, k1, rfl⟩ := q1.form; have X1 := hide q1; have N1 : Below W6.heap.size W6 x1 := bafter hB f1 (Nat.le_refl _); have z1 := N1.size; (try (have T1a : Two x1 W6.heap.size (.bool false) (.slice none 0 0) 43 := Two.keep (by first | exact (fresh0 W6 _ _ _).drew | exact ((fresh0 W6 _ _ _).alloc _).drew) f1; obtain ⟨T1ac0, T1ac1, T1af0, T1af1, T1al0, T1al1⟩ := T1a.every)); clear hB f1 q1))
      all_goals
        go_wp2_with fail
        go_meet
        have X3' := X3q.out
        refine q1_meet (n5 := n5) (a5 := a5) (L5 := L5) (k5 := k5) ?_ (A9.out.keep ?_) (B9.out.keep ?_) (Bag.keep ?_ G9.out) (bafter K9.out ?_ (Nat.le_refl _))
        · first
            | (with_reducible exact ntip1 X3')
            | (with_reducible exact ntip2 X3' T3a)
            | (with_reducible exact ntip2 X3' T3c)
            | (with_reducible exact ntip2 X3' T3e)
        · go_grown
        · go_grown
        · go_grown
        · go_grown
    case rest =>
      obtain ⟨b13, n13, a13, L13, k13, rfl, rfl, h13, ha9, hb9, hg9, hk9⟩ := hcut
      have G8 : Hid (Bag wc [(false, b13, n13, a13, L13, k13, floorZ (sgn na (val R xs)) (sgn nb (val R ys))), (true, w5.heap.size, n11, a11, L11, k11, floorZ (sgn na (val R xs)) (sgn nb (val R ys))), (false, b8, n8, a8, L8, k8, (sgn na (val R xs)) / (sgn nb (val R ys))), (false, b9, n9, a9, L9, k9, divR (sgn na (val R xs)) (sgn nb (val R ys))), (true, w3.heap.size, nq, aq, Lq, kq, (sgn na (val R xs)) / (sgn nb (val R ys))), (true, w3.heap.size + 1, nr, ar, Lr, kr, divR (sgn na (val R xs)) (sgn nb (val R ys)))]) := ⟨h13, hg9⟩
      have A8 := hide ha9
      have C8 := hide hb9
      have K8 := hide hk9
      clear h13 ha9 hb9 hg9 hk9 A9 B9 K9 G9 c0 c1 c2 c3
      have c0 := A8.out.1.c0
      have c1 := A8.out.1.c1
      have c2 := C8.out.1.c0
      have c3 := C8.out.1.c1
      go_wp2_with fail
      refine (bceil_any A8.out.arg C8.out.arg HA.out HB.out (by decide)).mono ?_
      rintro e w7 ⟨q, rfl, hq, k7⟩
      rw [← HE.out]
      obtain ⟨n15, a15, L15, k15, rfl⟩ := hq.form
      have o := bel w7 (.cells #[.bool n15, .slice a15 L15 k15] 24)
      have J := bthn k7 o
      have A9 := hide (A8.out.keep J)
      have B9 := hide (C8.out.keep J)
      have K9 := hide (bafter K8.out J (Nat.le_refl _))
      have G9 : Hid (Bag (w7.alloc (.cells #[.bool n15, .slice a15 L15 k15] 24)) [(true, w7.heap.size, n15, a15, L15, k15, ceilZ (sgn na (val R xs)) (sgn nb (val R ys))), (false, b13, n13, a13, L13, k13, floorZ (sgn na (val R xs)) (sgn nb (val R ys))), (true, w5.heap.size, n11, a11, L11, k11, floorZ (sgn na (val R xs)) (sgn nb (val R ys))), (false, b8, n8, a8, L8, k8, (sgn na (val R xs)) / (sgn nb (val R ys))), (false, b9, n9, a9, L9, k9, divR (sgn na (val R xs)) (sgn nb (val R ys))), (true, w3.heap.size, nq, aq, Lq, kq, (sgn na (val R xs)) / (sgn nb (val R ys))), (true, w3.heap.size + 1, nr, ar, Lr, kr, divR (sgn na (val R xs)) (sgn nb (val R ys)))]) := ⟨⟨Two.new w7 _ _ _, hq.below o⟩, Bag.keep J G8.out⟩
      clear A8 C8 K8 G8 hq o J k7 c0 c1 c2 c3
      go_upto_region 8 with fail
      generalize (w7.alloc (.cells #[.bool n15, .slice a15 L15 k15] 24)) = W8 at *
      have c0 := A9.out.1.c0
      have c1 := A9.out.1.c1
      have c2 := B9.out.1.c0
      have c3 := B9.out.1.c1
      go_cut [17, 18] from 65 to 108 (fun s17 s18 wx => ∃ b17 n17 a17 L17 k17, s17 = .pointer (some ⟨b17, 0, none⟩) ∧ s18 = .int .i64 E ∧ BoxN wx b17 n17 a17 L17 k17 (ceilZ (sgn na (val R xs)) (sgn nb (val R ys))) ∧ BoxL wx w.heap.size na aa La ca xs ∧ BoxL wx (w.heap.size + 1) nb ab Lb cb ys ∧ Bag wx [(true, w7.heap.size, n15, a15, L15, k15, ceilZ (sgn na (val R xs)) (sgn nb (val R ys))), (false, b13, n13, a13, L13, k13, floorZ (sgn na (val R xs)) (sgn nb (val R ys))), (true, w5.heap.size, n11, a11, L11, k11, floorZ (sgn na (val R xs)) (sgn nb (val R ys))), (false, b8, n8, a8, L8, k8, (sgn na (val R xs)) / (sgn nb (val R ys))), (false, b9, n9, a9, L9, k9, divR (sgn na (val R xs)) (sgn nb (val R ys))), (true, w3.heap.size, nq, aq, Lq, kq, (sgn na (val R xs)) / (sgn nb (val R ys))), (true, w3.heap.size + 1, nr, ar, Lr, kr, divR (sgn na (val R xs)) (sgn nb (val R ys)))] ∧ Below w.heap.size w wx)
      case first =>
        go_region_held3 (fun w' => w'.cell? ⟨w.heap.size, 0, none⟩ = some (.bool na) ∧ w'.cell? ⟨w.heap.size, 1, none⟩ = some (.slice aa La ca) ∧ w'.cell? ⟨w.heap.size + 1, 0, none⟩ = some (.bool nb) ∧ w'.cell? ⟨w.heap.size + 1, 1, none⟩ = some (.slice ab Lb cb) ∧ Below W8.heap.size W8 w')
          (first | (refine held_ab A9.out B9.out ?_; go_grown; done) | (trace_state; fail))
          (first
            | (go_at_call 42; have g := X2; clear g; have hB : Below W8.heap.size W8 _ := And.right (And.right (And.right (And.right (by with_reducible assumption)))); refine (rnceil_any ((X1q.out.arg (bl10 HA.out)).below (by go_grown)) ((X2.out.arg (bl10 HB.out)).below (by go_grown)) (by decide)).mono ?_; rintro e x3 ⟨yq, rfl, qq, f3⟩; rw [← HE.out]; obtain ⟨n5, a5, L5, k5, rfl⟩ := qq.form; have X3q := hide qq; clear qq; have N3 : Below W8.heap.size W8 x3 := bafter hB f3 (Nat.le_refl _); have z3 := N3.size; have G3 : Below x2.heap.size x2 x3 := bthn (by go_grown) f3; have z33 := G3.size; (try (have T3a : Two x3 W8.heap.size (.bool false) (.slice none 0 0) 43 := Two.keep T2a G3; obtain ⟨T3ac0, T3ac1, T3af0, T3af1, T3al0, T3al1⟩ := T3a.every)); (try (have T3c : Two x3 x1.heap.size (.bool false) (.slice none 0 0) 43 := Two.keep T2c G3; obtain ⟨T3cc0, T3cc1, T3cf0, T3cf1, T3cl0, T3cl1⟩ := T3c.every)); (try (have T3e : Two x3 x2.heap.size (.bool false) (.slice none 0 0) 43 := Two.keep (by first | exact fresh0 x2 _ _ _ | exact (fresh0 x2 _ _ _).alloc _) f3; obtain ⟨T3ec0, T3ec1, T3ef0, T3ef1, T3el0, T3el1⟩ := T3e.every)); clear hB f3)
            | (go_at_call 22; have g := X1; clear g; have hB : Below W8.heap.size W8 _ := And.right (And.right (And.right (And.right (by with_reducible assumption)))); refine (mof_calls (neg := nb) (B9.out.2.1.below hB) B9.out.2.2).mono ?_; rintro e x2 ⟨y2, rfl, q2, f2⟩; obtain ⟨b2, a2, L2, k2, rfl⟩ := q2.form; have X2 := hide q2; have N2 : Below W8.heap.size W8 x2 := bafter hB f2 (Nat.le_refl _); have z2 := N2.size; have G2 : Below x1.heap.size x1 x2 := bthn (by go_grown) f2; have z22 := G2.size; have X1q := hide (X1.out.below G2); (try (have T2a : Two x2 W8.heap.size (.bool false) (.slice none 0 0) 43 := Two.keep T1a G2; obtain ⟨T2ac0, T2ac1, T2af0, T2af1, T2al0, T2al1⟩ := T2a.every)); (try (have T2c : Two x2 x1.heap.size (.bool false) (.slice none 0 0) 43 := Two.keep (by first | exact fresh0 x1 _ _ _ | exact (fresh0 x1 _ _ _).alloc _) f2; obtain ⟨T2cc0, T2cc1, T2cf0, T2cf1, T2cl0, T2cl1⟩ := T2c.every)); clear hB f2 q2)
            | (go_at_call 22; have hB : Below W8.heap.size W8 _ := And.right (And.right (And.right (And.right (by with_reducible assumption)))); refine (mof_calls (neg := na) (A9.out.2.1.below hB) A9.out.2.2).mono ?_; rintro e x1 ⟨y1, rfl, q1, f1⟩; obtain ⟨b1, a1, L1, k1, rfl⟩ := q1.form; have X1 := hide q1; have N1 : Below W8.heap.size W8 x1 := bafter hB f1 (Nat.le_refl _); have z1 := N1.size; (try (have T1a : Two x1 W8.heap.size (.bool false) (.slice none 0 0) 43 := Two.keep (by first | exact (fresh0 W8 _ _ _).drew | exact ((fresh0 W8 _ _ _).alloc _).drew) f1; obtain ⟨T1ac0, T1ac1, T1af0, T1af1, T1al0, T1al1⟩ := T1a.every)); clear hB f1 q1))
        all_goals
          go_wp2_with fail
          go_meet
          have X3' := X3q.out
          refine q1_meet (n5 := n5) (a5 := a5) (L5 := L5) (k5 := k5) ?_ (A9.out.keep ?_) (B9.out.keep ?_) (Bag.keep ?_ G9.out) (bafter K9.out ?_ (Nat.le_refl _))
          · first
              | (with_reducible exact ntip1 X3')
              | (with_reducible exact ntip2 X3' T3a)
              | (with_reducible exact ntip2 X3' T3c)
              | (with_reducible exact ntip2 X3' T3e)
          · go_grown
          · go_grown
          · go_grown
          · go_grown
      case rest =>
        obtain ⟨b17, n17, a17, L17, k17, rfl, rfl, h17, ha9, hb9, hg9, hk9⟩ := hcut
        have C15 := hide hg9.1
        have G13 := hide hg9.2.1
        have F11 := hide hg9.2.2.1
        have X8 := hide hg9.2.2.2.1
        have X9 := hide hg9.2.2.2.2.1
        have Q5 := hide hg9.2.2.2.2.2.1
        have R6 := hide hg9.2.2.2.2.2.2.1
        have D17 := hide h17
        have K8 := hide hk9
        clear h17 ha9 hb9 hg9 hk9 A9 B9 K9 G9 c0 c1 c2 c3
        go_wp2_with fail
        refine (msigned_calls _ (tab_keep Ht.out K8.out)).mono ?_
        rintro e v0 ⟨rfl, g0⟩
        replace Q5 := hide (Q5.out.keep g0)
        replace X8 := hide (X8.out.keep g0)
        replace R6 := hide (R6.out.keep g0)
        replace X9 := hide (X9.out.keep g0)
        replace F11 := hide (F11.out.keep g0)
        replace G13 := hide (G13.out.keep g0)
        replace C15 := hide (C15.out.keep g0)
        replace D17 := hide (D17.out.keep g0)
        replace K8 := hide (bafter K8.out g0 (Nat.le_refl _))
        clear g0
        have e0 := Q5.out.1.c0
        have e1 := Q5.out.1.c1
        have e2 := X8.out.1.c0
        have e3 := X8.out.1.c1
        go_wp2_with fail
        refine (same_true Q5.out.2 (X8.out.2.arg (Nat.lt_of_lt_of_le (quo_bound HA.out) (pow_R_le 9))) (by decide)).mono ?_
        rintro e v1 ⟨rfl, g1⟩
        clear e0 e1 e2 e3
        replace R6 := hide (R6.out.keep g1)
        replace X9 := hide (X9.out.keep g1)
        replace F11 := hide (F11.out.keep g1)
        replace G13 := hide (G13.out.keep g1)
        replace C15 := hide (C15.out.keep g1)
        replace D17 := hide (D17.out.keep g1)
        replace K8 := hide (bafter K8.out g1 (Nat.le_refl _))
        clear g1
        have e0 := R6.out.1.c0
        have e1 := R6.out.1.c1
        have e2 := X9.out.1.c0
        have e3 := X9.out.1.c1
        go_wp2_with fail
        refine (same_true R6.out.2 (X9.out.2.arg (divR_lt (bl10 HB.out) (by decide))) (by decide)).mono ?_
        rintro e v2 ⟨rfl, g2⟩
        clear e0 e1 e2 e3
        replace F11 := hide (F11.out.keep g2)
        replace G13 := hide (G13.out.keep g2)
        replace C15 := hide (C15.out.keep g2)
        replace D17 := hide (D17.out.keep g2)
        replace K8 := hide (bafter K8.out g2 (Nat.le_refl _))
        clear g2
        have e0 := F11.out.1.c0
        have e1 := F11.out.1.c1
        have e2 := G13.out.1.c0
        have e3 := G13.out.1.c1
        go_wp2_with fail
        refine (same_true F11.out.2 (G13.out.2.arg (floor10 HA.out)) (by decide)).mono ?_
        rintro e v3 ⟨rfl, g3⟩
        clear e0 e1 e2 e3
        replace C15 := hide (C15.out.keep g3)
        replace D17 := hide (D17.out.keep g3)
        replace K8 := hide (bafter K8.out g3 (Nat.le_refl _))
        clear g3
        have e0 := C15.out.1.c0
        have e1 := C15.out.1.c1
        have e2 := D17.out.1.c0
        have e3 := D17.out.1.c1
        go_wp2_with fail
        refine (same_true C15.out.2 (D17.out.2.arg (ceil10 HA.out)) (by decide)).mono ?_
        rintro e v4 ⟨rfl, g4⟩
        clear e0 e1 e2 e3
        go_wp2
        go_ret
        exact ⟨rfl, bafter K8.out g4 (Nat.le_refl _)⟩

end Go.Proofs.YtpenhmkodakpaaaDoor
