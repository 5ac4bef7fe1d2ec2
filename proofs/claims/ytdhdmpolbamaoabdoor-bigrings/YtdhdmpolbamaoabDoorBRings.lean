/- The law BigRings: the walk. -/
import Derived.Test.YtdhdmpolbamaoabDoorBigLaw0
namespace Go.Proofs.YtdhdmpolbamaoabDoor
set_option linter.unusedVariables false
set_option linter.unusedSimpArgs false
set_option maxRecDepth 100000
open Go Go.RowKit Go.Shelf Go.Lib

set_option maxHeartbeats 8000000 in
theorem brings_calls (w : World) (na nb nc : Bool) (sa sb sc : Value) (xs ys zs : List Nat) (ha0 : Limbs w sa xs) (hb0 : Limbs w sb ys) (hc0 : Limbs w sc zs) (htab : TabIs Tryd.prog w "internal/strconv.uint64pow10" .u64 pow10Tab) :
    Calls Tryd.prog 3 #[.agg #[.bool na, sa], .agg #[.bool nb, sb], .agg #[.bool nc, sc]] w fun e w' => e = .returned (.bool true) ∧ Below w.heap.size w w' := by
  obtain ⟨aa, ca, rfl⟩ := ha0.len
  obtain ⟨ab, cb, rfl⟩ := hb0.len
  obtain ⟨ac, cc, rfl⟩ := hc0.len
  obtain ⟨t0, t1, t2, hb⟩ := boxes w (.bool na) (.slice aa xs.length ca) (.bool nb) (.slice ab ys.length cb) (.bool nc) (.slice ac zs.length cc) 24
  have G : Hid (Tri _ w.heap.size (w.heap.size + 1) (w.heap.size + 1 + 1) (.bool na) (.slice aa xs.length ca) (.bool nb) (.slice ab ys.length cb) (.bool nc) (.slice ac zs.length cc)) := ⟨t0, t1, t2⟩
  have K := hide hb
  have A := hide (ha0.below hb)
  have B := hide (hb0.below hb)
  have C := hide (hc0.below hb)
  have Ht := hide (tab_keep htab hb)
  clear t0 t1 t2 hb ha0 hb0 hc0 htab
  generalize hLa : xs.length = La at *
  generalize hLb : ys.length = Lb at *
  generalize hLc : zs.length = Lc at *
  have HLa := hide hLa
  have HLb := hide hLb
  have HLc := hide hLc
  clear hLa hLb hLc
  go_enter Tryd.func3, Tryd.ntmps3
  go_wp2_with fail
  refine (msigned_calls _ Ht.out).mono ?_
  rintro e w1 ⟨rfl, k1⟩
  have G1 := hide (G.out.keep k1)
  have K1 := hide (bafter K.out k1 (Nat.le_refl _))
  have A1 := hide (A.out.below k1)
  have B1 := hide (B.out.below k1)
  have C1 := hide (C.out.below k1)
  have Ht1 := hide (tab_keep Ht.out k1)
  obtain ⟨c0, c1, c2, c3, c4, c5⟩ := G1.out.cells
  clear G K A B C Ht k1

  by_cases ha : La ≤ 8
  case neg =>
    go_wp2_with fail
    refine (small_no ha).mono ?_
    rintro e v1 ⟨rfl, j1⟩
    go_wp2_with fail
    refine (msigned_calls _ (tab_keep Ht1.out j1)).mono ?_
    rintro e v2 ⟨rfl, j2⟩
    go_wp2
    go_ret
    exact ⟨rfl, bafter (bafter K1.out j1 (Nat.le_refl _)) j2 (Nat.le_refl _)⟩
  go_wp2_with fail
  refine (small_yes ha).mono ?_
  rintro e w2 ⟨rfl, k2⟩
  have G2 := hide (G1.out.keep k2)
  have K2 := hide (bafter K1.out k2 (Nat.le_refl _))
  have A2 := hide (A1.out.below k2)
  have B2 := hide (B1.out.below k2)
  have C2 := hide (C1.out.below k2)
  have Ht2 := hide (tab_keep Ht1.out k2)
  clear c0 c1 c2 c3 c4 c5
  obtain ⟨c0, c1, c2, c3, c4, c5⟩ := G2.out.cells
  clear G1 K1 A1 B1 C1 Ht1 k2
  by_cases hb : Lb ≤ 8
  case neg =>
    go_wp2_with fail
    refine (small_no hb).mono ?_
    rintro e v1 ⟨rfl, j1⟩
    go_wp2_with fail
    refine (msigned_calls _ (tab_keep Ht2.out j1)).mono ?_
    rintro e v2 ⟨rfl, j2⟩
    go_wp2
    go_ret
    exact ⟨rfl, bafter (bafter K2.out j1 (Nat.le_refl _)) j2 (Nat.le_refl _)⟩
  go_wp2_with fail
  refine (small_yes hb).mono ?_
  rintro e w3 ⟨rfl, k3⟩
  have G3 := hide (G2.out.keep k3)
  have K3 := hide (bafter K2.out k3 (Nat.le_refl _))
  have A3 := hide (A2.out.below k3)
  have B3 := hide (B2.out.below k3)
  have C3 := hide (C2.out.below k3)
  have Ht3 := hide (tab_keep Ht2.out k3)
  clear c0 c1 c2 c3 c4 c5
  obtain ⟨c0, c1, c2, c3, c4, c5⟩ := G3.out.cells
  clear G2 K2 A2 B2 C2 Ht2 k3
  by_cases hc : Lc ≤ 8
  case neg =>
    go_wp2_with fail
    refine (small_no hc).mono ?_
    rintro e v1 ⟨rfl, j1⟩
    go_wp2_with fail
    refine (msigned_calls _ (tab_keep Ht3.out j1)).mono ?_
    rintro e v2 ⟨rfl, j2⟩
    go_wp2
    go_ret
    exact ⟨rfl, bafter (bafter K3.out j1 (Nat.le_refl _)) j2 (Nat.le_refl _)⟩
  go_wp2_with fail
  refine (small_yes hc).mono ?_
  rintro e w4 ⟨rfl, k4⟩
  have G4 := hide (G3.out.keep k4)
  have K4 := hide (bafter K3.out k4 (Nat.le_refl _))
  have A4 := hide (A3.out.below k4)
  have B4 := hide (B3.out.below k4)
  have C4 := hide (C3.out.below k4)
  have Ht4 := hide (tab_keep Ht3.out k4)
  clear c0 c1 c2 c3 c4 c5
  obtain ⟨c0, c1, c2, c3, c4, c5⟩ := G4.out.cells
  clear G3 K3 A3 B3 C3 Ht3 k4
  have hA := bl_limbs (na := na) A4.out.small (by rw [HLa.out]; exact ha)
  have hB := bl_limbs (na := nb) B4.out.small (by rw [HLb.out]; exact hb)
  have hC := bl_limbs (na := nc) C4.out.small (by rw [HLc.out]; exact hc)
  have A_0 : Hid (BArg w4.drew (.agg #[.bool na, .slice aa La ca]) (sgn na (val R xs))) := BArg.drew ⟨na, _, _, rfl, ⟨xs, A4.out, by rw [HLa.out]; omega, rfl⟩, rfl⟩
  have B_0 : Hid (BArg w4.drew (.agg #[.bool nb, .slice ab Lb cb]) (sgn nb (val R ys))) := BArg.drew ⟨nb, _, _, rfl, ⟨ys, B4.out, by rw [HLb.out]; omega, rfl⟩, rfl⟩
  have C_0 : Hid (BArg w4.drew (.agg #[.bool nc, .slice ac Lc cc]) (sgn nc (val R zs))) := BArg.drew ⟨nc, _, _, rfl, ⟨zs, C4.out, by rw [HLc.out]; omega, rfl⟩, rfl⟩
  have G0 : Hid (Tri w4.drew w.heap.size (w.heap.size + 1) (w.heap.size + 1 + 1) (.bool na) (.slice aa La ca) (.bool nb) (.slice ab Lb cb) (.bool nc) (.slice ac Lc cc)) := G4.out
  have K0 := hide K4.out.drew
  generalize sgn na (val R xs) = x at *
  generalize sgn nb (val R ys) = y at *
  generalize sgn nc (val R zs) = z at *
  clear A4 B4 C4 Ht4 G4 K4
  go_wp2
  go_region_held3 (fun w' => w'.cell? ⟨w.heap.size, 0, none⟩ = some (.bool na) ∧ w'.cell? ⟨w.heap.size, 1, none⟩ = some (.slice aa La ca) ∧ w'.cell? ⟨w.heap.size + 1, 0, none⟩ = some (.bool nb) ∧ w'.cell? ⟨w.heap.size + 1, 1, none⟩ = some (.slice ab Lb cb) ∧ w'.cell? ⟨w.heap.size + 1 + 1, 0, none⟩ = some (.bool nc) ∧ w'.cell? ⟨w.heap.size + 1 + 1, 1, none⟩ = some (.slice ac Lc cc))
    (first | exact G21.out.cells | exact G20.out.cells | exact G19.out.cells | exact G18.out.cells | exact G17.out.cells | exact G16.out.cells | exact G15.out.cells | exact G14.out.cells | exact G13.out.cells | exact G12.out.cells | exact G11.out.cells | exact G10.out.cells | exact G9.out.cells | exact G8.out.cells | exact G7.out.cells | exact G6.out.cells | exact G5.out.cells | exact G4.out.cells | exact G3.out.cells | exact G2.out.cells | exact G1.out.cells | exact G0.out.cells)
    (first
      | (go_at_call 9; have g := G20; clear g; refine (bcmp_ge r19_20.out r20_20.out (sq_sum x y)).mono ?_; rintro e x21 ⟨cc, rfl, hcc, k21⟩; have G21 := hide (G20.out.keep k21); have K21 := hide (bafter K20.out k21 (Nat.le_refl _)))
      | (go_at_call 15; have g := G19; clear g; refine (bof_calls _ 0 (by decide) (by decide)).mono ?_; rintro e x20 ⟨y20, rfl, q20, k20⟩; have G20 := hide (G19.out.keep k20); have K20 := hide (bafter K19.out k20 (Nat.le_refl _)); have r19_20 := hide (r19_19.out.below k20); have r20_20 := hide (q20.arg (bl_zero) (by decide)))
      | (go_at_call 11; have g := G18; clear g; refine (badd_calls r17_18.out r18_18.out).mono ?_; rintro e x19 ⟨y19, rfl, q19, k19⟩; have G19 := hide (G18.out.keep k19); have K19 := hide (bafter K18.out k19 (Nat.le_refl _)); have r19_19 := hide (q19.arg (bl_add (bl_mul hA hA) (bl_mul hB hB)) (by decide)))
      | (go_at_call 10; have g := G17; clear g; refine (bmul_calls B_17.out B_17.out).mono ?_; rintro e x18 ⟨y18, rfl, q18, k18⟩; have G18 := hide (G17.out.keep k18); have K18 := hide (bafter K17.out k18 (Nat.le_refl _)); have r17_18 := hide (r17_17.out.below k18); have r18_18 := hide (q18.arg (bl_mul hB hB) (by decide)))
      | (go_at_call 10; have g := G16; clear g; refine (bmul_calls A_16.out A_16.out).mono ?_; rintro e x17 ⟨y17, rfl, q17, k17⟩; have G17 := hide (G16.out.keep k17); have K17 := hide (bafter K16.out k17 (Nat.le_refl _)); have B_17 := hide (B_16.out.below k17); have r17_17 := hide (q17.arg (bl_mul hA hA) (by decide)))
      | (go_at_call 14; have g := G15; clear g; refine (sign_zero r15_15.out (by omega)).mono ?_; rintro e x16 ⟨rfl, k16⟩; have G16 := hide (G15.out.keep k16); have K16 := hide (bafter K15.out k16 (Nat.le_refl _)); have A_16 := hide (A_15.out.below k16); have B_16 := hide (B_15.out.below k16))
      | (go_at_call 12; have g := G14; clear g; refine (bsub_calls A_14.out A_14.out).mono ?_; rintro e x15 ⟨y15, rfl, q15, k15⟩; have G15 := hide (G14.out.keep k15); have K15 := hide (bafter K14.out k15 (Nat.le_refl _)); have A_15 := hide (A_14.out.below k15); have B_15 := hide (B_14.out.below k15); have r15_15 := hide (q15.arg (bl_sub hA hA) (by decide)))
      | (go_at_call 9; have g := G13; clear g; refine (bcmp_same r11_13.out r13_13.out (by rw [Int.neg_mul, Int.mul_comm])).mono ?_; rintro e x14 ⟨rfl, k14⟩; have G14 := hide (G13.out.keep k14); have K14 := hide (bafter K13.out k14 (Nat.le_refl _)); have A_14 := hide (A_13.out.below k14); have B_14 := hide (B_13.out.below k14))
      | (go_at_call 13; have g := G12; clear g; refine (neg_calls r12_12.out).mono ?_; rintro e x13 ⟨y13, rfl, q13, k13⟩; have G13 := hide (G12.out.keep k13); have K13 := hide (bafter K12.out k13 (Nat.le_refl _)); have A_13 := hide (A_12.out.below k13); have B_13 := hide (B_12.out.below k13); have r11_13 := hide (r11_12.out.below k13); have r13_13 := hide (q13.arg (bl_neg (bl_mul hB hA)) (by decide)))
      | (go_at_call 10; have g := G11; clear g; refine (bmul_calls B_11.out A_11.out).mono ?_; rintro e x12 ⟨y12, rfl, q12, k12⟩; have G12 := hide (G11.out.keep k12); have K12 := hide (bafter K11.out k12 (Nat.le_refl _)); have A_12 := hide (A_11.out.below k12); have B_12 := hide (B_11.out.below k12); have r11_12 := hide (r11_11.out.below k12); have r12_12 := hide (q12.arg (bl_mul hB hA) (by decide)))
      | (go_at_call 10; have g := G10; clear g; refine (bmul_calls r10_10.out B_10.out).mono ?_; rintro e x11 ⟨y11, rfl, q11, k11⟩; have G11 := hide (G10.out.keep k11); have K11 := hide (bafter K10.out k11 (Nat.le_refl _)); have A_11 := hide (A_10.out.below k11); have B_11 := hide (B_10.out.below k11); have r11_11 := hide (q11.arg (bl_mul (bl_neg hA) hB) (by decide)))
      | (go_at_call 13; have g := G9; clear g; refine (neg_calls A_9.out).mono ?_; rintro e x10 ⟨y10, rfl, q10, k10⟩; have G10 := hide (G9.out.keep k10); have K10 := hide (bafter K9.out k10 (Nat.le_refl _)); have A_10 := hide (A_9.out.below k10); have B_10 := hide (B_9.out.below k10); have r10_10 := hide (q10.arg (bl_neg hA) (by decide)))
      | (go_at_call 9; have g := G8; clear g; refine (bcmp_same r8_8.out A_8.out (by omega)).mono ?_; rintro e x9 ⟨rfl, k9⟩; have G9 := hide (G8.out.keep k9); have K9 := hide (bafter K8.out k9 (Nat.le_refl _)); have A_9 := hide (A_8.out.below k9); have B_9 := hide (B_8.out.below k9))
      | (go_at_call 12; have g := G7; clear g; refine (bsub_calls r7_7.out B_7.out).mono ?_; rintro e x8 ⟨y8, rfl, q8, k8⟩; have G8 := hide (G7.out.keep k8); have K8 := hide (bafter K7.out k8 (Nat.le_refl _)); have A_8 := hide (A_7.out.below k8); have B_8 := hide (B_7.out.below k8); have r8_8 := hide (q8.arg (bl_sub (bl_add hA hB) (bl_up hB)) (by decide)))
      | (go_at_call 11; have g := G6; clear g; refine (badd_calls A_6.out B_6.out).mono ?_; rintro e x7 ⟨y7, rfl, q7, k7⟩; have G7 := hide (G6.out.keep k7); have K7 := hide (bafter K6.out k7 (Nat.le_refl _)); have A_7 := hide (A_6.out.below k7); have B_7 := hide (B_6.out.below k7); have r7_7 := hide (q7.arg (bl_add hA hB) (by decide)))
      | (go_at_call 9; have g := G5; clear g; refine (bcmp_same r2_5.out r5_5.out (Int.mul_add x y z)).mono ?_; rintro e x6 ⟨rfl, k6⟩; have G6 := hide (G5.out.keep k6); have K6 := hide (bafter K5.out k6 (Nat.le_refl _)); have A_6 := hide (A_5.out.below k6); have B_6 := hide (B_5.out.below k6))
      | (go_at_call 11; have g := G4; clear g; refine (badd_calls r3_4.out r4_4.out).mono ?_; rintro e x5 ⟨y5, rfl, q5, k5⟩; have G5 := hide (G4.out.keep k5); have K5 := hide (bafter K4.out k5 (Nat.le_refl _)); have A_5 := hide (A_4.out.below k5); have B_5 := hide (B_4.out.below k5); have r2_5 := hide (r2_4.out.below k5); have r5_5 := hide (q5.arg (bl_add (bl_mul hA hB) (bl_mul hA hC)) (by decide)))
      | (go_at_call 10; have g := G3; clear g; refine (bmul_calls A_3.out C_3.out).mono ?_; rintro e x4 ⟨y4, rfl, q4, k4⟩; have G4 := hide (G3.out.keep k4); have K4 := hide (bafter K3.out k4 (Nat.le_refl _)); have A_4 := hide (A_3.out.below k4); have B_4 := hide (B_3.out.below k4); have r2_4 := hide (r2_3.out.below k4); have r3_4 := hide (r3_3.out.below k4); have r4_4 := hide (q4.arg (bl_mul hA hC) (by decide)))
      | (go_at_call 10; have g := G2; clear g; refine (bmul_calls A_2.out B_2.out).mono ?_; rintro e x3 ⟨y3, rfl, q3, k3⟩; have G3 := hide (G2.out.keep k3); have K3 := hide (bafter K2.out k3 (Nat.le_refl _)); have A_3 := hide (A_2.out.below k3); have B_3 := hide (B_2.out.below k3); have C_3 := hide (C_2.out.below k3); have r2_3 := hide (r2_2.out.below k3); have r3_3 := hide (q3.arg (bl_mul hA hB) (by decide)))
      | (go_at_call 10; have g := G1; clear g; refine (bmul_calls A_1.out r1_1.out).mono ?_; rintro e x2 ⟨y2, rfl, q2, k2⟩; have G2 := hide (G1.out.keep k2); have K2 := hide (bafter K1.out k2 (Nat.le_refl _)); have A_2 := hide (A_1.out.below k2); have B_2 := hide (B_1.out.below k2); have C_2 := hide (C_1.out.below k2); have r2_2 := hide (q2.arg (bl_mul hA (bl_add hB hC)) (by decide)))
      | (go_at_call 11; have g := G0; clear g; refine (badd_calls B_0.out C_0.out).mono ?_; rintro e x1 ⟨y1, rfl, q1, k1⟩; have G1 := hide (G0.out.keep k1); have K1 := hide (bafter K0.out k1 (Nat.le_refl _)); have A_1 := hide (A_0.out.below k1); have B_1 := hide (B_0.out.below k1); have C_1 := hide (C_0.out.below k1); have r1_1 := hide (q1.arg (bl_add hB hC) (by decide))))
  go_wp2
  go_ret
  exact ⟨rfl, K21.out⟩

end Go.Proofs.YtdhdmpolbamaoabDoor
