/- The reference's Subst, Sub. -/
import Derived.Test.YtbjolmgobeagoaaGreatDoorLnRScale
import Derived.Test.YtbjolmgobeagoaaGreatDoorLnRWithout
namespace Go.Proofs.YtbjolmgobeagoaaGreatDoor
set_option linter.unusedVariables false
set_option linter.unusedSimpArgs false
set_option maxRecDepth 100000
open Go Go.RowKit Go.Shelf Go.Lib

theorem nf_bndT {K : Nat} {l m : Ps} (h : NF l) (hc : ∀ u, cf u l = cf u m) (hb : BndT K m) : BndT (K + m.length) l := fun p hp => by
  rw [← nf_mem h hp, hc]
  exact cf_boundT hb p.1
theorem bndT_up {K J : Nat} {l : Ps} (h : BndT K l) (hk : K ≤ J) : BndT J l := fun p hp => ten_up (h p hp) hk
theorem len_ps {M : List Pt} {l : Ps} (h : NF (ps M)) (hc : ∀ u, cf u (ps M) = cf u l) : M.length ≤ l.length := by
  have := nf_length h hc
  rw [ps_length] at this
  exact this
theorem ten_mul {x y : Int} {j k : Nat} (h : x.natAbs < 10 ^ j) (g : y.natAbs < 10 ^ k) : (x * y).natAbs < 10 ^ (j + k) := by
  rw [Int.natAbs_mul, Nat.pow_add]
  exact Nat.mul_lt_mul'' h g

set_option maxHeartbeats 4000000 in
theorem rsubstT_calls {K : Nat} {w : World} {v u : Value} {c d : Int} {A B : List Pt} (h : RTerm w v c A) (x : Int) (g : RTerm w u d B) (hc : c.natAbs < 10 ^ K) (hd : d.natAbs < 10 ^ K) (ha : BndT K (ps A)) (hb : BndT K (ps B)) (la : A.length ≤ 40) (lb : B.length ≤ 40) (hK : K ≤ 160) :
    Calls Tryz.prog 37 #[v, .int .i64 x, u] w fun e w' => RTermE w (c + d * cf x (ps A)) (fun l => NF l ∧ ∀ y, cf y l = (if y = x then 0 else cf y (ps A)) + cf y (ps B) * cf x (ps A)) e w' := by
  obtain ⟨cn, ca, cL, cc, pa, pl, pc, rfl⟩ := h.form
  obtain ⟨dn, da, dL, dc, qa, ql, qc, rfl⟩ := g.form
  have tb := ((Thr.new w (.bool cn) (.slice ca cL cc) (.slice pa pl pc) 35).alloc (.cells #[.bool dn, .slice da dL dc, .slice qa ql qc] 35)).alloc (.cells #[.bool false, .slice none 0 0, .slice none 0 0] 35)
  have tc := (Thr.new1 w (.cells #[.bool cn, .slice ca cL cc, .slice pa pl pc] 35) (.bool dn) (.slice da dL dc) (.slice qa ql qc) 35).alloc (.cells #[.bool false, .slice none 0 0, .slice none 0 0] 35)
  have tz := Thr.new2 w (.cells #[.bool cn, .slice ca cL cc, .slice pa pl pc] 35) (.cells #[.bool dn, .slice da dL dc, .slice qa ql qc] 35) (.bool false) (.slice none 0 0) (.slice none 0 0) 35
  have hba := bel3 w (.cells #[.bool cn, .slice ca cL cc, .slice pa pl pc] 35) (.cells #[.bool dn, .slice da dL dc, .slice qa ql qc] 35) (.cells #[.bool false, .slice none 0 0, .slice none 0 0] 35)
  generalize hwA : ((w.alloc (.cells #[.bool cn, .slice ca cL cc, .slice pa pl pc] 35)).alloc (.cells #[.bool dn, .slice da dL dc, .slice qa ql qc] 35)).alloc (.cells #[.bool false, .slice none 0 0, .slice none 0 0] 35) = wA at *
  have HWA := hide hwA
  have TB := hide tb
  have TC := hide tc
  have TZ := hide tz
  have HBA := hide hba
  have HT := hide h
  have HG := hide g
  have HCC := hide hc
  have HDD := hide hd
  have HAB := hide ha
  have HBB := hide hb
  have HS : Hid (∀ X : World, Below wA.heap.size wA X → X.cell? ⟨w.heap.size, 0, none⟩ = some (.bool cn) ∧ X.cell? ⟨w.heap.size, 1, none⟩ = some (.slice ca cL cc) ∧ X.cell? ⟨w.heap.size, 2, none⟩ = some (.slice pa pl pc) ∧ X.cell? ⟨w.heap.size + 1, 0, none⟩ = some (.bool dn) ∧ X.cell? ⟨w.heap.size + 1, 1, none⟩ = some (.slice da dL dc) ∧ X.cell? ⟨w.heap.size + 1, 2, none⟩ = some (.slice qa ql qc)) := fun X hX => ⟨(TB.out.keep hX).c0, (TB.out.keep hX).c1, (TB.out.keep hX).c2, (TC.out.keep hX).c0, (TC.out.keep hX).c1, (TC.out.keep hX).c2⟩
  clear hwA tb tc tz hba h g hc hd ha hb
  go_enter Tryz.func37, Tryz.ntmps37
  go_upto_region 1 with fail
  rw [HWA.out]
  refine wp_region_held_drew (S := fun X : World => X.cell? ⟨w.heap.size, 0, none⟩ = some (.bool cn) ∧ X.cell? ⟨w.heap.size, 1, none⟩ = some (.slice ca cL cc) ∧ X.cell? ⟨w.heap.size, 2, none⟩ = some (.slice pa pl pc) ∧ X.cell? ⟨w.heap.size + 1, 0, none⟩ = some (.bool dn) ∧ X.cell? ⟨w.heap.size + 1, 1, none⟩ = some (.slice da dL dc) ∧ X.cell? ⟨w.heap.size + 1, 2, none⟩ = some (.slice qa ql qc)) (by kernel_rfl) ?_ (fun hHeld => ?_)
  · exact HS.out _ (by (first | exact (Below.refl _ _).drew | exact Below.refl _ _))
  refine takeD (i := 0) (v := ?v1) (some 7) rfl (by kernel_rfl) (by kernel_rfl) (by kernel_rfl) (fun _ _ _ h => h) (Or.inl ⟨by rfl, ?hy1⟩) (by assumption) (by rfl) ?rest1
  case hy1 => first | (intro w hSw; (try dsimp only at hSw); obtain ⟨q0, q1, q2, q3, q4, q5⟩ := hSw; go_simp; done) | (intro w hSw; (try dsimp only at hSw); obtain ⟨q0, q1, q2, q3, q4, q5⟩ := hSw; go_simp; with_reducible rfl)
  try simp only [Act.put, List.setIfInBounds_toArray, List.set_cons_zero, List.set_cons_succ]
  refine takeD (i := 1) (v := ?v2) (some 8) rfl (by kernel_rfl) (by kernel_rfl) (by kernel_rfl) (fun _ _ _ h => h) (Or.inl ⟨by rfl, ?hy2⟩) (by assumption) (by rfl) ?rest2
  case hy2 => first | (intro w hSw; (try dsimp only at hSw); obtain ⟨q0, q1, q2, q3, q4, q5⟩ := hSw; go_simp; done) | (intro w hSw; (try dsimp only at hSw); obtain ⟨q0, q1, q2, q3, q4, q5⟩ := hSw; go_simp; with_reducible rfl)
  try simp only [Act.put, List.setIfInBounds_toArray, List.set_cons_zero, List.set_cons_succ]
  refine takeD (i := 3) (v := ?v3) (some 10) rfl (by kernel_rfl) (by kernel_rfl) (by kernel_rfl) (fun _ _ _ h => h) (Or.inl ⟨by rfl, ?hy3⟩) (by assumption) (by rfl) ?rest3
  case hy3 => first | (intro w hSw; (try dsimp only at hSw); obtain ⟨q0, q1, q2, q3, q4, q5⟩ := hSw; go_simp; done) | (intro w hSw; (try dsimp only at hSw); obtain ⟨q0, q1, q2, q3, q4, q5⟩ := hSw; go_simp; with_reducible rfl)
  try simp only [Act.put, List.setIfInBounds_toArray, List.set_cons_zero, List.set_cons_succ]
  refine takeD (i := 4) (v := ?v4) (some 11) rfl (by kernel_rfl) (by kernel_rfl) (by kernel_rfl) (fun _ _ _ h => h) (Or.inl ⟨by rfl, ?hy4⟩) (by assumption) (by rfl) ?rest4
  case hy4 => first | (intro w hSw; (try dsimp only at hSw); obtain ⟨q0, q1, q2, q3, q4, q5⟩ := hSw; go_simp; done) | (intro w hSw; (try dsimp only at hSw); obtain ⟨q0, q1, q2, q3, q4, q5⟩ := hSw; go_simp; with_reducible rfl)
  try simp only [Act.put, List.setIfInBounds_toArray, List.set_cons_zero, List.set_cons_succ]
  refine takeD (i := 5) (v := ?v5) (some 12) rfl (by kernel_rfl) (by kernel_rfl) (by kernel_rfl) (fun _ _ _ h => h) (Or.inl ⟨by rfl, ?hy5⟩) (by assumption) (by rfl) ?rest5
  case hy5 => first | (intro w hSw; (try dsimp only at hSw); obtain ⟨q0, q1, q2, q3, q4, q5⟩ := hSw; go_simp; done) | (intro w hSw; (try dsimp only at hSw); obtain ⟨q0, q1, q2, q3, q4, q5⟩ := hSw; go_simp; with_reducible rfl)
  try simp only [Act.put, List.setIfInBounds_toArray, List.set_cons_zero, List.set_cons_succ]
  refine wpAnyH_ready (rs := [2]) (by kernel_rfl) (by simp) ?_
  refine AllReadyH.cons rfl (fun K hK => ?_) AllReadyH.nil
  go_simp
  refine (rwithoutT_calls (HT.out.below (bafter HBA.out (by (first | exact (Below.refl _ _).drew | exact Below.refl _ _)) (Nat.le_refl _))) x HCC.out HAB.out (by omega) (by omega)).mono ?_
  rintro e w1 ⟨v1, M1, rfl, ht1, ⟨hn1, hc1⟩, hb1⟩
  obtain ⟨en, ea, eL, ec, sa, sl, sc, rfl⟩ := ht1.form
  have HB1 : Hid (Below wA.heap.size wA w1) := bafter (by (first | exact (Below.refl _ _).drew | exact Below.refl _ _)) hb1 (Nat.le_refl _)
  have HT1 := hide ht1
  have HN1 := hide hn1
  have HC1 := hide hc1
  have HBS1 := hide hb1
  clear ht1 hn1 hc1 hb1 hHeld
  go_wp2_with fail
  refine hK.out _ _ (HS.out _ HB1.out) (fun hHeld => ?_)
  clear hK K
  try simp only [Act.put, List.setIfInBounds_toArray, List.set_cons_zero, List.set_cons_succ]
  refine wpAnyH_ready (rs := [6]) (by kernel_rfl) (by simp) ?_
  refine AllReadyH.cons rfl (fun K hK => ?_) AllReadyH.nil
  go_simp
  refine (rcoef_calls (HT.out.below (bafter HBA.out HB1.out (Nat.le_refl _))) x HAB.out (by omega) (by omega)).mono ?_
  rintro e w2 ⟨v2, rfl, hr2, hb2⟩
  obtain ⟨nb, na, nL, nc, rfl⟩ := hr2.form
  have HB2 := hide (bafter HB1.out hb2 (Nat.le_refl _))
  have HBS2 := hide hb2
  have HR2 := hide hr2
  clear hr2 hb2 hHeld
  go_wp2_with fail
  refine hK.out _ _ (HS.out _ HB2.out) (fun hHeld => ?_)
  clear hK K
  try simp only [Act.put, List.setIfInBounds_toArray, List.set_cons_zero, List.set_cons_succ]
  obtain ⟨K2, hK2⟩ : ∃ K2, K2 = K + 40 := ⟨_, rfl⟩
  have hcb : (cf x (ps A)).natAbs < 10 ^ K2 := ten_up (cf_boundT HAB.out x) (by rw [ps_length]; omega)
  have HCB := hide hcb
  clear hcb
  refine wpAnyH_ready (rs := [7]) (by kernel_rfl) (by simp) ?_
  refine AllReadyH.cons rfl (fun K hK => ?_) AllReadyH.nil
  go_simp
  refine (rscaleT_calls (K := K2) (HG.out.below (bafter HBA.out HB2.out (Nat.le_refl _))) HR2.out (ten_up HDD.out (by omega)) HCB.out (bndT_up HBB.out (by omega)) (by omega) (by omega)).mono ?_
  rintro e w3 ⟨v3, M3, rfl, ht3, ⟨hn3, hc3⟩, hb3⟩
  obtain ⟨fn, fa, fL, fc, ta, tl, tc, rfl⟩ := ht3.form
  have HB3 : Hid (Below wA.heap.size wA w3) := bafter HB2.out hb3 (Nat.le_refl _)
  have HT3 := hide ht3
  have HN3 := hide hn3
  have HC3 := hide hc3
  have HBS3 := hide hb3
  clear ht3 hn3 hc3 hb3 hHeld
  go_wp2_with fail
  refine hK.out _ _ (HS.out _ HB3.out) (fun hHeld => ?_)
  clear hK K
  try simp only [Act.put, List.setIfInBounds_toArray, List.set_cons_zero, List.set_cons_succ]
  have h1c : ∀ y, cf y (ps M1) = cf y (woL x (ps A)) := fun y => by rw [HC1.out, woL, cf_without]
  have h1l : (woL x (ps A)).length ≤ A.length := by
    have h9 := List.length_filter_le (fun p : Int × Int => decide (p.1 ≠ x)) (ps A)
    rw [ps_length] at h9
    exact h9
  obtain ⟨K3, hK3⟩ : ∃ K3, K3 = K + K2 + 40 := ⟨_, rfl⟩
  have h1b : BndT K2 (ps M1) := bndT_up (nf_bndT HN1.out h1c (fun p hp => HAB.out p (List.mem_filter.1 hp).1)) (by omega)
  have h3c : ∀ y, cf y (ps M3) = cf y (times (cf x (ps A)) (ps B)) := fun y => by rw [HC3.out, times, cf_scale]
  have h3b : BndT (K3) (ps M3) := bndT_up (nf_bndT HN3.out h3c (bndT_times HBB.out HCB.out)) (by rw [times_length, ps_length]; omega)
  have h1n := len_ps HN1.out h1c
  have h3n := len_ps HN3.out h3c
  rw [times_length, ps_length] at h3n
  refine wpAnyH_ready (rs := [8]) (by kernel_rfl) (by simp) ?_
  refine AllReadyH.cons rfl (fun K hK => ?_) AllReadyH.nil
  go_simp
  refine (raddT_calls (K := K3) ((HT1.out.below HBS2.out).below HBS3.out) HT3.out (ten_up HCC.out (by omega)) (ten_up (ten_mul HDD.out HCB.out) (by omega)) (bndT_up h1b (by omega)) h3b (by omega) (by omega) (by omega)).mono ?_
  rintro e w4 ⟨v4, M4, rfl, ht4, ⟨hn4, hc4⟩, hb4⟩
  obtain ⟨gn, ga, gL, gc, ua, ul, uc, rfl⟩ := ht4.form
  have HB4 : Hid (Below wA.heap.size wA w4) := bafter HB3.out hb4 (Nat.le_refl _)
  have HT4 := hide ht4
  have HN4 := hide hn4
  have HC4 := hide hc4
  have HBS4 := hide hb4
  clear ht4 hn4 hc4 hb4 hHeld
  go_wp2_with fail
  clear h1c h1l h1b h3c h3b h1n h3n
  refine hK.out _ _ (HS.out _ HB4.out) (fun hHeld => ?_)
  clear hK K
  try simp only [Act.put, List.setIfInBounds_toArray, List.set_cons_zero, List.set_cons_succ]
  have HTR := HT4
  have TZ4 := hide (TZ.out.keep HB4.out)
  obtain ⟨d0, d1, d2, f0, f1, f2⟩ := TZ4.out.every
  have HS5 : Hid (let X := put3 w4 (w.heap.size + 2) (.bool gn) (.slice ga gL gc) (.slice ua ul uc); X.cell? ⟨w.heap.size, 0, none⟩ = some (.bool cn) ∧ X.cell? ⟨w.heap.size, 1, none⟩ = some (.slice ca cL cc) ∧ X.cell? ⟨w.heap.size, 2, none⟩ = some (.slice pa pl pc) ∧ X.cell? ⟨w.heap.size + 1, 0, none⟩ = some (.bool dn) ∧ X.cell? ⟨w.heap.size + 1, 1, none⟩ = some (.slice da dL dc) ∧ X.cell? ⟨w.heap.size + 1, 2, none⟩ = some (.slice qa ql qc)) := by
    show _ ∧ _ ∧ _ ∧ _ ∧ _ ∧ _
    rw [put3_cells (by omega), put3_cells (by omega), put3_cells (by omega), put3_cells (by omega), put3_cells (by omega), put3_cells (by omega)]
    exact HS.out _ HB4.out
  refine wpAnyH_ready (rs := [9]) (by kernel_rfl) (by simp) ?_
  refine AllReadyH.cons rfl (fun K hK => ?_) AllReadyH.nil
  go_simp
  refine hK.out _ _ (HS5.out) (fun hHeld => ?_)
  clear hK K hHeld
  try simp only [Act.put, List.setIfInBounds_toArray, List.set_cons_zero, List.set_cons_succ]
  refine wpAnyH_done (by kernel_rfl) ?_ _
  clear d0 d1 d2 f0 f1 f2
  go_wp2
  refine bodyPost_ret (results_rterm rfl rfl (TZ4.out.put _ _ _)) rfl ?_
  exact ⟨_, M4, rfl, HTR.out.but (TZ4.out.but _ _ _), ⟨HN4.out, fun y => by rw [HC4.out, HC1.out, HC3.out]⟩, put3_below (bafter HBA.out HB4.out (Nat.le_refl _)) (by omega) _ _ _⟩

set_option maxHeartbeats 4000000 in
theorem rsubT_calls {K : Nat} {w : World} {v u : Value} {c d : Int} {A B : List Pt} (h : RTerm w v c A) (g : RTerm w u d B) (hc : c.natAbs < 10 ^ K) (hd : d.natAbs < 10 ^ K) (ha : BndT K (ps A)) (hb : BndT K (ps B)) (la : A.length ≤ 40) (lb : B.length ≤ 40) (hK : K ≤ 160) (hK0 : 0 < K) :
    Calls Tryz.prog 30 #[v, u] w fun e w' => RTermE w (c - d) (fun l => NF l ∧ ∀ y, cf y l = cf y (ps A) - cf y (ps B)) e w' := by
  obtain ⟨cn, ca, cL, cc, pa, pl, pc, rfl⟩ := h.form
  obtain ⟨dn, da, dL, dc, qa, ql, qc, rfl⟩ := g.form
  have tb := ((Thr.new w (.bool cn) (.slice ca cL cc) (.slice pa pl pc) 35).alloc (.cells #[.bool dn, .slice da dL dc, .slice qa ql qc] 35)).alloc (.cells #[.bool false, .slice none 0 0, .slice none 0 0] 35)
  have tc := (Thr.new1 w (.cells #[.bool cn, .slice ca cL cc, .slice pa pl pc] 35) (.bool dn) (.slice da dL dc) (.slice qa ql qc) 35).alloc (.cells #[.bool false, .slice none 0 0, .slice none 0 0] 35)
  have tz := Thr.new2 w (.cells #[.bool cn, .slice ca cL cc, .slice pa pl pc] 35) (.cells #[.bool dn, .slice da dL dc, .slice qa ql qc] 35) (.bool false) (.slice none 0 0) (.slice none 0 0) 35
  have hba := bel3 w (.cells #[.bool cn, .slice ca cL cc, .slice pa pl pc] 35) (.cells #[.bool dn, .slice da dL dc, .slice qa ql qc] 35) (.cells #[.bool false, .slice none 0 0, .slice none 0 0] 35)
  generalize hwA : ((w.alloc (.cells #[.bool cn, .slice ca cL cc, .slice pa pl pc] 35)).alloc (.cells #[.bool dn, .slice da dL dc, .slice qa ql qc] 35)).alloc (.cells #[.bool false, .slice none 0 0, .slice none 0 0] 35) = wA at *
  have HWA := hide hwA
  have TB := hide tb
  have TC := hide tc
  have TZ := hide tz
  have HBA := hide hba
  have HT := hide h
  have HG := hide g
  have HCC := hide hc
  have HDD := hide hd
  have HAB := hide ha
  have HBB := hide hb
  have HS : Hid (∀ X : World, Below wA.heap.size wA X → X.cell? ⟨w.heap.size, 0, none⟩ = some (.bool cn) ∧ X.cell? ⟨w.heap.size, 1, none⟩ = some (.slice ca cL cc) ∧ X.cell? ⟨w.heap.size, 2, none⟩ = some (.slice pa pl pc) ∧ X.cell? ⟨w.heap.size + 1, 0, none⟩ = some (.bool dn) ∧ X.cell? ⟨w.heap.size + 1, 1, none⟩ = some (.slice da dL dc) ∧ X.cell? ⟨w.heap.size + 1, 2, none⟩ = some (.slice qa ql qc)) := fun X hX => ⟨(TB.out.keep hX).c0, (TB.out.keep hX).c1, (TB.out.keep hX).c2, (TC.out.keep hX).c0, (TC.out.keep hX).c1, (TC.out.keep hX).c2⟩
  clear hwA tb tc tz hba h g hc hd ha hb
  go_enter Tryz.func30, Tryz.ntmps30
  go_upto_region 1 with fail
  rw [HWA.out]
  refine wp_region_held_drew (S := fun X : World => X.cell? ⟨w.heap.size, 0, none⟩ = some (.bool cn) ∧ X.cell? ⟨w.heap.size, 1, none⟩ = some (.slice ca cL cc) ∧ X.cell? ⟨w.heap.size, 2, none⟩ = some (.slice pa pl pc) ∧ X.cell? ⟨w.heap.size + 1, 0, none⟩ = some (.bool dn) ∧ X.cell? ⟨w.heap.size + 1, 1, none⟩ = some (.slice da dL dc) ∧ X.cell? ⟨w.heap.size + 1, 2, none⟩ = some (.slice qa ql qc)) (by kernel_rfl) ?_ (fun hHeld => ?_)
  · exact HS.out _ (by (first | exact (Below.refl _ _).drew | exact Below.refl _ _))
  refine takeD (i := 0) (v := ?v1) (some 5) rfl (by kernel_rfl) (by kernel_rfl) (by kernel_rfl) (fun _ _ _ h => h) (Or.inl ⟨by rfl, ?hy1⟩) (by assumption) (by rfl) ?rest1
  case hy1 => first | (intro w hSw; (try dsimp only at hSw); obtain ⟨q0, q1, q2, q3, q4, q5⟩ := hSw; go_simp; done) | (intro w hSw; (try dsimp only at hSw); obtain ⟨q0, q1, q2, q3, q4, q5⟩ := hSw; go_simp; with_reducible rfl)
  try simp only [Act.put, List.setIfInBounds_toArray, List.set_cons_zero, List.set_cons_succ]
  refine takeD (i := 1) (v := ?v2) (some 6) rfl (by kernel_rfl) (by kernel_rfl) (by kernel_rfl) (fun _ _ _ h => h) (Or.inl ⟨by rfl, ?hy2⟩) (by assumption) (by rfl) ?rest2
  case hy2 => first | (intro w hSw; (try dsimp only at hSw); obtain ⟨q0, q1, q2, q3, q4, q5⟩ := hSw; go_simp; done) | (intro w hSw; (try dsimp only at hSw); obtain ⟨q0, q1, q2, q3, q4, q5⟩ := hSw; go_simp; with_reducible rfl)
  try simp only [Act.put, List.setIfInBounds_toArray, List.set_cons_zero, List.set_cons_succ]
  refine wpAnyH_ready (rs := [2]) (by kernel_rfl) (by simp) ?_
  refine AllReadyH.cons rfl (fun K hK => ?_) AllReadyH.nil
  go_simp
  refine (rof_calls _ (-1) (by omega) (by omega)).mono ?_
  rintro e w1 ⟨v1, rfl, hr1, hb1⟩
  obtain ⟨nb, na, nL, nc, rfl⟩ := hr1.form
  have HB1 : Hid (Below wA.heap.size wA w1) := bafter (by (first | exact (Below.refl _ _).drew | exact Below.refl _ _)) hb1 (Nat.le_refl _)
  have HR1 := hide hr1
  clear hr1 hb1 hHeld
  go_wp2_with fail
  refine hK.out _ _ (HS.out _ HB1.out) (fun hHeld => ?_)
  clear hK K
  try simp only [Act.put, List.setIfInBounds_toArray, List.set_cons_zero, List.set_cons_succ]
  have h1 : (-1 : Int).natAbs < 10 ^ 1 := by decide
  have H1 := hide h1
  clear h1
  refine wpAnyH_ready (rs := [3]) (by kernel_rfl) (by simp) ?_
  refine AllReadyH.cons rfl (fun K hK => ?_) AllReadyH.nil
  go_simp
  refine (rscaleT_calls (HG.out.below (bafter HBA.out HB1.out (Nat.le_refl _))) HR1.out HDD.out (ten_up H1.out (by omega)) HBB.out (by omega) (by omega)).mono ?_
  rintro e w2 ⟨v2, M2, rfl, ht2, ⟨hn2, hc2⟩, hb2⟩
  obtain ⟨fn, fa, fL, fc, ta, tl, tc, rfl⟩ := ht2.form
  have HB2 : Hid (Below wA.heap.size wA w2) := bafter HB1.out hb2 (Nat.le_refl _)
  have HT2 := hide ht2
  have HN2 := hide hn2
  have HC2 := hide hc2
  have HBS2 := hide hb2
  clear ht2 hn2 hc2 hb2 hHeld
  go_wp2_with fail
  refine hK.out _ _ (HS.out _ HB2.out) (fun hHeld => ?_)
  clear hK K
  try simp only [Act.put, List.setIfInBounds_toArray, List.set_cons_zero, List.set_cons_succ]
  have h3c : ∀ y, cf y (ps M2) = cf y (times (-1) (ps B)) := fun y => by rw [HC2.out, times, cf_scale]
  obtain ⟨K3, hK3⟩ : ∃ K3, K3 = K + 1 + 40 := ⟨_, rfl⟩
  have h3b : BndT K3 (ps M2) := bndT_up (nf_bndT HN2.out h3c (bndT_times HBB.out H1.out)) (by rw [times_length, ps_length]; omega)
  have h3n := len_ps HN2.out h3c
  rw [times_length, ps_length] at h3n
  refine wpAnyH_ready (rs := [4]) (by kernel_rfl) (by simp) ?_
  refine AllReadyH.cons rfl (fun K hK => ?_) AllReadyH.nil
  go_simp
  refine (raddT_calls (K := K3) (HT.out.below (bafter HBA.out HB2.out (Nat.le_refl _))) HT2.out (ten_up HCC.out (by omega)) (ten_up (ten_mul HDD.out H1.out) (by omega)) (bndT_up HAB.out (by omega)) h3b (by omega) (by omega) (by omega)).mono ?_
  rintro e w4 ⟨v4, M4, rfl, ht4, ⟨hn4, hc4⟩, hb4⟩
  obtain ⟨gn, ga, gL, gc, ua, ul, uc, rfl⟩ := ht4.form
  have HB4 : Hid (Below wA.heap.size wA w4) := bafter HB2.out hb4 (Nat.le_refl _)
  have HT4 := hide ht4
  have HN4 := hide hn4
  have HC4 := hide hc4
  have HBS4 := hide hb4
  clear ht4 hn4 hc4 hb4 hHeld
  go_wp2_with fail
  clear h3c h3b h3n
  refine hK.out _ _ (HS.out _ HB4.out) (fun hHeld => ?_)
  clear hK K
  try simp only [Act.put, List.setIfInBounds_toArray, List.set_cons_zero, List.set_cons_succ]
  have HTR : Hid (RTerm w4 (.agg #[.bool gn, .slice ga gL gc, .slice ua ul uc]) (c - d) M4) := by
    have h9 := HT4.out
    rw [show c + d * -1 = c - d by omega] at h9
    exact h9
  have TZ4 := hide (TZ.out.keep HB4.out)
  obtain ⟨d0, d1, d2, f0, f1, f2⟩ := TZ4.out.every
  have HS5 : Hid (let X := put3 w4 (w.heap.size + 2) (.bool gn) (.slice ga gL gc) (.slice ua ul uc); X.cell? ⟨w.heap.size, 0, none⟩ = some (.bool cn) ∧ X.cell? ⟨w.heap.size, 1, none⟩ = some (.slice ca cL cc) ∧ X.cell? ⟨w.heap.size, 2, none⟩ = some (.slice pa pl pc) ∧ X.cell? ⟨w.heap.size + 1, 0, none⟩ = some (.bool dn) ∧ X.cell? ⟨w.heap.size + 1, 1, none⟩ = some (.slice da dL dc) ∧ X.cell? ⟨w.heap.size + 1, 2, none⟩ = some (.slice qa ql qc)) := by
    show _ ∧ _ ∧ _ ∧ _ ∧ _ ∧ _
    rw [put3_cells (by omega), put3_cells (by omega), put3_cells (by omega), put3_cells (by omega), put3_cells (by omega), put3_cells (by omega)]
    exact HS.out _ HB4.out
  refine wpAnyH_ready (rs := [5]) (by kernel_rfl) (by simp) ?_
  refine AllReadyH.cons rfl (fun K hK => ?_) AllReadyH.nil
  go_simp
  refine hK.out _ _ (HS5.out) (fun hHeld => ?_)
  clear hK K hHeld
  try simp only [Act.put, List.setIfInBounds_toArray, List.set_cons_zero, List.set_cons_succ]
  refine wpAnyH_done (by kernel_rfl) ?_ _
  clear d0 d1 d2 f0 f1 f2
  go_wp2
  refine bodyPost_ret (results_rterm rfl rfl (TZ4.out.put _ _ _)) rfl ?_
  exact ⟨_, M4, rfl, HTR.out.but (TZ4.out.but _ _ _), ⟨HN4.out, fun y => by rw [HC4.out, HC2.out]; omega⟩, put3_below (bafter HBA.out HB4.out (Nat.le_refl _)) (by omega) _ _ _⟩

end Go.Proofs.YtbjolmgobeagoaaGreatDoor
