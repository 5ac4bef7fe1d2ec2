/- A sum in the place of a variable: Subst. -/
import Derived.Test.YtbjolmgobeagoaaGreatDoorLnCoef
namespace Go.Proofs.YtbjolmgobeagoaaGreatDoor
set_option linter.unusedVariables false
set_option linter.unusedSimpArgs false
set_option maxRecDepth 100000
open Go Go.RowKit Go.Shelf Go.Lib

set_option maxHeartbeats 4000000 in
theorem subst_calls {k : Nat} {w : World} {v u : Value} {c d : Int} {A B : List Pt} (h : TermA k w v c A) (x : Int) (g : TermA k w u d B) (hk : k ≤ 100000) :
    Calls Tryz.prog 36 #[v, .int .i64 x, u] w fun e w' => TermE w (c + d * cf x (ps A)) (fun y => (if y = x then 0 else cf y (ps A)) + cf y (ps B) * cf x (ps A)) e w' := by
  obtain ⟨cn, ca, cL, cc, pa, pl, pc, rfl⟩ := h.form
  obtain ⟨dn, da, dL, dc, qa, ql, qc, rfl⟩ := g.form
  have tb := ((Thr.new w (.bool cn) (.slice ca cL cc) (.slice pa pl pc) 27).alloc (.cells #[.bool dn, .slice da dL dc, .slice qa ql qc] 27)).alloc (.cells #[.bool false, .slice none 0 0, .slice none 0 0] 27)
  have tc := (Thr.new1 w (.cells #[.bool cn, .slice ca cL cc, .slice pa pl pc] 27) (.bool dn) (.slice da dL dc) (.slice qa ql qc) 27).alloc (.cells #[.bool false, .slice none 0 0, .slice none 0 0] 27)
  have tz := Thr.new2 w (.cells #[.bool cn, .slice ca cL cc, .slice pa pl pc] 27) (.cells #[.bool dn, .slice da dL dc, .slice qa ql qc] 27) (.bool false) (.slice none 0 0) (.slice none 0 0) 27
  have hba := bel3 w (.cells #[.bool cn, .slice ca cL cc, .slice pa pl pc] 27) (.cells #[.bool dn, .slice da dL dc, .slice qa ql qc] 27) (.cells #[.bool false, .slice none 0 0, .slice none 0 0] 27)
  generalize hwA : ((w.alloc (.cells #[.bool cn, .slice ca cL cc, .slice pa pl pc] 27)).alloc (.cells #[.bool dn, .slice da dL dc, .slice qa ql qc] 27)).alloc (.cells #[.bool false, .slice none 0 0, .slice none 0 0] 27) = wA at *
  have HWA := hide hwA
  have TB := hide tb
  have TC := hide tc
  have TZ := hide tz
  have HBA := hide hba
  have HT := hide h
  have HG := hide g
  have HS : Hid (∀ X : World, Below wA.heap.size wA X → X.cell? ⟨w.heap.size, 0, none⟩ = some (.bool cn) ∧ X.cell? ⟨w.heap.size, 1, none⟩ = some (.slice ca cL cc) ∧ X.cell? ⟨w.heap.size, 2, none⟩ = some (.slice pa pl pc) ∧ X.cell? ⟨w.heap.size + 1, 0, none⟩ = some (.bool dn) ∧ X.cell? ⟨w.heap.size + 1, 1, none⟩ = some (.slice da dL dc) ∧ X.cell? ⟨w.heap.size + 1, 2, none⟩ = some (.slice qa ql qc)) := fun X hX => ⟨(TB.out.keep hX).c0, (TB.out.keep hX).c1, (TB.out.keep hX).c2, (TC.out.keep hX).c0, (TC.out.keep hX).c1, (TC.out.keep hX).c2⟩
  clear hwA tb tc tz hba h g
  go_enter Tryz.func36, Tryz.ntmps36
  go_upto_region 1 with fail
  rw [HWA.out]
  refine wp_region_held_drew (S := fun X : World => X.cell? ⟨w.heap.size, 0, none⟩ = some (.bool cn) ∧ X.cell? ⟨w.heap.size, 1, none⟩ = some (.slice ca cL cc) ∧ X.cell? ⟨w.heap.size, 2, none⟩ = some (.slice pa pl pc) ∧ X.cell? ⟨w.heap.size + 1, 0, none⟩ = some (.bool dn) ∧ X.cell? ⟨w.heap.size + 1, 1, none⟩ = some (.slice da dL dc) ∧ X.cell? ⟨w.heap.size + 1, 2, none⟩ = some (.slice qa ql qc)) (by kernel_rfl) ?_ (fun hHeld => ?_)
  · exact HS.out _ (by (first | exact (Below.refl _ _).drew | exact Below.refl _ _))
  refine takeD (i := 0) (v := ?v1) (some 7) rfl (by kernel_rfl) (by kernel_rfl) (by kernel_rfl) (fun _ _ _ h => h) (Or.inl ⟨by rfl, ?hy1⟩) (by assumption) (by rfl) ?rest1
  case hy1 => first | (intro w hSw; (try dsimp only at hSw); obtain ⟨q0, q1, q2, q3, q4, q5⟩ := hSw; go_simp; done) | (intro w hSw; (try dsimp only at hSw); obtain ⟨q0, q1, q2, q3, q4, q5⟩ := hSw; go_simp; with_reducible rfl)
  try simp only [Act.put, List.setIfInBounds_toArray, List.set_cons_zero, List.set_cons_succ]
  refine takeD (i := 1) (v := ?v2) (some 8) rfl (by kernel_rfl) (by kernel_rfl) (by kernel_rfl) (fun _ _ _ h => h) (Or.inl ⟨by rfl, ?hy2⟩) (by assumption) (by rfl) ?rest2
  case hy2 => first | (intro w hSw; (try dsimp only at hSw); obtain ⟨q0, q1, q2, q3, q4, q5⟩ := hSw; go_simp; done) | (intro w hSw; (try dsimp only at hSw); obtain ⟨q0, q1, q2, q3, q4, q5⟩ := hSw; go_simp; with_reducible rfl)
  try simp only [Act.put, List.setIfInBounds_toArray, List.set_cons_zero, List.set_cons_succ]
  refine takeD (i := 3) (v := ?v3) (some 10) rfl (by kernel_rfl) (by kernel_rfl) (by kernel_rfl) (fun _ _ _ h => h) (Or.inl ⟨by rfl, ?hy3⟩) (by assumption) (by rfl) ?rest3
  case hy3 => first | (intro w hSw; (try dsimp only at hSw); obtain ⟨q0, q1, q2, q3, q4, q5⟩ := hSw; go_simp; done) | (intro w hSw; (try dsimp only at hSw); obtain ⟨q0, q1, q2, q3, q4, q5⟩ := hSw; go_simp; with_reducible rfl)
  try simp only [Act.put, List.setIfInBounds_toArray, List.set_cons_zero, List.set_cons_succ]
  refine takeD (i := 4) (v := ?v4) (some 11) rfl (by kernel_rfl) (by kernel_rfl) (by kernel_rfl) (fun _ _ _ h => h) (Or.inl ⟨by rfl, ?hy4⟩) (by assumption) (by rfl) ?rest4
  case hy4 => first | (intro w hSw; (try dsimp only at hSw); obtain ⟨q0, q1, q2, q3, q4, q5⟩ := hSw; go_simp; done) | (intro w hSw; (try dsimp only at hSw); obtain ⟨q0, q1, q2, q3, q4, q5⟩ := hSw; go_simp; with_reducible rfl)
  try simp only [Act.put, List.setIfInBounds_toArray, List.set_cons_zero, List.set_cons_succ]
  refine takeD (i := 5) (v := ?v5) (some 12) rfl (by kernel_rfl) (by kernel_rfl) (by kernel_rfl) (fun _ _ _ h => h) (Or.inl ⟨by rfl, ?hy5⟩) (by assumption) (by rfl) ?rest5
  case hy5 => first | (intro w hSw; (try dsimp only at hSw); obtain ⟨q0, q1, q2, q3, q4, q5⟩ := hSw; go_simp; done) | (intro w hSw; (try dsimp only at hSw); obtain ⟨q0, q1, q2, q3, q4, q5⟩ := hSw; go_simp; with_reducible rfl)
  try simp only [Act.put, List.setIfInBounds_toArray, List.set_cons_zero, List.set_cons_succ]
  refine wpAnyH_ready (rs := [2]) (by kernel_rfl) (by simp) ?_
  refine AllReadyH.cons rfl (fun K hK => ?_) AllReadyH.nil
  go_simp
  refine (without_calls (HT.out.below (bafter HBA.out (by (first | exact (Below.refl _ _).drew | exact Below.refl _ _)) (Nat.le_refl _))) x (by omega)).mono ?_
  rintro e w1 ⟨v1, M1, rfl, ht1, hc1, hb1⟩
  obtain ⟨en, ea, eL, ec, sa, sl, sc, rfl⟩ := ht1.form
  have HB1 : Hid (Below wA.heap.size wA w1) := bafter (by (first | exact (Below.refl _ _).drew | exact Below.refl _ _)) hb1 (Nat.le_refl _)
  have HT1 := hide ht1
  have HC1 := hide hc1
  clear ht1 hc1 hb1 hHeld
  go_wp2_with fail
  refine hK.out _ _ (HS.out _ HB1.out) (fun hHeld => ?_)
  clear hK K
  try simp only [Act.put, List.setIfInBounds_toArray, List.set_cons_zero, List.set_cons_succ]
  refine wpAnyH_ready (rs := [6]) (by kernel_rfl) (by simp) ?_
  refine AllReadyH.cons rfl (fun K hK => ?_) AllReadyH.nil
  go_simp
  refine (coef_calls (HT.out.below (bafter HBA.out HB1.out (Nat.le_refl _))) x (by omega)).mono ?_
  rintro e w2 ⟨v2, rfl, hr2, hb2⟩
  obtain ⟨nb, na, nL, nc, rfl⟩ := hr2.form
  have HB2 := hide (bafter HB1.out hb2 (Nat.le_refl _))
  have HB12 := hide hb2
  have HR2 := hide hr2
  clear hr2 hb2 hHeld
  go_wp2_with fail
  refine hK.out _ _ (HS.out _ HB2.out) (fun hHeld => ?_)
  clear hK K
  try simp only [Act.put, List.setIfInBounds_toArray, List.set_cons_zero, List.set_cons_succ]
  have HCB : Hid ((cf x (ps A)).natAbs < R ^ (k + 1000)) := lt_up (cf_bound HT.out.bnd.1 x) (by rw [ps_length]; have := HT.out.len; omega)
  refine wpAnyH_ready (rs := [7]) (by kernel_rfl) (by simp) ?_
  refine AllReadyH.cons rfl (fun K hK => ?_) AllReadyH.nil
  go_simp
  refine (scale_calls (HG.out.below (bafter HBA.out HB2.out (Nat.le_refl _))) (HR2.out.arg HCB.out (by omega)) (by omega)).mono ?_
  rintro e w3 ⟨v3, M3, rfl, ht3, hc3, hb3⟩
  obtain ⟨fn, fa, fL, fc, ta, tl, tc, rfl⟩ := ht3.form
  have HB3 := hide (bafter HB2.out hb3 (Nat.le_refl _))
  have HB23 := hide hb3
  have HT3 := hide ht3
  have HC3 := hide hc3
  clear ht3 hc3 hb3 hHeld
  go_wp2_with fail
  refine hK.out _ _ (HS.out _ HB3.out) (fun hHeld => ?_)
  clear hK K
  try simp only [Act.put, List.setIfInBounds_toArray, List.set_cons_zero, List.set_cons_succ]
  refine wpAnyH_ready (rs := [8]) (by kernel_rfl) (by simp) ?_
  refine AllReadyH.cons rfl (fun K hK => ?_) AllReadyH.nil
  go_simp
  have hA3 : TermA (k + (k + 1000) + 1000) w3 (.agg #[.bool fn, .slice fa fL fc, .slice ta tl tc]) (d * cf x (ps A)) M3 := by
    have h1 := HT3.out.bounded (l := times (cf x (ps A)) (ps B)) (k := k + (k + 1000)) (fun y => by rw [HC3.out, times, cf_scale]) (bnd_times HG.out.bnd.1 HCB.out) (by rw [times_length, ps_length]; exact HG.out.len) (bl_mul HG.out.bnd.2 HCB.out) (by omega)
    rw [times_length, ps_length] at h1
    exact h1.up (by have := HG.out.len; omega)
  have hA1 : TermA (k + (k + 1000) + 1000) w3 (.agg #[.bool en, .slice ea eL ec, .slice sa sl sc]) c M1 := by
    have h1 := HT1.out.bounded (l := (ps A).filter fun p => decide (p.1 ≠ x)) (k := k) (fun y => by rw [HC1.out, cf_without]) (fun p hp => HT.out.bnd.1 p (List.mem_filter.1 hp).1) (by have := List.length_filter_le (fun p : Int × Int => decide (p.1 ≠ x)) (ps A); have := HT.out.len; rw [ps_length] at *; omega) HT.out.bnd.2 (by omega)
    exact ((h1.up (by have := List.length_filter_le (fun p : Int × Int => decide (p.1 ≠ x)) (ps A); have := HT.out.len; rw [ps_length] at *; omega)).below HB12.out).below HB23.out
  refine (ladd_calls hA1 hA3 (by omega)).mono ?_
  clear hA3 hA1
  rintro e w4 ⟨v4, M4, rfl, ht4, hc4, hb4⟩
  obtain ⟨gn, ga, gL, gc, ua, ul, uc, rfl⟩ := ht4.form
  have HB4 := hide (bafter HB3.out hb4 (Nat.le_refl _))
  have HT4 := hide ht4
  have HC4 := hide hc4
  clear ht4 hc4 hb4 hHeld
  go_wp2_with fail
  refine hK.out _ _ (HS.out _ HB4.out) (fun hHeld => ?_)
  clear hK K
  try simp only [Act.put, List.setIfInBounds_toArray, List.set_cons_zero, List.set_cons_succ]
  have TZ4 := hide (TZ.out.keep HB4.out)
  obtain ⟨d0, d1, d2, f0, f1, f2⟩ := TZ4.out.every
  have HTR : Hid (TermR w4 (.agg #[.bool gn, .slice ga gL gc, .slice ua ul uc]) (c + d * cf x (ps A)) M4) := HT4.out
  have HS5 : Hid (let X := put3 w4 (w.heap.size + 2) (.bool gn) (.slice ga gL gc) (.slice ua ul uc); X.cell? ⟨w.heap.size, 0, none⟩ = some (.bool cn) ∧ X.cell? ⟨w.heap.size, 1, none⟩ = some (.slice ca cL cc) ∧ X.cell? ⟨w.heap.size, 2, none⟩ = some (.slice pa pl pc) ∧ X.cell? ⟨w.heap.size + 1, 0, none⟩ = some (.bool dn) ∧ X.cell? ⟨w.heap.size + 1, 1, none⟩ = some (.slice da dL dc) ∧ X.cell? ⟨w.heap.size + 1, 2, none⟩ = some (.slice qa ql qc)) := by
    show _ ∧ _ ∧ _ ∧ _ ∧ _ ∧ _
    rw [put3_cells (by omega), put3_cells (by omega), put3_cells (by omega), put3_cells (by omega), put3_cells (by omega), put3_cells (by omega)]
    exact HS.out _ HB4.out
  refine wpAnyH_ready (rs := [9]) (by kernel_rfl) (by simp) ?_
  refine AllReadyH.cons rfl (fun K hK => ?_) AllReadyH.nil
  go_simp
  refine hK.out _ _ (HS5.out) (fun hHeld => ?_)
  clear hK K hHeld
  try simp only [Act.put, List.setIfInBounds_toArray, List.set_cons_zero, List.set_cons_succ]
  refine wpAnyH_done (by kernel_rfl) ?_ _
  clear d0 d1 d2 f0 f1 f2
  go_wp2
  refine bodyPost_ret (results_term rfl rfl (TZ4.out.put _ _ _)) rfl ?_
  exact ⟨_, _, rfl, HTR.out.but (TZ4.out.but _ _ _), (fun y => by rw [HC4.out, HC1.out, HC3.out]), put3_below (bafter HBA.out HB4.out (Nat.le_refl _)) (by omega) _ _ _⟩

end Go.Proofs.YtbjolmgobeagoaaGreatDoor
