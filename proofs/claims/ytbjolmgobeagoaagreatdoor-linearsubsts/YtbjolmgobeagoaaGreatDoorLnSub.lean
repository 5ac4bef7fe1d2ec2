/- Differences of sums: Sub. -/
import Derived.Test.YtbjolmgobeagoaaGreatDoorLnBnd
namespace Go.Proofs.YtbjolmgobeagoaaGreatDoor
set_option linter.unusedVariables false
set_option linter.unusedSimpArgs false
set_option maxRecDepth 100000
open Go Go.RowKit Go.Shelf Go.Lib

set_option maxHeartbeats 4000000 in
theorem lsub_calls {k : Nat} {w : World} {v u : Value} {c d : Int} {A B : List Pt} (h : TermA k w v c A) (g : TermA k w u d B) (hk : k ≤ 300000) :
    Calls Tryz.prog 29 #[v, u] w fun e w' => TermE w (c - d) (fun x => cf x (ps A) - cf x (ps B)) e w' := by
  obtain ⟨cn, ca, cL, cc, pa, pl, pc, rfl⟩ := h.form
  obtain ⟨dn, da, dL, dc, qa, ql, qc, rfl⟩ := g.form
  have tb := ((Thr.new w (.bool cn) (.slice ca cL cc) (.slice pa pl pc) 27).alloc (.cells #[.bool dn, .slice da dL dc, .slice qa ql qc] 27)).alloc (.cells #[.bool false, .slice none 0 0, .slice none 0 0] 27)
  have tc := (Thr.new1 w (.cells #[.bool cn, .slice ca cL cc, .slice pa pl pc] 27) (.bool dn) (.slice da dL dc) (.slice qa ql qc) 27).alloc (.cells #[.bool false, .slice none 0 0, .slice none 0 0] 27)
  have tz := Thr.new2 w (.cells #[.bool cn, .slice ca cL cc, .slice pa pl pc] 27) (.cells #[.bool dn, .slice da dL dc, .slice qa ql qc] 27) (.bool false) (.slice none 0 0) (.slice none 0 0) 27
  have hba := bel3 w (.cells #[.bool cn, .slice ca cL cc, .slice pa pl pc] 27) (.cells #[.bool dn, .slice da dL dc, .slice qa ql qc] 27) (.cells #[.bool false, .slice none 0 0, .slice none 0 0] 27)
  generalize hwA : ((w.alloc (.cells #[.bool cn, .slice ca cL cc, .slice pa pl pc] 27)).alloc (.cells #[.bool dn, .slice da dL dc, .slice qa ql qc] 27)).alloc (.cells #[.bool false, .slice none 0 0, .slice none 0 0] 27) = wA at *
  have HWA := hide hwA
  have TB := hide tb
  have TC := hide tc
  have TZ := hide tz
  have HBA := hide hba
  have HT := hide h
  have HG := hide g
  have HS : Hid (∀ X : World, Below wA.heap.size wA X → X.cell? ⟨w.heap.size, 0, none⟩ = some (.bool cn) ∧ X.cell? ⟨w.heap.size, 1, none⟩ = some (.slice ca cL cc) ∧ X.cell? ⟨w.heap.size, 2, none⟩ = some (.slice pa pl pc) ∧ X.cell? ⟨w.heap.size + 1, 0, none⟩ = some (.bool dn) ∧ X.cell? ⟨w.heap.size + 1, 1, none⟩ = some (.slice da dL dc) ∧ X.cell? ⟨w.heap.size + 1, 2, none⟩ = some (.slice qa ql qc)) := fun X hX => ⟨(TB.out.keep hX).c0, (TB.out.keep hX).c1, (TB.out.keep hX).c2, (TC.out.keep hX).c0, (TC.out.keep hX).c1, (TC.out.keep hX).c2⟩
  clear hwA tb tc tz hba h g
  go_enter Tryz.func29, Tryz.ntmps29
  go_upto_region 1 with fail
  rw [HWA.out]
  refine wp_region_held_drew (S := fun X : World => X.cell? ⟨w.heap.size, 0, none⟩ = some (.bool cn) ∧ X.cell? ⟨w.heap.size, 1, none⟩ = some (.slice ca cL cc) ∧ X.cell? ⟨w.heap.size, 2, none⟩ = some (.slice pa pl pc) ∧ X.cell? ⟨w.heap.size + 1, 0, none⟩ = some (.bool dn) ∧ X.cell? ⟨w.heap.size + 1, 1, none⟩ = some (.slice da dL dc) ∧ X.cell? ⟨w.heap.size + 1, 2, none⟩ = some (.slice qa ql qc)) (by kernel_rfl) ?_ (fun hHeld => ?_)
  · exact HS.out _ (by (first | exact (Below.refl _ _).drew | exact Below.refl _ _))
  refine takeD (i := 0) (v := ?v1) (some 5) rfl (by kernel_rfl) (by kernel_rfl) (by kernel_rfl) (fun _ _ _ h => h) (Or.inl ⟨by rfl, ?hy1⟩) (by assumption) (by rfl) ?rest1
  case hy1 => first | (intro w hSw; (try dsimp only at hSw); obtain ⟨q0, q1, q2, q3, q4, q5⟩ := hSw; go_simp; done) | (intro w hSw; (try dsimp only at hSw); obtain ⟨q0, q1, q2, q3, q4, q5⟩ := hSw; go_simp; with_reducible rfl)
  try simp only [Act.put, List.setIfInBounds_toArray, List.set_cons_zero, List.set_cons_succ]
  refine takeD (i := 1) (v := ?v2) (some 6) rfl (by kernel_rfl) (by kernel_rfl) (by kernel_rfl) (fun _ _ _ h => h) (Or.inl ⟨by rfl, ?hy2⟩) (by assumption) (by rfl) ?rest2
  case hy2 => first | (intro w hSw; (try dsimp only at hSw); obtain ⟨q0, q1, q2, q3, q4, q5⟩ := hSw; go_simp; done) | (intro w hSw; (try dsimp only at hSw); obtain ⟨q0, q1, q2, q3, q4, q5⟩ := hSw; go_simp; with_reducible rfl)
  try simp only [Act.put, List.setIfInBounds_toArray, List.set_cons_zero, List.set_cons_succ]
  refine wpAnyH_ready (rs := [2]) (by kernel_rfl) (by simp) ?_
  refine AllReadyH.cons rfl (fun K hK => ?_) AllReadyH.nil
  go_simp
  refine (bof_calls _ (-1) (by omega) (by omega)).mono ?_
  rintro e w1 ⟨v1, rfl, hr1, hb1⟩
  obtain ⟨nb, na, nL, nc, rfl⟩ := hr1.form
  have HB1 : Hid (Below wA.heap.size wA w1) := bafter (by (first | exact (Below.refl _ _).drew | exact Below.refl _ _)) hb1 (Nat.le_refl _)
  have HR1 := hide hr1
  clear hr1 hb1 hHeld
  go_wp2_with fail
  refine hK.out _ _ (HS.out _ HB1.out) (fun hHeld => ?_)
  clear hK K
  try simp only [Act.put, List.setIfInBounds_toArray, List.set_cons_zero, List.set_cons_succ]
  refine wpAnyH_ready (rs := [3]) (by kernel_rfl) (by simp) ?_
  refine AllReadyH.cons rfl (fun K hK => ?_) AllReadyH.nil
  go_simp
  refine (scale_calls (HG.out.below (bafter HBA.out HB1.out (Nat.le_refl _))) (HR1.out.arg (one_lt_R (by decide)) (by omega)) (by omega)).mono ?_
  rintro e w2 ⟨v2, M2, rfl, ht2, hc2, hb2⟩
  obtain ⟨en, ea, eL, ec, sa, sl, sc, rfl⟩ := ht2.form
  have HB2 := hide (bafter HB1.out hb2 (Nat.le_refl _))
  have HT2 := hide ht2
  have HC2 := hide hc2
  clear ht2 hc2 hb2 hHeld
  go_wp2_with fail
  refine hK.out _ _ (HS.out _ HB2.out) (fun hHeld => ?_)
  clear hK K
  try simp only [Act.put, List.setIfInBounds_toArray, List.set_cons_zero, List.set_cons_succ]
  refine wpAnyH_ready (rs := [4]) (by kernel_rfl) (by simp) ?_
  refine AllReadyH.cons rfl (fun K hK => ?_) AllReadyH.nil
  go_simp
  have hA2 : TermA (k + 1 + 1000) w2 (.agg #[.bool en, .slice ea eL ec, .slice sa sl sc]) (d * -1) M2 := by
    have h1 := HT2.out.bounded (l := times (-1) (ps B)) (k := k + 1) (fun x => by rw [HC2.out, times, cf_scale]) (bnd_times HG.out.bnd.1 (one_lt_R (by decide))) (by rw [times_length, ps_length]; exact HG.out.len) (bl_mul HG.out.bnd.2 (one_lt_R (by decide))) (by omega)
    rw [times_length, ps_length] at h1
    exact h1.up (by have := HG.out.len; omega)
  refine (ladd_calls ((HT.out.below (bafter HBA.out HB2.out (Nat.le_refl _))).up (by omega)) hA2 (by omega)).mono ?_
  clear hA2
  rintro e w3 ⟨v3, M3, rfl, ht3, hc3, hb3⟩
  obtain ⟨fn, fa, fL, fc, ta, tl, tc, rfl⟩ := ht3.form
  have HB3 := hide (bafter HB2.out hb3 (Nat.le_refl _))
  have HT3 := hide ht3
  have HC3 := hide hc3
  clear ht3 hc3 hb3 hHeld
  go_wp2_with fail
  refine hK.out _ _ (HS.out _ HB3.out) (fun hHeld => ?_)
  clear hK K
  try simp only [Act.put, List.setIfInBounds_toArray, List.set_cons_zero, List.set_cons_succ]
  have TZ4 := hide (TZ.out.keep HB3.out)
  obtain ⟨d0, d1, d2, f0, f1, f2⟩ := TZ4.out.every
  have HTR : Hid (TermR w3 (.agg #[.bool fn, .slice fa fL fc, .slice ta tl tc]) (c - d) M3) := by
    have h1 := HT3.out
    rw [show c + d * -1 = c - d by omega] at h1
    exact h1
  have HS5 : Hid (let X := put3 w3 (w.heap.size + 2) (.bool fn) (.slice fa fL fc) (.slice ta tl tc); X.cell? ⟨w.heap.size, 0, none⟩ = some (.bool cn) ∧ X.cell? ⟨w.heap.size, 1, none⟩ = some (.slice ca cL cc) ∧ X.cell? ⟨w.heap.size, 2, none⟩ = some (.slice pa pl pc) ∧ X.cell? ⟨w.heap.size + 1, 0, none⟩ = some (.bool dn) ∧ X.cell? ⟨w.heap.size + 1, 1, none⟩ = some (.slice da dL dc) ∧ X.cell? ⟨w.heap.size + 1, 2, none⟩ = some (.slice qa ql qc)) := by
    show _ ∧ _ ∧ _ ∧ _ ∧ _ ∧ _
    rw [put3_cells (by omega), put3_cells (by omega), put3_cells (by omega), put3_cells (by omega), put3_cells (by omega), put3_cells (by omega)]
    exact HS.out _ HB3.out
  refine wpAnyH_ready (rs := [5]) (by kernel_rfl) (by simp) ?_
  refine AllReadyH.cons rfl (fun K hK => ?_) AllReadyH.nil
  go_simp
  refine hK.out _ _ (HS5.out) (fun hHeld => ?_)
  clear hK K hHeld
  try simp only [Act.put, List.setIfInBounds_toArray, List.set_cons_zero, List.set_cons_succ]
  refine wpAnyH_done (by kernel_rfl) ?_ _
  clear d0 d1 d2 f0 f1 f2
  go_wp2
  refine bodyPost_ret (results_term rfl rfl (TZ4.out.put _ _ _)) rfl ?_
  exact ⟨_, _, rfl, HTR.out.but (TZ4.out.but _ _ _), (fun u => by rw [HC3.out, HC2.out]; show _ = cf u (ps A) - cf u (ps B); omega), put3_below (bafter HBA.out HB3.out (Nat.le_refl _)) (by omega) _ _ _⟩

end Go.Proofs.YtbjolmgobeagoaaGreatDoor
