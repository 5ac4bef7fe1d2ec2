/- Sums: Norm. -/
import Derived.Test.YtbjolmgobeagoaaGreatDoorLnTerm
namespace Go.Proofs.YtbjolmgobeagoaaGreatDoor
set_option linter.unusedVariables false
set_option linter.unusedSimpArgs false
set_option maxRecDepth 100000
open Go Go.RowKit Go.Shelf Go.Lib

theorem nf_bnd {k : Nat} {l m : Ps} (h : NF l) (hc : ∀ u, cf u l = cf u m) (hb : Bnd k m) : Bnd (k + m.length) l := fun p hp => by
  rw [← nf_mem h hp, hc]
  exact cf_bound hb p.1
theorem TermA.tidies {k : Nat} {w : World} {cn : Bool} {cm pv : Value} {c : Int} {M : List Pt} (h : TermA k w (.agg #[.bool cn, cm, pv]) c M) (hk : k ≤ 500000) (W : World) (hb : Below w.heap.size w W) :
    Calls Tryz.prog 54 #[pv] W fun e w' => TidyE W M e w' := by
  obtain ⟨cn, ca, cL, cc, pa, pl, pc, e, h1, h2, h3, h4, h5, h6, h7⟩ := h
  simp only [Value.agg.injEq, Array.mk.injEq, List.cons.injEq, and_true] at e
  obtain ⟨_, rfl, rfl⟩ := e
  exact tidy_calls (h3.below hb) (h4.below hb) h5 hk (h6.imp id (fun h => h.below hb)) h7
theorem TermA.num {k : Nat} {w : World} {cn : Bool} {cm pv : Value} {c : Int} {M : List Pt} (h : TermA k w (.agg #[.bool cn, cm, pv]) c M) : BArg w (.agg #[.bool cn, cm]) c := by
  obtain ⟨cn, ca, cL, cc, pa, pl, pc, e, h1, h2, h3, h4, h5, h6, h7⟩ := h
  simp only [Value.agg.injEq, Array.mk.injEq, List.cons.injEq, and_true] at e
  obtain ⟨e0, rfl, rfl⟩ := e
  rw [e0]
  exact h1
theorem TermA.form {k : Nat} {w : World} {v : Value} {c : Int} {M : List Pt} (h : TermA k w v c M) : ∃ cn ca cL cc pa pl pc, v = .agg #[.bool cn, .slice ca cL cc, .slice pa pl pc] := by
  obtain ⟨cn, ca, cL, cc, pa, pl, pc, e, _⟩ := h
  exact ⟨cn, ca, cL, cc, pa, pl, pc, e⟩
theorem TermA.len {k : Nat} {w : World} {v : Value} {c : Int} {M : List Pt} (h : TermA k w v c M) : M.length ≤ 1000 := by
  obtain ⟨cn, ca, cL, cc, pa, pl, pc, e, h1, h2, h3, h4, h5, h6, h7⟩ := h
  exact h7
theorem TermA.bnd {k : Nat} {w : World} {v : Value} {c : Int} {M : List Pt} (h : TermA k w v c M) : Bnd k (ps M) ∧ c.natAbs < R ^ k := by
  obtain ⟨cn, ca, cL, cc, pa, pl, pc, e, h1, h2, h3, h4, h5, h6, h7⟩ := h
  exact ⟨h5, h2⟩
theorem len_of {M M' : List Pt} (h : NF (ps M')) (hc : ∀ u, cf u (ps M') = cf u (ps M)) : M'.length ≤ M.length := by
  have := nf_length h hc
  rw [ps_length, ps_length] at this
  exact this
theorem RowP.shape {W : World} {v : Value} {M : List Pt} (h : RowP W v M) : ∃ a n c, v = .slice a n c := by
  obtain ⟨a, c, e, _⟩ := h
  exact ⟨_, _, _, e⟩

set_option maxHeartbeats 4000000 in
theorem lnorm_calls {k : Nat} {w : World} {v : Value} {c : Int} {M : List Pt} (h : TermA k w v c M) (hk : k ≤ 500000) :
    Calls Tryz.prog 13 #[v] w fun e w' => TermE w c (fun u => cf u (ps M)) e w' := by
  obtain ⟨cn, ca, cL, cc, pa, pl, pc, rfl⟩ := h.form
  have tb := (Thr.new w (.bool cn) (.slice ca cL cc) (.slice pa pl pc) 27).alloc (.cells #[.bool false, .slice none 0 0, .slice none 0 0] 27)
  have tz := Thr.new1 w (.cells #[.bool cn, .slice ca cL cc, .slice pa pl pc] 27) (.bool false) (.slice none 0 0) (.slice none 0 0) 27
  have hba : Below w.heap.size w ((w.alloc (.cells #[.bool cn, .slice ca cL cc, .slice pa pl pc] 27)).alloc (.cells #[.bool false, .slice none 0 0, .slice none 0 0] 27)) := (bel _ _).trans ((bel _ _).mono (by simp))
  generalize hwA : (w.alloc (.cells #[.bool cn, .slice ca cL cc, .slice pa pl pc] 27)).alloc (.cells #[.bool false, .slice none 0 0, .slice none 0 0] 27) = wA at *
  have HWA := hide hwA
  have TB := hide tb
  have TZ := hide tz
  have HBA := hide hba
  have HT := hide h
  have HS : Hid (∀ X : World, Below wA.heap.size wA X → X.cell? ⟨w.heap.size, 0, none⟩ = some (.bool cn) ∧ X.cell? ⟨w.heap.size, 1, none⟩ = some (.slice ca cL cc) ∧ X.cell? ⟨w.heap.size, 2, none⟩ = some (.slice pa pl pc)) := fun X hX => ⟨(TB.out.keep hX).c0, (TB.out.keep hX).c1, (TB.out.keep hX).c2⟩
  have HC1 := hide (fun (X : World) (hX : Below wA.heap.size wA X) => bnorm_calls (h.num.below (bafter hba hX (Nat.le_refl _))))
  clear hwA tb tz hba h
  go_enter Tryz.func13, Tryz.ntmps13
  go_upto_region 1 with fail
  rw [HWA.out]
  refine wp_region_held_drew (S := fun X : World => X.cell? ⟨w.heap.size, 0, none⟩ = some (.bool cn) ∧ X.cell? ⟨w.heap.size, 1, none⟩ = some (.slice ca cL cc) ∧ X.cell? ⟨w.heap.size, 2, none⟩ = some (.slice pa pl pc)) (by kernel_rfl) ?_ (fun hHeld => ?_)
  · exact HS.out _ (by (first | exact (Below.refl _ _).drew | exact Below.refl _ _))
  refine takeD (i := 0) (v := ?v1) (some 3) rfl (by kernel_rfl) (by kernel_rfl) (by kernel_rfl) (fun _ _ _ h => h) (Or.inl ⟨by rfl, ?hy1⟩) (by assumption) (by rfl) ?rest1
  case hy1 => first | (intro w hSw; (try dsimp only at hSw); obtain ⟨q0, q1, q2⟩ := hSw; go_simp; done) | (intro w hSw; (try dsimp only at hSw); obtain ⟨q0, q1, q2⟩ := hSw; go_simp; with_reducible rfl)
  try simp only [Act.put, List.setIfInBounds_toArray, List.set_cons_zero, List.set_cons_succ]
  refine takeD (i := 1) (v := ?v2) (some 4) rfl (by kernel_rfl) (by kernel_rfl) (by kernel_rfl) (fun _ _ _ h => h) (Or.inl ⟨by rfl, ?hy2⟩) (by assumption) (by rfl) ?rest2
  case hy2 => first | (intro w hSw; (try dsimp only at hSw); obtain ⟨q0, q1, q2⟩ := hSw; go_simp; done) | (intro w hSw; (try dsimp only at hSw); obtain ⟨q0, q1, q2⟩ := hSw; go_simp; with_reducible rfl)
  try simp only [Act.put, List.setIfInBounds_toArray, List.set_cons_zero, List.set_cons_succ]
  refine takeD (i := 3) (v := ?v3) (some 6) rfl (by kernel_rfl) (by kernel_rfl) (by kernel_rfl) (fun _ _ _ h => h) (Or.inl ⟨by rfl, ?hy3⟩) (by assumption) (by rfl) ?rest3
  case hy3 => first | (intro w hSw; (try dsimp only at hSw); obtain ⟨q0, q1, q2⟩ := hSw; go_simp; done) | (intro w hSw; (try dsimp only at hSw); obtain ⟨q0, q1, q2⟩ := hSw; go_simp; with_reducible rfl)
  try simp only [Act.put, List.setIfInBounds_toArray, List.set_cons_zero, List.set_cons_succ]
  refine takeD (i := 4) (v := ?v4) (some 7) rfl (by kernel_rfl) (by kernel_rfl) (by kernel_rfl) (fun _ _ _ h => h) (Or.inl ⟨by rfl, ?hy4⟩) (by assumption) (by rfl) ?rest4
  case hy4 => first | (intro w hSw; (try dsimp only at hSw); obtain ⟨q0, q1, q2⟩ := hSw; go_simp; done) | (intro w hSw; (try dsimp only at hSw); obtain ⟨q0, q1, q2⟩ := hSw; go_simp; with_reducible rfl)
  try simp only [Act.put, List.setIfInBounds_toArray, List.set_cons_zero, List.set_cons_succ]
  refine wpAnyH_ready (rs := [2]) (by kernel_rfl) (by simp) ?_
  refine AllReadyH.cons rfl (fun K hK => ?_) AllReadyH.nil
  go_simp
  refine (HC1.out _ (by (first | exact (Below.refl _ _).drew | exact Below.refl _ _))).mono ?_
  rintro e w1 ⟨v1, rfl, hr1, hb1⟩
  obtain ⟨nb, na, nL, nc, rfl⟩ := hr1.form
  have HB1 : Hid (Below wA.heap.size wA w1) := bafter (by (first | exact (Below.refl _ _).drew | exact Below.refl _ _)) hb1 (Nat.le_refl _)
  have HR1 := hide hr1
  clear hr1 hb1 hHeld
  go_wp2_with fail
  refine hK.out _ _ (HS.out _ HB1.out) (fun hHeld => ?_)
  clear hK K
  try simp only [Act.put, List.setIfInBounds_toArray, List.set_cons_zero, List.set_cons_succ]
  refine wpAnyH_ready (rs := [5]) (by kernel_rfl) (by simp) ?_
  refine AllReadyH.cons rfl (fun K hK => ?_) AllReadyH.nil
  go_simp
  refine (HT.out.tidies hk w1 (bafter HBA.out HB1.out (Nat.le_refl _))).mono ?_
  rintro e w2 ⟨v2, M2, rfl, hr2, hg2, hn2, hc2, hb2⟩
  obtain ⟨sa, sL, sc, rfl⟩ := hr2.shape
  have HB2 := hide (bafter HB1.out hb2 (Nat.le_refl _))
  have HR2 := hide hr2
  have HG2 := hide hg2
  have HN2 := hide hn2
  have HC2 := hide hc2
  have HB12 := hide hb2
  clear hr2 hg2 hn2 hc2 hb2 hHeld
  go_wp2_with fail
  refine hK.out _ _ (HS.out _ HB2.out) (fun hHeld => ?_)
  clear hK K
  try simp only [Act.put, List.setIfInBounds_toArray, List.set_cons_zero, List.set_cons_succ]
  refine wpAnyH_ready (rs := [6]) (by kernel_rfl) (by simp) ?_
  refine AllReadyH.cons rfl (fun K hK => ?_) AllReadyH.nil
  go_simp
  refine (clone_calls HR2.out HG2.out.sl (by have := len_of HN2.out HC2.out; have := HT.out.len; omega)).mono ?_
  rintro e w3 ⟨v3, rfl, ho3, hb3⟩
  obtain ⟨ta, tL, tc, rfl⟩ := ho3.row.shape
  have HB3 := hide (bafter HB2.out hb3 (Nat.le_refl _))
  have HO3 := hide ho3.row
  have HB23 := hide hb3
  clear ho3 hb3 hHeld
  go_wp2_with fail
  refine hK.out _ _ (HS.out _ HB3.out) (fun hHeld => ?_)
  clear hK K
  try simp only [Act.put, List.setIfInBounds_toArray, List.set_cons_zero, List.set_cons_succ]
  refine wpAnyH_ready (rs := [7]) (by kernel_rfl) (by simp) ?_
  refine AllReadyH.cons rfl (fun K hK => ?_) AllReadyH.nil
  go_simp
  refine made_calls.mono ?_
  rintro e w4 ⟨ra, rl, rc, rfl, hrow4, hb4⟩
  have HB4 := hide (bafter HB3.out hb4 (Nat.le_refl _))
  have HR4 := hide (hrow4 w4 M2 (HO3.out.below hb4))
  have HB34 := hide hb4
  clear hrow4 hb4 hHeld
  go_wp2_with fail
  refine hK.out _ _ (HS.out _ HB4.out) (fun hHeld => ?_)
  clear hK K
  try simp only [Act.put, List.setIfInBounds_toArray, List.set_cons_zero, List.set_cons_succ]
  have TZ4 := hide (TZ.out.keep HB4.out)
  obtain ⟨d0, d1, d2, f0, f1, f2⟩ := TZ4.out.every
  have HTR : Hid (TermR w4 (.agg #[.bool nb, .slice na nL nc, .slice ra rl rc]) c M2) := ⟨_, _, _, _, _, _, _, rfl, ((HR1.out.below HB12.out).below HB23.out).below HB34.out, HR4.out, (HG2.out.below HB23.out).below HB34.out, HN2.out⟩
  have HS5 : Hid (let X := put3 w4 (w.heap.size + 1) (.bool nb) (.slice na nL nc) (.slice ra rl rc); X.cell? ⟨w.heap.size, 0, none⟩ = some (.bool cn) ∧ X.cell? ⟨w.heap.size, 1, none⟩ = some (.slice ca cL cc) ∧ X.cell? ⟨w.heap.size, 2, none⟩ = some (.slice pa pl pc)) := by
    have hk : (put3 w4 (w.heap.size + 1) (.bool nb) (.slice na nL nc) (.slice ra rl rc)).heap[w.heap.size]? = w4.heap[w.heap.size]? := put3_other (by omega) _ _ _
    obtain ⟨y0, y1, y2⟩ := HS.out _ HB4.out
    exact ⟨(World.cell?_of_block (a := ⟨w.heap.size, 0, none⟩) hk).trans y0, (World.cell?_of_block (a := ⟨w.heap.size, 1, none⟩) hk).trans y1, (World.cell?_of_block (a := ⟨w.heap.size, 2, none⟩) hk).trans y2⟩
  refine wpAnyH_ready (rs := [8]) (by kernel_rfl) (by simp) ?_
  refine AllReadyH.cons rfl (fun K hK => ?_) AllReadyH.nil
  go_simp
  refine hK.out _ _ (HS5.out) (fun hHeld => ?_)
  clear hK K hHeld
  try simp only [Act.put, List.setIfInBounds_toArray, List.set_cons_zero, List.set_cons_succ]
  refine wpAnyH_done (by kernel_rfl) ?_ _
  clear d0 d1 d2 f0 f1 f2
  go_wp2
  refine bodyPost_ret (results_term rfl rfl (TZ4.out.put _ _ _)) rfl ?_
  exact ⟨_, M2, rfl, HTR.out.but (TZ4.out.but _ _ _), HC2.out, put3_below (bafter HBA.out HB4.out (Nat.le_refl _)) (by omega) _ _ _⟩

end Go.Proofs.YtbjolmgobeagoaaGreatDoor
