/- Json: Equal over trees. -/
import Derived.Test.YtkobgfibkoamjaaDoorJEq0
namespace Go.Proofs.YtkobgfibkoamjaaDoor
set_option linter.unusedVariables false
set_option linter.unusedSimpArgs false
set_option maxRecDepth 100000
open Go Go.RowKit Go.Shelf Go.Lib

def fP (L L' : List JT) (i : Nat) : Bool := match L[i]?, L'[i]? with | some a, some b => eqJ a b | _, _ => false
theorem fP_all {L L' : List JT} : (L.length = L'.length ∧ ∀ i, i < L.length → fP L L' i = true) ↔ eqJs L L' = true := by
  rw [eqJs_iff]
  constructor
  · rintro ⟨h1, h2⟩
    refine ⟨h1, fun i a b ha hb => ?_⟩
    have := h2 i (List.getElem?_eq_some_iff.1 ha).1
    simpa [fP, ha, hb] using this
  · rintro ⟨h1, h2⟩
    refine ⟨h1, fun i hi => ?_⟩
    have ha : L[i]? = some L[i] := List.getElem?_eq_getElem hi
    have hb : L'[i]? = some (L'[i]'(by omega)) := List.getElem?_eq_getElem (by omega)
    simp only [fP, ha, hb]
    exact h2 i _ _ ha hb

set_option maxHeartbeats 16000000 in
theorem equal_any {W : World} {S : Nat → Prop} {x : JC} {T : JT} (h : TIn W S x T) (hl : LtT T) : ∀ {S' : Nat → Prop} {y : JC} {T' : JT}, TIn W S' y T' → LtT T' → ∀ (w : World), Below W.heap.size W w → Calls Tryd.prog 17 #[vagg x, vagg y] w (REqR w T T') := by
  induction h with
  | mk k s kv la lc K L xs hK hc hsl ht ih =>
    intro S' y T' hy hl' w hW
    cases hy with
    | mk k' s' kv' la' lc' K' L' ys hK' hc' hsl' ht' =>
    obtain ⟨_, _, _, _, hKl, hLl, hsz, hll⟩ := hl
    obtain ⟨_, _, _, _, hKl', hLl', hsz', hll'⟩ := hl'
    obtain ⟨ka, kc, rfl, hKc⟩ := hK
    obtain ⟨ka', kc', rfl, hKc'⟩ := hK'
    obtain ⟨a1, c1, a2, c2, hpx, hk1, hp1⟩ := plain_parts (la := la) (lc := lc) (L := L) k s (show StrsS W S (.slice ka K.length kc) K from ⟨ka, kc, rfl, hKc⟩)
    obtain ⟨a1', c1', a2', c2', hpy, hk1', hp1'⟩ := plain_parts (la := la') (lc := lc') (L := L') k' s' (show StrsS W S' (.slice ka' K'.length kc') K' from ⟨ka', kc', rfl, hKc'⟩)
    have HIH : Hid (∀ i (hi : i < L.length) (hi' : i < L'.length) w2, Below w.heap.size w w2 → Calls Tryd.prog 17 #[vagg (xs i), vagg (ys i)] w2 (REqR w2 L[i] L'[i])) := fun i hi hi' w2 h2 => ih i hi (hll i hi) (ht' i hi') (hll' i hi') w2 (hW.trans (h2.mono hW.size))
    have HLC : Hid (∀ w2, Below w.heap.size w w2 → ∀ i, i < (lP k L).length → ∃ b off, a2 = some ⟨b, off, none⟩ ∧ ∀ r, r < 4 → w2.cell? ⟨b, off + (i * 4 + r), none⟩ = (vcell (xs i))[r]?) := fun w2 h2 i hi => by
      obtain ⟨b, off, e, _, hx⟩ := hc i (hp1 i hi).1
      refine ⟨b, off, (hp1 i hi).2.2.trans e, fun r hr => ?_⟩
      have h0 := hx 0 (by omega)
      simp only [vcell, List.getElem?_cons_zero] at h0
      exact ((hW.trans (h2.mono hW.size)).cell (p := ⟨b, off + (i * 4 + r), none⟩) (block_lt h0)).trans (hx r hr)
    have HSL : Hid (∀ i, i < (lP k L).length → IsSl (xs i).2.2.1 ∧ IsSl (xs i).2.2.2) := fun i hi => hsl i (hp1 i hi).1
    have HLC' : Hid (∀ w2, Below w.heap.size w w2 → ∀ i, i < (lP k' L').length → ∃ b off, a2' = some ⟨b, off, none⟩ ∧ ∀ r, r < 4 → w2.cell? ⟨b, off + (i * 4 + r), none⟩ = (vcell (ys i))[r]?) := fun w2 h2 i hi => by
      obtain ⟨b, off, e, _, hx⟩ := hc' i (hp1' i hi).1
      refine ⟨b, off, (hp1' i hi).2.2.trans e, fun r hr => ?_⟩
      have h0 := hx 0 (by omega)
      simp only [vcell, List.getElem?_cons_zero] at h0
      exact ((hW.trans (h2.mono hW.size)).cell (p := ⟨b, off + (i * 4 + r), none⟩) (block_lt h0)).trans (hx r hr)
    have HSL' : Hid (∀ i, i < (lP k' L').length → IsSl (ys i).2.2.1 ∧ IsSl (ys i).2.2.2) := fun i hi => hsl' i (hp1' i hi).1
    have HF : Hid (∀ i, i < (lP k L).length → i < (lP k' L').length → ∀ w2, Below w.heap.size w w2 → Calls Tryd.prog 17 #[vagg (xs i), vagg (ys i)] w2 fun e w' => e = .returned (.bool (fP (lP k L) (lP k' L') i)) ∧ Below w2.heap.size w2 w') := fun i hi hi' w2 h2 => by
      obtain ⟨g1, g2, _⟩ := hp1 i hi
      obtain ⟨g1', g2', _⟩ := hp1' i hi'
      refine (HIH.out i g1 g1' w2 h2).mono fun e w3 h3 => ⟨?_, h3.2⟩
      rw [h3.1, g2, g2']
      simp only [fP, List.getElem?_eq_getElem g1, List.getElem?_eq_getElem g1']
    have HSEQ : Hid (∀ w2, Below w.heap.size w w2 → Calls Tryd.prog 44 #[.slice a1 (kP k K).length c1, .slice a1' (kP k' K').length c1'] w2 (SeqR w2 (kP k K) (kP k' K'))) := fun w2 h2 => seq_any hk1 hk1' (Nat.le_trans (show (kP k K).length ≤ K.length by unfold kP; split <;> simp) (by omega)) w2 (hW.trans (h2.mono hW.size))
    have HLL : Hid ((lP k L).length ≤ 1000) := by
      show _ ≤ _
      unfold lP
      split
      · omega
      · simp
    have HEFN : Hid (∀ w2, Below w.heap.size w w2 → Calls Tryd.prog 45 #[.slice a2 (lP k L).length c2, .slice a2' (lP k' L').length c2', .func (.func 17) #[] #[]] w2 (EfnR w2 (lP k L).length (lP k' L').length (fP (lP k L) (lP k' L')))) := fun w2 h2 => efn_any w2 a2 a2' _ _ c2 c2' xs ys _ (fun w3 h3 => HLC.out w3 (h2.trans (h3.mono h2.size))) (fun w3 h3 => HLC'.out w3 (h2.trans (h3.mono h2.size))) HSL.out HSL'.out (fun i hi hi' w3 h3 => HF.out i hi hi' w3 (h2.trans (h3.mono h2.size))) HLL.out
    have HEQ : Hid (eqJ (.mk k s K L) (.mk k' s' K' L') = true ↔ k = k' ∧ sP k s = sP k' s' ∧ kP k K = kP k' K' ∧ (lP k L).length = (lP k' L').length ∧ ∀ i, i < (lP k L).length → fP (lP k L) (lP k' L') i = true) := by show _ ↔ _; rw [eqJ_by, fP_all]
    obtain ⟨kn, hkn⟩ : ∃ kn, K.length = kn := ⟨_, rfl⟩
    obtain ⟨ln, hln⟩ : ∃ ln, L.length = ln := ⟨_, rfl⟩
    obtain ⟨kn', hkn'⟩ : ∃ kn, K'.length = kn := ⟨_, rfl⟩
    obtain ⟨ln', hln'⟩ : ∃ ln, L'.length = ln := ⟨_, rfl⟩
    obtain ⟨R, hR⟩ : ∃ R, eqJ (.mk k s K L) (.mk k' s' K' L') = R := ⟨_, rfl⟩
    unfold REqR
    rw [hR] at HEQ ⊢
    rw [hkn, hln] at hpx
    rw [hkn', hln'] at hpy
    unfold vagg
    simp only
    rw [hkn, hln, hkn', hln']
    clear HIH HLC HLC' HSL HSL' HF HLL ih ht ht' hc hc' hsl hsl' hKc hKc' hll hll' hKl hKl' hLl hLl' hsz hsz' hkn hln hkn' hln' hk1 hk1' hp1 hp1' hR hW
    generalize sP k s = s1 at *
    generalize sP k' s' = s1' at *
    generalize kP k K = K1 at *
    generalize kP k' K' = K1' at *
    generalize lP k L = L1 at *
    generalize lP k' L' = L1' at *
    generalize fP L1 L1' = f at *
    generalize K1.length = n1 at *
    generalize K1'.length = n1' at *
    generalize L1.length = n2 at *
    generalize L1'.length = n2' at *
    have HCX : Hid (∀ W2, Calls Tryd.prog 43 #[.agg #[.int .i64 k, .string s, .slice ka kn kc, .slice la ln lc]] W2 fun e w' => e = .returned (.agg #[.int .i64 k, .string s1, .slice a1 n1 c1, .slice a2 n2 c2]) ∧ Below W2.heap.size W2 w') := fun W2 => (plain_any W2 k s ka la kn kc ln lc).mono fun e w' h => ⟨by rw [h.1, hpx]; rfl, h.2⟩
    have HCY : Hid (∀ W2, Calls Tryd.prog 43 #[.agg #[.int .i64 k', .string s', .slice ka' kn' kc', .slice la' ln' lc']] W2 fun e w' => e = .returned (.agg #[.int .i64 k', .string s1', .slice a1' n1' c1', .slice a2' n2' c2']) ∧ Below W2.heap.size W2 w') := fun W2 => (plain_any W2 k' s' ka' la' kn' kc' ln' lc').mono fun e w' h => ⟨by rw [h.1, hpy]; rfl, h.2⟩
    clear hpx hpy
    have hb : Below w.heap.size w ((w.alloc (.cells #[.int .i64 k, .string s, .slice ka kn kc, .slice la ln lc] 27)).alloc (.cells #[.int .i64 k', .string s', .slice ka' kn' kc', .slice la' ln' lc'] 27)) := (bel w _).alloc (by simp) _
    have hp := (BoxC.new w 27 #[.int .i64 k, .string s, .slice ka kn kc, .slice la ln lc]).alloc (.cells #[.int .i64 k', .string s', .slice ka' kn' kc', .slice la' ln' lc'] 27)
    have hq := BoxC.new (w.alloc (.cells #[.int .i64 k, .string s, .slice ka kn kc, .slice la ln lc] 27)) 27 #[.int .i64 k', .string s', .slice ka' kn' kc', .slice la' ln' lc']
    rw [World.size_alloc] at hq
    generalize hw0 : (w.alloc (.cells #[.int .i64 k, .string s, .slice ka kn kc, .slice la ln lc] 27)).alloc (.cells #[.int .i64 k', .string s', .slice ka' kn' kc', .slice la' ln' lc'] 27) = w0 at *
    have HW0 := hide hw0
    have HPD : Hid (BoxC w0.drew w.heap.size 27 #[.int .i64 k, .string s, .slice ka kn kc, .slice la ln lc]) := hp
    have HQD : Hid (BoxC w0.drew (w.heap.size + 1) 27 #[.int .i64 k', .string s', .slice ka' kn' kc', .slice la' ln' lc']) := hq
    have HBD : Hid (Below w.heap.size w w0.drew) := hb.drew
    have HS : Hid (∀ X0 : World, BoxC X0 w.heap.size 27 #[.int .i64 k, .string s, .slice ka kn kc, .slice la ln lc] → BoxC X0 (w.heap.size + 1) 27 #[.int .i64 k', .string s', .slice ka' kn' kc', .slice la' ln' lc'] → (X0.cell? ⟨w.heap.size, 0, none⟩ = some (.int .i64 k) ∧ X0.cell? ⟨w.heap.size, 1, none⟩ = some (.string s) ∧ X0.cell? ⟨w.heap.size, 2, none⟩ = some (.slice ka kn kc) ∧ X0.cell? ⟨w.heap.size, 3, none⟩ = some (.slice la ln lc) ∧ X0.cell? ⟨w.heap.size + 1, 0, none⟩ = some (.int .i64 k') ∧ X0.cell? ⟨w.heap.size + 1, 1, none⟩ = some (.string s') ∧ X0.cell? ⟨w.heap.size + 1, 2, none⟩ = some (.slice ka' kn' kc') ∧ X0.cell? ⟨w.heap.size + 1, 3, none⟩ = some (.slice la' ln' lc'))) := fun X0 h k => ⟨h.cell 0, h.cell 1, h.cell 2, h.cell 3, k.cell 0, k.cell 1, k.cell 2, k.cell 3⟩
    clear hw0 hp hq hb
    go_enter Tryd.func17, Tryd.ntmps17
    go_upto_region 1 with fail
    rw [HW0.out]
    clear HW0
    refine wp_region_held_drew (S := fun X0 : World => True) (by kernel_rfl) trivial (fun hHeld => ?_)
    generalize w0.drew = wd at *
    refine wpAnyH_ready (rs := [0, 2]) (by kernel_rfl) (by simp) ?_
    refine AllReadyH.cons rfl (fun K9 hK => ?_) (AllReadyH.cons rfl (fun K9 hK => ?_) AllReadyH.nil)
    · have pf0 := HPD.out.frozen 0
      have pc0 : wd.cell? ⟨w.heap.size, 0, none⟩ = some (.int .i64 k) := HPD.out.cell 0
      have pf1 := HPD.out.frozen 1
      have pc1 : wd.cell? ⟨w.heap.size, 1, none⟩ = some (.string s) := HPD.out.cell 1
      have pf2 := HPD.out.frozen 2
      have pc2 : wd.cell? ⟨w.heap.size, 2, none⟩ = some (.slice ka kn kc) := HPD.out.cell 2
      have pf3 := HPD.out.frozen 3
      have pc3 : wd.cell? ⟨w.heap.size, 3, none⟩ = some (.slice la ln lc) := HPD.out.cell 3
      have pl := HPD.out.lt
      have qf0 := HQD.out.frozen 0
      have qc0 : wd.cell? ⟨w.heap.size + 1, 0, none⟩ = some (.int .i64 k') := HQD.out.cell 0
      have qf1 := HQD.out.frozen 1
      have qc1 : wd.cell? ⟨w.heap.size + 1, 1, none⟩ = some (.string s') := HQD.out.cell 1
      have qf2 := HQD.out.frozen 2
      have qc2 : wd.cell? ⟨w.heap.size + 1, 2, none⟩ = some (.slice ka' kn' kc') := HQD.out.cell 2
      have qf3 := HQD.out.frozen 3
      have qc3 : wd.cell? ⟨w.heap.size + 1, 3, none⟩ = some (.slice la' ln' lc') := HQD.out.cell 3
      have ql := HQD.out.lt
      go_simp
      refine hK.out _ _ trivial (fun _ => ?_)
      clear hK K9
      clear pf0 pf1 pf2 pf3 pc0 pc1 pc2 pc3 qf0 qf1 qf2 qf3 qc0 qc1 qc2 qc3 pl ql
      try simp only [Act.put, List.setIfInBounds_toArray, List.set_cons_zero, List.set_cons_succ, vagg]
      refine wpAnyH_ready (rs := [1, 2]) (by kernel_rfl) (by simp) ?_
      refine AllReadyH.cons rfl (fun K9 hK => ?_) (AllReadyH.cons rfl (fun K9 hK => ?_) AllReadyH.nil)
      · go_simp
        refine (HCX.out _).mono ?_
        rintro e w1 ⟨rfl, hB9⟩
        have HP1 := hide (HPD.out.below hB9)
        have HQ1 := hide (HQD.out.below hB9)
        have HB1 := hide (HBD.out.trans (hB9.mono HBD.out.size))
        refine hK.out _ _ trivial (fun _ => ?_)
        clear hK K9 hB9
        try simp only [Act.put, List.setIfInBounds_toArray, List.set_cons_zero, List.set_cons_succ, vagg]
        refine wpAnyH_ready (rs := [2]) (by kernel_rfl) (by simp) ?_
        refine AllReadyH.cons rfl (fun K9 hK => ?_) AllReadyH.nil
        have pf0 := HP1.out.frozen 0
        have pc0 : w1.cell? ⟨w.heap.size, 0, none⟩ = some (.int .i64 k) := HP1.out.cell 0
        have pf1 := HP1.out.frozen 1
        have pc1 : w1.cell? ⟨w.heap.size, 1, none⟩ = some (.string s) := HP1.out.cell 1
        have pf2 := HP1.out.frozen 2
        have pc2 : w1.cell? ⟨w.heap.size, 2, none⟩ = some (.slice ka kn kc) := HP1.out.cell 2
        have pf3 := HP1.out.frozen 3
        have pc3 : w1.cell? ⟨w.heap.size, 3, none⟩ = some (.slice la ln lc) := HP1.out.cell 3
        have pl := HP1.out.lt
        have qf0 := HQ1.out.frozen 0
        have qc0 : w1.cell? ⟨w.heap.size + 1, 0, none⟩ = some (.int .i64 k') := HQ1.out.cell 0
        have qf1 := HQ1.out.frozen 1
        have qc1 : w1.cell? ⟨w.heap.size + 1, 1, none⟩ = some (.string s') := HQ1.out.cell 1
        have qf2 := HQ1.out.frozen 2
        have qc2 : w1.cell? ⟨w.heap.size + 1, 2, none⟩ = some (.slice ka' kn' kc') := HQ1.out.cell 2
        have qf3 := HQ1.out.frozen 3
        have qc3 : w1.cell? ⟨w.heap.size + 1, 3, none⟩ = some (.slice la' ln' lc') := HQ1.out.cell 3
        have ql := HQ1.out.lt
        go_simp
        refine hK.out _ _ trivial (fun _ => ?_)
        clear hK K9
        clear pf0 pf1 pf2 pf3 pc0 pc1 pc2 pc3 qf0 qf1 qf2 qf3 qc0 qc1 qc2 qc3 pl ql
        try simp only [Act.put, List.setIfInBounds_toArray, List.set_cons_zero, List.set_cons_succ, vagg]
        refine wpAnyH_ready (rs := [3]) (by kernel_rfl) (by simp) ?_
        refine AllReadyH.cons rfl (fun K9 hK => ?_) AllReadyH.nil
        go_simp
        refine (HCY.out _).mono ?_
        rintro e w2 ⟨rfl, hB9⟩
        have HP2 := hide (HP1.out.below hB9)
        have HQ2 := hide (HQ1.out.below hB9)
        have HB2 := hide (HB1.out.trans (hB9.mono HB1.out.size))
        refine hK.out _ _ trivial (fun _ => ?_)
        clear hK K9 hB9
        try simp only [Act.put, List.setIfInBounds_toArray, List.set_cons_zero, List.set_cons_succ, vagg]
        refine wpAnyH_ready (rs := [4]) (by kernel_rfl) (by simp) ?_
        refine AllReadyH.cons rfl (fun K9 hK => ?_) AllReadyH.nil
        have pf0 := HP2.out.frozen 0
        have pc0 : w2.cell? ⟨w.heap.size, 0, none⟩ = some (.int .i64 k) := HP2.out.cell 0
        have pf1 := HP2.out.frozen 1
        have pc1 : w2.cell? ⟨w.heap.size, 1, none⟩ = some (.string s) := HP2.out.cell 1
        have pf2 := HP2.out.frozen 2
        have pc2 : w2.cell? ⟨w.heap.size, 2, none⟩ = some (.slice ka kn kc) := HP2.out.cell 2
        have pf3 := HP2.out.frozen 3
        have pc3 : w2.cell? ⟨w.heap.size, 3, none⟩ = some (.slice la ln lc) := HP2.out.cell 3
        have pl := HP2.out.lt
        have qf0 := HQ2.out.frozen 0
        have qc0 : w2.cell? ⟨w.heap.size + 1, 0, none⟩ = some (.int .i64 k') := HQ2.out.cell 0
        have qf1 := HQ2.out.frozen 1
        have qc1 : w2.cell? ⟨w.heap.size + 1, 1, none⟩ = some (.string s') := HQ2.out.cell 1
        have qf2 := HQ2.out.frozen 2
        have qc2 : w2.cell? ⟨w.heap.size + 1, 2, none⟩ = some (.slice ka' kn' kc') := HQ2.out.cell 2
        have qf3 := HQ2.out.frozen 3
        have qc3 : w2.cell? ⟨w.heap.size + 1, 3, none⟩ = some (.slice la' ln' lc') := HQ2.out.cell 3
        have ql := HQ2.out.lt
        go_simp
        have HP3 := hide (resJ_v HP2.out (.int .i64 k) (.string s1) (.slice a1 n1 c1) (.slice a2 n2 c2))
        have HQ3 := hide (box_off4 HQ2.out (show w.heap.size + 1 ≠ w.heap.size by omega) (.int .i64 k) (.string s1) (.slice a1 n1 c1) (.slice a2 n2 c2))
        have HB3 := hide (below4 HB2.out (Nat.le_refl _) (.int .i64 k) (.string s1) (.slice a1 n1 c1) (.slice a2 n2 c2))
        refine hK.out _ _ trivial (fun _ => ?_)
        clear hK K9
        try simp only [Act.put, List.setIfInBounds_toArray, List.set_cons_zero, List.set_cons_succ, vagg]
        generalize ((((w2.setCell ⟨w.heap.size, 0, none⟩ (.int .i64 k)).setCell ⟨w.heap.size, 1, none⟩ (.string s1)).setCell ⟨w.heap.size, 2, none⟩ (.slice a1 n1 c1)).setCell ⟨w.heap.size, 3, none⟩ (.slice a2 n2 c2)) = w3 at *
        clear pf0 pf1 pf2 pf3 pc0 pc1 pc2 pc3 qf0 qf1 qf2 qf3 qc0 qc1 qc2 qc3 pl ql
        refine wpAnyH_ready (rs := [5]) (by kernel_rfl) (by simp) ?_
        refine AllReadyH.cons rfl (fun K9 hK => ?_) AllReadyH.nil
        have pf0 := HP3.out.frozen 0
        have pc0 : w3.cell? ⟨w.heap.size, 0, none⟩ = some (.int .i64 k) := HP3.out.cell 0
        have pf1 := HP3.out.frozen 1
        have pc1 : w3.cell? ⟨w.heap.size, 1, none⟩ = some (.string s1) := HP3.out.cell 1
        have pf2 := HP3.out.frozen 2
        have pc2 : w3.cell? ⟨w.heap.size, 2, none⟩ = some (.slice a1 n1 c1) := HP3.out.cell 2
        have pf3 := HP3.out.frozen 3
        have pc3 : w3.cell? ⟨w.heap.size, 3, none⟩ = some (.slice a2 n2 c2) := HP3.out.cell 3
        have pl := HP3.out.lt
        have qf0 := HQ3.out.frozen 0
        have qc0 : w3.cell? ⟨w.heap.size + 1, 0, none⟩ = some (.int .i64 k') := HQ3.out.cell 0
        have qf1 := HQ3.out.frozen 1
        have qc1 : w3.cell? ⟨w.heap.size + 1, 1, none⟩ = some (.string s') := HQ3.out.cell 1
        have qf2 := HQ3.out.frozen 2
        have qc2 : w3.cell? ⟨w.heap.size + 1, 2, none⟩ = some (.slice ka' kn' kc') := HQ3.out.cell 2
        have qf3 := HQ3.out.frozen 3
        have qc3 : w3.cell? ⟨w.heap.size + 1, 3, none⟩ = some (.slice la' ln' lc') := HQ3.out.cell 3
        have ql := HQ3.out.lt
        go_simp
        have HQ4 := hide (resJ_v HQ3.out (.int .i64 k') (.string s1') (.slice a1' n1' c1') (.slice a2' n2' c2'))
        have HP4 := hide (box_off4 HP3.out (show w.heap.size ≠ w.heap.size + 1 by omega) (.int .i64 k') (.string s1') (.slice a1' n1' c1') (.slice a2' n2' c2'))
        have HB4 := hide (below4 HB3.out (Nat.le_succ _) (.int .i64 k') (.string s1') (.slice a1' n1' c1') (.slice a2' n2' c2'))
        refine hK.out _ _ trivial (fun _ => ?_)
        clear hK K9
        try simp only [Act.put, List.setIfInBounds_toArray, List.set_cons_zero, List.set_cons_succ, vagg]
        generalize ((((w3.setCell ⟨w.heap.size + 1, 0, none⟩ (.int .i64 k')).setCell ⟨w.heap.size + 1, 1, none⟩ (.string s1')).setCell ⟨w.heap.size + 1, 2, none⟩ (.slice a1' n1' c1')).setCell ⟨w.heap.size + 1, 3, none⟩ (.slice a2' n2' c2')) = w4 at *
        clear pf0 pf1 pf2 pf3 pc0 pc1 pc2 pc3 qf0 qf1 qf2 qf3 qc0 qc1 qc2 qc3 pl ql
        refine wpAnyH_done (by kernel_rfl) ?_ _
        have pf0 := HP4.out.frozen 0
        have pc0 : w4.cell? ⟨w.heap.size, 0, none⟩ = some (.int .i64 k) := HP4.out.cell 0
        have pf1 := HP4.out.frozen 1
        have pc1 : w4.cell? ⟨w.heap.size, 1, none⟩ = some (.string s1) := HP4.out.cell 1
        have pf2 := HP4.out.frozen 2
        have pc2 : w4.cell? ⟨w.heap.size, 2, none⟩ = some (.slice a1 n1 c1) := HP4.out.cell 2
        have pf3 := HP4.out.frozen 3
        have pc3 : w4.cell? ⟨w.heap.size, 3, none⟩ = some (.slice a2 n2 c2) := HP4.out.cell 3
        have pl := HP4.out.lt
        have qf0 := HQ4.out.frozen 0
        have qc0 : w4.cell? ⟨w.heap.size + 1, 0, none⟩ = some (.int .i64 k') := HQ4.out.cell 0
        have qf1 := HQ4.out.frozen 1
        have qc1 : w4.cell? ⟨w.heap.size + 1, 1, none⟩ = some (.string s1') := HQ4.out.cell 1
        have qf2 := HQ4.out.frozen 2
        have qc2 : w4.cell? ⟨w.heap.size + 1, 2, none⟩ = some (.slice a1' n1' c1') := HQ4.out.cell 2
        have qf3 := HQ4.out.frozen 3
        have qc3 : w4.cell? ⟨w.heap.size + 1, 3, none⟩ = some (.slice a2' n2' c2') := HQ4.out.cell 3
        have ql := HQ4.out.lt
        by_cases hk : k = k'
        rotate_left
        · have d1 : (k == k') = false := by simpa using hk
          have HKK := hide hk
          clear hk
          go_wp2
          go_ret
          refine ⟨?_, HB4.out⟩
          have hR : R = false := Bool.eq_false_iff.2 (fun h => HKK.out ((HEQ.out.1 h).1))
          rw [hR]
          rfl
        subst hk
        by_cases hs : s1 = s1'
        rotate_left
        · have d1 : (s1.toList == s1'.toList) = false := str_ne hs
          have HKK := hide hs
          clear hs
          go_wp2
          go_ret
          refine ⟨?_, HB4.out⟩
          have hR : R = false := Bool.eq_false_iff.2 (fun h => HKK.out ((HEQ.out.1 h).2.1))
          rw [hR]
          rfl
        subst hs
        have hse : (s1.toList == s1.toList) = true := by simp
        go_wp2_with fail
        refine (HSEQ.out w4 HB4.out).mono ?_
        rintro e w5 ⟨rfl, hb5⟩
        have HP5 := hide (HP4.out.below hb5)
        have HQ5 := hide (HQ4.out.below hb5)
        have HB5 := hide (HB4.out.trans (hb5.mono HB4.out.size))
        clear hb5
        clear pf0 pf1 pf2 pf3 pc0 pc1 pc2 pc3 qf0 qf1 qf2 qf3 qc0 qc1 qc2 qc3 pl ql
        have pf0 := HP5.out.frozen 0
        have pc0 : w5.cell? ⟨w.heap.size, 0, none⟩ = some (.int .i64 k) := HP5.out.cell 0
        have pf1 := HP5.out.frozen 1
        have pc1 : w5.cell? ⟨w.heap.size, 1, none⟩ = some (.string s1) := HP5.out.cell 1
        have pf2 := HP5.out.frozen 2
        have pc2 : w5.cell? ⟨w.heap.size, 2, none⟩ = some (.slice a1 n1 c1) := HP5.out.cell 2
        have pf3 := HP5.out.frozen 3
        have pc3 : w5.cell? ⟨w.heap.size, 3, none⟩ = some (.slice a2 n2 c2) := HP5.out.cell 3
        have pl := HP5.out.lt
        have qf0 := HQ5.out.frozen 0
        have qc0 : w5.cell? ⟨w.heap.size + 1, 0, none⟩ = some (.int .i64 k) := HQ5.out.cell 0
        have qf1 := HQ5.out.frozen 1
        have qc1 : w5.cell? ⟨w.heap.size + 1, 1, none⟩ = some (.string s1) := HQ5.out.cell 1
        have qf2 := HQ5.out.frozen 2
        have qc2 : w5.cell? ⟨w.heap.size + 1, 2, none⟩ = some (.slice a1' n1' c1') := HQ5.out.cell 2
        have qf3 := HQ5.out.frozen 3
        have qc3 : w5.cell? ⟨w.heap.size + 1, 3, none⟩ = some (.slice a2' n2' c2') := HQ5.out.cell 3
        have ql := HQ5.out.lt
        by_cases hKK : K1 = K1'
        rotate_left
        · rw [decide_eq_false hKK]
          have HKK := hide hKK
          clear hKK
          go_wp2
          go_ret
          refine ⟨?_, HB5.out⟩
          have hR : R = false := Bool.eq_false_iff.2 (fun h => HKK.out ((HEQ.out.1 h).2.2.1))
          rw [hR]
          rfl
        rw [decide_eq_true hKK]
        have HKK := hide hKK
        clear hKK
        go_wp2_with fail
        refine (HEFN.out w5 HB5.out).mono ?_
        rintro e w6 ⟨r, rfl, hr, hb6⟩
        have HB6 := hide (HB5.out.trans (hb6.mono HB5.out.size))
        have HRR := hide hr
        clear hb6 hr
        clear pf0 pf1 pf2 pf3 pc0 pc1 pc2 pc3 qf0 qf1 qf2 qf3 qc0 qc1 qc2 qc3 pl ql
        go_wp2
        go_ret
        refine ⟨?_, HB6.out⟩
        have hR : R = r := Bool.eq_iff_iff.2 ⟨fun h => HRR.out.2 (HEQ.out.1 h).2.2.2, fun h => HEQ.out.2 ⟨trivial, trivial, HKK.out, HRR.out.1 h⟩⟩
        rw [hR]
        rfl
      · have pf0 := HPD.out.frozen 0
        have pc0 : wd.cell? ⟨w.heap.size, 0, none⟩ = some (.int .i64 k) := HPD.out.cell 0
        have pf1 := HPD.out.frozen 1
        have pc1 : wd.cell? ⟨w.heap.size, 1, none⟩ = some (.string s) := HPD.out.cell 1
        have pf2 := HPD.out.frozen 2
        have pc2 : wd.cell? ⟨w.heap.size, 2, none⟩ = some (.slice ka kn kc) := HPD.out.cell 2
        have pf3 := HPD.out.frozen 3
        have pc3 : wd.cell? ⟨w.heap.size, 3, none⟩ = some (.slice la ln lc) := HPD.out.cell 3
        have pl := HPD.out.lt
        have qf0 := HQD.out.frozen 0
        have qc0 : wd.cell? ⟨w.heap.size + 1, 0, none⟩ = some (.int .i64 k') := HQD.out.cell 0
        have qf1 := HQD.out.frozen 1
        have qc1 : wd.cell? ⟨w.heap.size + 1, 1, none⟩ = some (.string s') := HQD.out.cell 1
        have qf2 := HQD.out.frozen 2
        have qc2 : wd.cell? ⟨w.heap.size + 1, 2, none⟩ = some (.slice ka' kn' kc') := HQD.out.cell 2
        have qf3 := HQD.out.frozen 3
        have qc3 : wd.cell? ⟨w.heap.size + 1, 3, none⟩ = some (.slice la' ln' lc') := HQD.out.cell 3
        have ql := HQD.out.lt
        go_simp
        refine hK.out _ _ trivial (fun _ => ?_)
        clear hK K9
        clear pf0 pf1 pf2 pf3 pc0 pc1 pc2 pc3 qf0 qf1 qf2 qf3 qc0 qc1 qc2 qc3 pl ql
        try simp only [Act.put, List.setIfInBounds_toArray, List.set_cons_zero, List.set_cons_succ, vagg]
        refine wpAnyH_ready (rs := [1]) (by kernel_rfl) (by simp) ?_
        refine AllReadyH.cons rfl (fun K9 hK => ?_) AllReadyH.nil
        go_simp
        refine (HCX.out _).mono ?_
        rintro e w1 ⟨rfl, hB9⟩
        have HP1 := hide (HPD.out.below hB9)
        have HQ1 := hide (HQD.out.below hB9)
        have HB1 := hide (HBD.out.trans (hB9.mono HBD.out.size))
        refine hK.out _ _ trivial (fun _ => ?_)
        clear hK K9 hB9
        try simp only [Act.put, List.setIfInBounds_toArray, List.set_cons_zero, List.set_cons_succ, vagg]
        refine wpAnyH_ready (rs := [3]) (by kernel_rfl) (by simp) ?_
        refine AllReadyH.cons rfl (fun K9 hK => ?_) AllReadyH.nil
        go_simp
        refine (HCY.out _).mono ?_
        rintro e w2 ⟨rfl, hB9⟩
        have HP2 := hide (HP1.out.below hB9)
        have HQ2 := hide (HQ1.out.below hB9)
        have HB2 := hide (HB1.out.trans (hB9.mono HB1.out.size))
        refine hK.out _ _ trivial (fun _ => ?_)
        clear hK K9 hB9
        try simp only [Act.put, List.setIfInBounds_toArray, List.set_cons_zero, List.set_cons_succ, vagg]
        refine wpAnyH_ready (rs := [4]) (by kernel_rfl) (by simp) ?_
        refine AllReadyH.cons rfl (fun K9 hK => ?_) AllReadyH.nil
        have pf0 := HP2.out.frozen 0
        have pc0 : w2.cell? ⟨w.heap.size, 0, none⟩ = some (.int .i64 k) := HP2.out.cell 0
        have pf1 := HP2.out.frozen 1
        have pc1 : w2.cell? ⟨w.heap.size, 1, none⟩ = some (.string s) := HP2.out.cell 1
        have pf2 := HP2.out.frozen 2
        have pc2 : w2.cell? ⟨w.heap.size, 2, none⟩ = some (.slice ka kn kc) := HP2.out.cell 2
        have pf3 := HP2.out.frozen 3
        have pc3 : w2.cell? ⟨w.heap.size, 3, none⟩ = some (.slice la ln lc) := HP2.out.cell 3
        have pl := HP2.out.lt
        have qf0 := HQ2.out.frozen 0
        have qc0 : w2.cell? ⟨w.heap.size + 1, 0, none⟩ = some (.int .i64 k') := HQ2.out.cell 0
        have qf1 := HQ2.out.frozen 1
        have qc1 : w2.cell? ⟨w.heap.size + 1, 1, none⟩ = some (.string s') := HQ2.out.cell 1
        have qf2 := HQ2.out.frozen 2
        have qc2 : w2.cell? ⟨w.heap.size + 1, 2, none⟩ = some (.slice ka' kn' kc') := HQ2.out.cell 2
        have qf3 := HQ2.out.frozen 3
        have qc3 : w2.cell? ⟨w.heap.size + 1, 3, none⟩ = some (.slice la' ln' lc') := HQ2.out.cell 3
        have ql := HQ2.out.lt
        go_simp
        have HP3 := hide (resJ_v HP2.out (.int .i64 k) (.string s1) (.slice a1 n1 c1) (.slice a2 n2 c2))
        have HQ3 := hide (box_off4 HQ2.out (show w.heap.size + 1 ≠ w.heap.size by omega) (.int .i64 k) (.string s1) (.slice a1 n1 c1) (.slice a2 n2 c2))
        have HB3 := hide (below4 HB2.out (Nat.le_refl _) (.int .i64 k) (.string s1) (.slice a1 n1 c1) (.slice a2 n2 c2))
        refine hK.out _ _ trivial (fun _ => ?_)
        clear hK K9
        try simp only [Act.put, List.setIfInBounds_toArray, List.set_cons_zero, List.set_cons_succ, vagg]
        generalize ((((w2.setCell ⟨w.heap.size, 0, none⟩ (.int .i64 k)).setCell ⟨w.heap.size, 1, none⟩ (.string s1)).setCell ⟨w.heap.size, 2, none⟩ (.slice a1 n1 c1)).setCell ⟨w.heap.size, 3, none⟩ (.slice a2 n2 c2)) = w3 at *
        clear pf0 pf1 pf2 pf3 pc0 pc1 pc2 pc3 qf0 qf1 qf2 qf3 qc0 qc1 qc2 qc3 pl ql
        refine wpAnyH_ready (rs := [5]) (by kernel_rfl) (by simp) ?_
        refine AllReadyH.cons rfl (fun K9 hK => ?_) AllReadyH.nil
        have pf0 := HP3.out.frozen 0
        have pc0 : w3.cell? ⟨w.heap.size, 0, none⟩ = some (.int .i64 k) := HP3.out.cell 0
        have pf1 := HP3.out.frozen 1
        have pc1 : w3.cell? ⟨w.heap.size, 1, none⟩ = some (.string s1) := HP3.out.cell 1
        have pf2 := HP3.out.frozen 2
        have pc2 : w3.cell? ⟨w.heap.size, 2, none⟩ = some (.slice a1 n1 c1) := HP3.out.cell 2
        have pf3 := HP3.out.frozen 3
        have pc3 : w3.cell? ⟨w.heap.size, 3, none⟩ = some (.slice a2 n2 c2) := HP3.out.cell 3
        have pl := HP3.out.lt
        have qf0 := HQ3.out.frozen 0
        have qc0 : w3.cell? ⟨w.heap.size + 1, 0, none⟩ = some (.int .i64 k') := HQ3.out.cell 0
        have qf1 := HQ3.out.frozen 1
        have qc1 : w3.cell? ⟨w.heap.size + 1, 1, none⟩ = some (.string s') := HQ3.out.cell 1
        have qf2 := HQ3.out.frozen 2
        have qc2 : w3.cell? ⟨w.heap.size + 1, 2, none⟩ = some (.slice ka' kn' kc') := HQ3.out.cell 2
        have qf3 := HQ3.out.frozen 3
        have qc3 : w3.cell? ⟨w.heap.size + 1, 3, none⟩ = some (.slice la' ln' lc') := HQ3.out.cell 3
        have ql := HQ3.out.lt
        go_simp
        have HQ4 := hide (resJ_v HQ3.out (.int .i64 k') (.string s1') (.slice a1' n1' c1') (.slice a2' n2' c2'))
        have HP4 := hide (box_off4 HP3.out (show w.heap.size ≠ w.heap.size + 1 by omega) (.int .i64 k') (.string s1') (.slice a1' n1' c1') (.slice a2' n2' c2'))
        have HB4 := hide (below4 HB3.out (Nat.le_succ _) (.int .i64 k') (.string s1') (.slice a1' n1' c1') (.slice a2' n2' c2'))
        refine hK.out _ _ trivial (fun _ => ?_)
        clear hK K9
        try simp only [Act.put, List.setIfInBounds_toArray, List.set_cons_zero, List.set_cons_succ, vagg]
        generalize ((((w3.setCell ⟨w.heap.size + 1, 0, none⟩ (.int .i64 k')).setCell ⟨w.heap.size + 1, 1, none⟩ (.string s1')).setCell ⟨w.heap.size + 1, 2, none⟩ (.slice a1' n1' c1')).setCell ⟨w.heap.size + 1, 3, none⟩ (.slice a2' n2' c2')) = w4 at *
        clear pf0 pf1 pf2 pf3 pc0 pc1 pc2 pc3 qf0 qf1 qf2 qf3 qc0 qc1 qc2 qc3 pl ql
        refine wpAnyH_done (by kernel_rfl) ?_ _
        have pf0 := HP4.out.frozen 0
        have pc0 : w4.cell? ⟨w.heap.size, 0, none⟩ = some (.int .i64 k) := HP4.out.cell 0
        have pf1 := HP4.out.frozen 1
        have pc1 : w4.cell? ⟨w.heap.size, 1, none⟩ = some (.string s1) := HP4.out.cell 1
        have pf2 := HP4.out.frozen 2
        have pc2 : w4.cell? ⟨w.heap.size, 2, none⟩ = some (.slice a1 n1 c1) := HP4.out.cell 2
        have pf3 := HP4.out.frozen 3
        have pc3 : w4.cell? ⟨w.heap.size, 3, none⟩ = some (.slice a2 n2 c2) := HP4.out.cell 3
        have pl := HP4.out.lt
        have qf0 := HQ4.out.frozen 0
        have qc0 : w4.cell? ⟨w.heap.size + 1, 0, none⟩ = some (.int .i64 k') := HQ4.out.cell 0
        have qf1 := HQ4.out.frozen 1
        have qc1 : w4.cell? ⟨w.heap.size + 1, 1, none⟩ = some (.string s1') := HQ4.out.cell 1
        have qf2 := HQ4.out.frozen 2
        have qc2 : w4.cell? ⟨w.heap.size + 1, 2, none⟩ = some (.slice a1' n1' c1') := HQ4.out.cell 2
        have qf3 := HQ4.out.frozen 3
        have qc3 : w4.cell? ⟨w.heap.size + 1, 3, none⟩ = some (.slice a2' n2' c2') := HQ4.out.cell 3
        have ql := HQ4.out.lt
        by_cases hk : k = k'
        rotate_left
        · have d1 : (k == k') = false := by simpa using hk
          have HKK := hide hk
          clear hk
          go_wp2
          go_ret
          refine ⟨?_, HB4.out⟩
          have hR : R = false := Bool.eq_false_iff.2 (fun h => HKK.out ((HEQ.out.1 h).1))
          rw [hR]
          rfl
        subst hk
        by_cases hs : s1 = s1'
        rotate_left
        · have d1 : (s1.toList == s1'.toList) = false := str_ne hs
          have HKK := hide hs
          clear hs
          go_wp2
          go_ret
          refine ⟨?_, HB4.out⟩
          have hR : R = false := Bool.eq_false_iff.2 (fun h => HKK.out ((HEQ.out.1 h).2.1))
          rw [hR]
          rfl
        subst hs
        have hse : (s1.toList == s1.toList) = true := by simp
        go_wp2_with fail
        refine (HSEQ.out w4 HB4.out).mono ?_
        rintro e w5 ⟨rfl, hb5⟩
        have HP5 := hide (HP4.out.below hb5)
        have HQ5 := hide (HQ4.out.below hb5)
        have HB5 := hide (HB4.out.trans (hb5.mono HB4.out.size))
        clear hb5
        clear pf0 pf1 pf2 pf3 pc0 pc1 pc2 pc3 qf0 qf1 qf2 qf3 qc0 qc1 qc2 qc3 pl ql
        have pf0 := HP5.out.frozen 0
        have pc0 : w5.cell? ⟨w.heap.size, 0, none⟩ = some (.int .i64 k) := HP5.out.cell 0
        have pf1 := HP5.out.frozen 1
        have pc1 : w5.cell? ⟨w.heap.size, 1, none⟩ = some (.string s1) := HP5.out.cell 1
        have pf2 := HP5.out.frozen 2
        have pc2 : w5.cell? ⟨w.heap.size, 2, none⟩ = some (.slice a1 n1 c1) := HP5.out.cell 2
        have pf3 := HP5.out.frozen 3
        have pc3 : w5.cell? ⟨w.heap.size, 3, none⟩ = some (.slice a2 n2 c2) := HP5.out.cell 3
        have pl := HP5.out.lt
        have qf0 := HQ5.out.frozen 0
        have qc0 : w5.cell? ⟨w.heap.size + 1, 0, none⟩ = some (.int .i64 k) := HQ5.out.cell 0
        have qf1 := HQ5.out.frozen 1
        have qc1 : w5.cell? ⟨w.heap.size + 1, 1, none⟩ = some (.string s1) := HQ5.out.cell 1
        have qf2 := HQ5.out.frozen 2
        have qc2 : w5.cell? ⟨w.heap.size + 1, 2, none⟩ = some (.slice a1' n1' c1') := HQ5.out.cell 2
        have qf3 := HQ5.out.frozen 3
        have qc3 : w5.cell? ⟨w.heap.size + 1, 3, none⟩ = some (.slice a2' n2' c2') := HQ5.out.cell 3
        have ql := HQ5.out.lt
        by_cases hKK : K1 = K1'
        rotate_left
        · rw [decide_eq_false hKK]
          have HKK := hide hKK
          clear hKK
          go_wp2
          go_ret
          refine ⟨?_, HB5.out⟩
          have hR : R = false := Bool.eq_false_iff.2 (fun h => HKK.out ((HEQ.out.1 h).2.2.1))
          rw [hR]
          rfl
        rw [decide_eq_true hKK]
        have HKK := hide hKK
        clear hKK
        go_wp2_with fail
        refine (HEFN.out w5 HB5.out).mono ?_
        rintro e w6 ⟨r, rfl, hr, hb6⟩
        have HB6 := hide (HB5.out.trans (hb6.mono HB5.out.size))
        have HRR := hide hr
        clear hb6 hr
        clear pf0 pf1 pf2 pf3 pc0 pc1 pc2 pc3 qf0 qf1 qf2 qf3 qc0 qc1 qc2 qc3 pl ql
        go_wp2
        go_ret
        refine ⟨?_, HB6.out⟩
        have hR : R = r := Bool.eq_iff_iff.2 ⟨fun h => HRR.out.2 (HEQ.out.1 h).2.2.2, fun h => HEQ.out.2 ⟨trivial, trivial, HKK.out, HRR.out.1 h⟩⟩
        rw [hR]
        rfl
    · have pf0 := HPD.out.frozen 0
      have pc0 : wd.cell? ⟨w.heap.size, 0, none⟩ = some (.int .i64 k) := HPD.out.cell 0
      have pf1 := HPD.out.frozen 1
      have pc1 : wd.cell? ⟨w.heap.size, 1, none⟩ = some (.string s) := HPD.out.cell 1
      have pf2 := HPD.out.frozen 2
      have pc2 : wd.cell? ⟨w.heap.size, 2, none⟩ = some (.slice ka kn kc) := HPD.out.cell 2
      have pf3 := HPD.out.frozen 3
      have pc3 : wd.cell? ⟨w.heap.size, 3, none⟩ = some (.slice la ln lc) := HPD.out.cell 3
      have pl := HPD.out.lt
      have qf0 := HQD.out.frozen 0
      have qc0 : wd.cell? ⟨w.heap.size + 1, 0, none⟩ = some (.int .i64 k') := HQD.out.cell 0
      have qf1 := HQD.out.frozen 1
      have qc1 : wd.cell? ⟨w.heap.size + 1, 1, none⟩ = some (.string s') := HQD.out.cell 1
      have qf2 := HQD.out.frozen 2
      have qc2 : wd.cell? ⟨w.heap.size + 1, 2, none⟩ = some (.slice ka' kn' kc') := HQD.out.cell 2
      have qf3 := HQD.out.frozen 3
      have qc3 : wd.cell? ⟨w.heap.size + 1, 3, none⟩ = some (.slice la' ln' lc') := HQD.out.cell 3
      have ql := HQD.out.lt
      go_simp
      refine hK.out _ _ trivial (fun _ => ?_)
      clear hK K9
      clear pf0 pf1 pf2 pf3 pc0 pc1 pc2 pc3 qf0 qf1 qf2 qf3 qc0 qc1 qc2 qc3 pl ql
      try simp only [Act.put, List.setIfInBounds_toArray, List.set_cons_zero, List.set_cons_succ, vagg]
      refine wpAnyH_ready (rs := [0]) (by kernel_rfl) (by simp) ?_
      refine AllReadyH.cons rfl (fun K9 hK => ?_) AllReadyH.nil
      have pf0 := HPD.out.frozen 0
      have pc0 : wd.cell? ⟨w.heap.size, 0, none⟩ = some (.int .i64 k) := HPD.out.cell 0
      have pf1 := HPD.out.frozen 1
      have pc1 : wd.cell? ⟨w.heap.size, 1, none⟩ = some (.string s) := HPD.out.cell 1
      have pf2 := HPD.out.frozen 2
      have pc2 : wd.cell? ⟨w.heap.size, 2, none⟩ = some (.slice ka kn kc) := HPD.out.cell 2
      have pf3 := HPD.out.frozen 3
      have pc3 : wd.cell? ⟨w.heap.size, 3, none⟩ = some (.slice la ln lc) := HPD.out.cell 3
      have pl := HPD.out.lt
      have qf0 := HQD.out.frozen 0
      have qc0 : wd.cell? ⟨w.heap.size + 1, 0, none⟩ = some (.int .i64 k') := HQD.out.cell 0
      have qf1 := HQD.out.frozen 1
      have qc1 : wd.cell? ⟨w.heap.size + 1, 1, none⟩ = some (.string s') := HQD.out.cell 1
      have qf2 := HQD.out.frozen 2
      have qc2 : wd.cell? ⟨w.heap.size + 1, 2, none⟩ = some (.slice ka' kn' kc') := HQD.out.cell 2
      have qf3 := HQD.out.frozen 3
      have qc3 : wd.cell? ⟨w.heap.size + 1, 3, none⟩ = some (.slice la' ln' lc') := HQD.out.cell 3
      have ql := HQD.out.lt
      go_simp
      refine hK.out _ _ trivial (fun _ => ?_)
      clear hK K9
      clear pf0 pf1 pf2 pf3 pc0 pc1 pc2 pc3 qf0 qf1 qf2 qf3 qc0 qc1 qc2 qc3 pl ql
      try simp only [Act.put, List.setIfInBounds_toArray, List.set_cons_zero, List.set_cons_succ, vagg]
      refine wpAnyH_ready (rs := [1]) (by kernel_rfl) (by simp) ?_
      refine AllReadyH.cons rfl (fun K9 hK => ?_) AllReadyH.nil
      go_simp
      refine (HCX.out _).mono ?_
      rintro e w1 ⟨rfl, hB9⟩
      have HP1 := hide (HPD.out.below hB9)
      have HQ1 := hide (HQD.out.below hB9)
      have HB1 := hide (HBD.out.trans (hB9.mono HBD.out.size))
      refine hK.out _ _ trivial (fun _ => ?_)
      clear hK K9 hB9
      try simp only [Act.put, List.setIfInBounds_toArray, List.set_cons_zero, List.set_cons_succ, vagg]
      refine wpAnyH_ready (rs := [3]) (by kernel_rfl) (by simp) ?_
      refine AllReadyH.cons rfl (fun K9 hK => ?_) AllReadyH.nil
      go_simp
      refine (HCY.out _).mono ?_
      rintro e w2 ⟨rfl, hB9⟩
      have HP2 := hide (HP1.out.below hB9)
      have HQ2 := hide (HQ1.out.below hB9)
      have HB2 := hide (HB1.out.trans (hB9.mono HB1.out.size))
      refine hK.out _ _ trivial (fun _ => ?_)
      clear hK K9 hB9
      try simp only [Act.put, List.setIfInBounds_toArray, List.set_cons_zero, List.set_cons_succ, vagg]
      refine wpAnyH_ready (rs := [4]) (by kernel_rfl) (by simp) ?_
      refine AllReadyH.cons rfl (fun K9 hK => ?_) AllReadyH.nil
      have pf0 := HP2.out.frozen 0
      have pc0 : w2.cell? ⟨w.heap.size, 0, none⟩ = some (.int .i64 k) := HP2.out.cell 0
      have pf1 := HP2.out.frozen 1
      have pc1 : w2.cell? ⟨w.heap.size, 1, none⟩ = some (.string s) := HP2.out.cell 1
      have pf2 := HP2.out.frozen 2
      have pc2 : w2.cell? ⟨w.heap.size, 2, none⟩ = some (.slice ka kn kc) := HP2.out.cell 2
      have pf3 := HP2.out.frozen 3
      have pc3 : w2.cell? ⟨w.heap.size, 3, none⟩ = some (.slice la ln lc) := HP2.out.cell 3
      have pl := HP2.out.lt
      have qf0 := HQ2.out.frozen 0
      have qc0 : w2.cell? ⟨w.heap.size + 1, 0, none⟩ = some (.int .i64 k') := HQ2.out.cell 0
      have qf1 := HQ2.out.frozen 1
      have qc1 : w2.cell? ⟨w.heap.size + 1, 1, none⟩ = some (.string s') := HQ2.out.cell 1
      have qf2 := HQ2.out.frozen 2
      have qc2 : w2.cell? ⟨w.heap.size + 1, 2, none⟩ = some (.slice ka' kn' kc') := HQ2.out.cell 2
      have qf3 := HQ2.out.frozen 3
      have qc3 : w2.cell? ⟨w.heap.size + 1, 3, none⟩ = some (.slice la' ln' lc') := HQ2.out.cell 3
      have ql := HQ2.out.lt
      go_simp
      have HP3 := hide (resJ_v HP2.out (.int .i64 k) (.string s1) (.slice a1 n1 c1) (.slice a2 n2 c2))
      have HQ3 := hide (box_off4 HQ2.out (show w.heap.size + 1 ≠ w.heap.size by omega) (.int .i64 k) (.string s1) (.slice a1 n1 c1) (.slice a2 n2 c2))
      have HB3 := hide (below4 HB2.out (Nat.le_refl _) (.int .i64 k) (.string s1) (.slice a1 n1 c1) (.slice a2 n2 c2))
      refine hK.out _ _ trivial (fun _ => ?_)
      clear hK K9
      try simp only [Act.put, List.setIfInBounds_toArray, List.set_cons_zero, List.set_cons_succ, vagg]
      generalize ((((w2.setCell ⟨w.heap.size, 0, none⟩ (.int .i64 k)).setCell ⟨w.heap.size, 1, none⟩ (.string s1)).setCell ⟨w.heap.size, 2, none⟩ (.slice a1 n1 c1)).setCell ⟨w.heap.size, 3, none⟩ (.slice a2 n2 c2)) = w3 at *
      clear pf0 pf1 pf2 pf3 pc0 pc1 pc2 pc3 qf0 qf1 qf2 qf3 qc0 qc1 qc2 qc3 pl ql
      refine wpAnyH_ready (rs := [5]) (by kernel_rfl) (by simp) ?_
      refine AllReadyH.cons rfl (fun K9 hK => ?_) AllReadyH.nil
      have pf0 := HP3.out.frozen 0
      have pc0 : w3.cell? ⟨w.heap.size, 0, none⟩ = some (.int .i64 k) := HP3.out.cell 0
      have pf1 := HP3.out.frozen 1
      have pc1 : w3.cell? ⟨w.heap.size, 1, none⟩ = some (.string s1) := HP3.out.cell 1
      have pf2 := HP3.out.frozen 2
      have pc2 : w3.cell? ⟨w.heap.size, 2, none⟩ = some (.slice a1 n1 c1) := HP3.out.cell 2
      have pf3 := HP3.out.frozen 3
      have pc3 : w3.cell? ⟨w.heap.size, 3, none⟩ = some (.slice a2 n2 c2) := HP3.out.cell 3
      have pl := HP3.out.lt
      have qf0 := HQ3.out.frozen 0
      have qc0 : w3.cell? ⟨w.heap.size + 1, 0, none⟩ = some (.int .i64 k') := HQ3.out.cell 0
      have qf1 := HQ3.out.frozen 1
      have qc1 : w3.cell? ⟨w.heap.size + 1, 1, none⟩ = some (.string s') := HQ3.out.cell 1
      have qf2 := HQ3.out.frozen 2
      have qc2 : w3.cell? ⟨w.heap.size + 1, 2, none⟩ = some (.slice ka' kn' kc') := HQ3.out.cell 2
      have qf3 := HQ3.out.frozen 3
      have qc3 : w3.cell? ⟨w.heap.size + 1, 3, none⟩ = some (.slice la' ln' lc') := HQ3.out.cell 3
      have ql := HQ3.out.lt
      go_simp
      have HQ4 := hide (resJ_v HQ3.out (.int .i64 k') (.string s1') (.slice a1' n1' c1') (.slice a2' n2' c2'))
      have HP4 := hide (box_off4 HP3.out (show w.heap.size ≠ w.heap.size + 1 by omega) (.int .i64 k') (.string s1') (.slice a1' n1' c1') (.slice a2' n2' c2'))
      have HB4 := hide (below4 HB3.out (Nat.le_succ _) (.int .i64 k') (.string s1') (.slice a1' n1' c1') (.slice a2' n2' c2'))
      refine hK.out _ _ trivial (fun _ => ?_)
      clear hK K9
      try simp only [Act.put, List.setIfInBounds_toArray, List.set_cons_zero, List.set_cons_succ, vagg]
      generalize ((((w3.setCell ⟨w.heap.size + 1, 0, none⟩ (.int .i64 k')).setCell ⟨w.heap.size + 1, 1, none⟩ (.string s1')).setCell ⟨w.heap.size + 1, 2, none⟩ (.slice a1' n1' c1')).setCell ⟨w.heap.size + 1, 3, none⟩ (.slice a2' n2' c2')) = w4 at *
      clear pf0 pf1 pf2 pf3 pc0 pc1 pc2 pc3 qf0 qf1 qf2 qf3 qc0 qc1 qc2 qc3 pl ql
      refine wpAnyH_done (by kernel_rfl) ?_ _
      have pf0 := HP4.out.frozen 0
      have pc0 : w4.cell? ⟨w.heap.size, 0, none⟩ = some (.int .i64 k) := HP4.out.cell 0
      have pf1 := HP4.out.frozen 1
      have pc1 : w4.cell? ⟨w.heap.size, 1, none⟩ = some (.string s1) := HP4.out.cell 1
      have pf2 := HP4.out.frozen 2
      have pc2 : w4.cell? ⟨w.heap.size, 2, none⟩ = some (.slice a1 n1 c1) := HP4.out.cell 2
      have pf3 := HP4.out.frozen 3
      have pc3 : w4.cell? ⟨w.heap.size, 3, none⟩ = some (.slice a2 n2 c2) := HP4.out.cell 3
      have pl := HP4.out.lt
      have qf0 := HQ4.out.frozen 0
      have qc0 : w4.cell? ⟨w.heap.size + 1, 0, none⟩ = some (.int .i64 k') := HQ4.out.cell 0
      have qf1 := HQ4.out.frozen 1
      have qc1 : w4.cell? ⟨w.heap.size + 1, 1, none⟩ = some (.string s1') := HQ4.out.cell 1
      have qf2 := HQ4.out.frozen 2
      have qc2 : w4.cell? ⟨w.heap.size + 1, 2, none⟩ = some (.slice a1' n1' c1') := HQ4.out.cell 2
      have qf3 := HQ4.out.frozen 3
      have qc3 : w4.cell? ⟨w.heap.size + 1, 3, none⟩ = some (.slice a2' n2' c2') := HQ4.out.cell 3
      have ql := HQ4.out.lt
      by_cases hk : k = k'
      rotate_left
      · have d1 : (k == k') = false := by simpa using hk
        have HKK := hide hk
        clear hk
        go_wp2
        go_ret
        refine ⟨?_, HB4.out⟩
        have hR : R = false := Bool.eq_false_iff.2 (fun h => HKK.out ((HEQ.out.1 h).1))
        rw [hR]
        rfl
      subst hk
      by_cases hs : s1 = s1'
      rotate_left
      · have d1 : (s1.toList == s1'.toList) = false := str_ne hs
        have HKK := hide hs
        clear hs
        go_wp2
        go_ret
        refine ⟨?_, HB4.out⟩
        have hR : R = false := Bool.eq_false_iff.2 (fun h => HKK.out ((HEQ.out.1 h).2.1))
        rw [hR]
        rfl
      subst hs
      have hse : (s1.toList == s1.toList) = true := by simp
      go_wp2_with fail
      refine (HSEQ.out w4 HB4.out).mono ?_
      rintro e w5 ⟨rfl, hb5⟩
      have HP5 := hide (HP4.out.below hb5)
      have HQ5 := hide (HQ4.out.below hb5)
      have HB5 := hide (HB4.out.trans (hb5.mono HB4.out.size))
      clear hb5
      clear pf0 pf1 pf2 pf3 pc0 pc1 pc2 pc3 qf0 qf1 qf2 qf3 qc0 qc1 qc2 qc3 pl ql
      have pf0 := HP5.out.frozen 0
      have pc0 : w5.cell? ⟨w.heap.size, 0, none⟩ = some (.int .i64 k) := HP5.out.cell 0
      have pf1 := HP5.out.frozen 1
      have pc1 : w5.cell? ⟨w.heap.size, 1, none⟩ = some (.string s1) := HP5.out.cell 1
      have pf2 := HP5.out.frozen 2
      have pc2 : w5.cell? ⟨w.heap.size, 2, none⟩ = some (.slice a1 n1 c1) := HP5.out.cell 2
      have pf3 := HP5.out.frozen 3
      have pc3 : w5.cell? ⟨w.heap.size, 3, none⟩ = some (.slice a2 n2 c2) := HP5.out.cell 3
      have pl := HP5.out.lt
      have qf0 := HQ5.out.frozen 0
      have qc0 : w5.cell? ⟨w.heap.size + 1, 0, none⟩ = some (.int .i64 k) := HQ5.out.cell 0
      have qf1 := HQ5.out.frozen 1
      have qc1 : w5.cell? ⟨w.heap.size + 1, 1, none⟩ = some (.string s1) := HQ5.out.cell 1
      have qf2 := HQ5.out.frozen 2
      have qc2 : w5.cell? ⟨w.heap.size + 1, 2, none⟩ = some (.slice a1' n1' c1') := HQ5.out.cell 2
      have qf3 := HQ5.out.frozen 3
      have qc3 : w5.cell? ⟨w.heap.size + 1, 3, none⟩ = some (.slice a2' n2' c2') := HQ5.out.cell 3
      have ql := HQ5.out.lt
      by_cases hKK : K1 = K1'
      rotate_left
      · rw [decide_eq_false hKK]
        have HKK := hide hKK
        clear hKK
        go_wp2
        go_ret
        refine ⟨?_, HB5.out⟩
        have hR : R = false := Bool.eq_false_iff.2 (fun h => HKK.out ((HEQ.out.1 h).2.2.1))
        rw [hR]
        rfl
      rw [decide_eq_true hKK]
      have HKK := hide hKK
      clear hKK
      go_wp2_with fail
      refine (HEFN.out w5 HB5.out).mono ?_
      rintro e w6 ⟨r, rfl, hr, hb6⟩
      have HB6 := hide (HB5.out.trans (hb6.mono HB5.out.size))
      have HRR := hide hr
      clear hb6 hr
      clear pf0 pf1 pf2 pf3 pc0 pc1 pc2 pc3 qf0 qf1 qf2 qf3 qc0 qc1 qc2 qc3 pl ql
      go_wp2
      go_ret
      refine ⟨?_, HB6.out⟩
      have hR : R = r := Bool.eq_iff_iff.2 ⟨fun h => HRR.out.2 (HEQ.out.1 h).2.2.2, fun h => HEQ.out.2 ⟨trivial, trivial, HKK.out, HRR.out.1 h⟩⟩
      rw [hR]
      rfl

end Go.Proofs.YtkobgfibkoamjaaDoor
