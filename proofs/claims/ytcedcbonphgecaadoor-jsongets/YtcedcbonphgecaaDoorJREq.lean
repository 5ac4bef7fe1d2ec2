/- Json: the reference's Equal over trees. -/
import Derived.Test.YtcedcbonphgecaaDoorJREq0
namespace Go.Proofs.YtcedcbonphgecaaDoor
set_option linter.unusedVariables false
set_option linter.unusedSimpArgs false
set_option maxRecDepth 100000
open Go Go.RowKit Go.Shelf Go.Lib

def REqR (w : World) (T T' : JT) (e : Ending) (w' : World) : Prop := e = .returned (.bool (eqJ T T')) ∧ Below w.heap.size w w'

theorem str_ne {s u : ByteArray} (h : s ≠ u) : (s.toList == u.toList) = false := by
  have h1 : s.data ≠ u.data := fun e => h (by cases s; cases u; simpa using e)
  rw [toList_data, toList_data]
  simpa using h1

set_option maxHeartbeats 16000000 in
theorem requal_any {W : World} {S : Nat → Prop} {x : JC} {T : JT} (h : TIn W S x T) (hl : LtT T) : ∀ {S' : Nat → Prop} {y : JC} {T' : JT}, TIn W S' y T' → LtT T' → ∀ (w : World), Below W.heap.size W w → Calls Tryd.prog 12 #[vagg x, vagg y] w (REqR w T T') := by
  induction h with
  | mk k s kv la lc K L xs hK hc hsl ht ih =>
    intro S' y T' hy hl' w hW
    cases hy with
    | mk k' s' kv' la' lc' K' L' ys hK' hc' hsl' ht' =>
    obtain ⟨_, _, _, _, hKl, hLl, hsz, hll⟩ := hl
    obtain ⟨_, _, _, _, hKl', hLl', hsz', hll'⟩ := hl'
    obtain ⟨ka, kc, rfl, hKc⟩ := hK
    obtain ⟨ka', kc', rfl, hKc'⟩ := hK'
    unfold vagg
    simp only
    have hb1 : Below w.heap.size w ((w.alloc (.cells #[.int .i64 k, .string s, .slice ka K.length kc, .slice la L.length lc] 33)).alloc (.cells #[.int .i64 k', .string s', .slice ka' K'.length kc', .slice la' L'.length lc'] 33)) := (bel w _).alloc (by simp) _
    have hx1 := (BoxC.new w 33 #[.int .i64 k, .string s, .slice ka K.length kc, .slice la L.length lc]).alloc (.cells #[.int .i64 k', .string s', .slice ka' K'.length kc', .slice la' L'.length lc'] 33)
    have hy1 := BoxC.new (w.alloc (.cells #[.int .i64 k, .string s, .slice ka K.length kc, .slice la L.length lc] 33)) 33 #[.int .i64 k', .string s', .slice ka' K'.length kc', .slice la' L'.length lc']
    rw [World.size_alloc] at hy1
    obtain ⟨w1, hw1⟩ : ∃ w1, (w.alloc (.cells #[.int .i64 k, .string s, .slice ka K.length kc, .slice la L.length lc] 33)).alloc (.cells #[.int .i64 k', .string s', .slice ka' K'.length kc', .slice la' L'.length lc'] 33) = w1 := ⟨_, rfl⟩
    rw [hw1] at hb1 hx1 hy1
    have hW1 := hW.trans (hb1.mono hW.size)
    have HIH : Hid (∀ i (hi : i < L.length) (hi' : i < L'.length) w2, Below w1.heap.size w1 w2 → Calls Tryd.prog 12 #[vagg (xs i), vagg (ys i)] w2 (REqR w2 L[i] L'[i])) := fun i hi hi' w2 h2 => ih i hi (hll i hi) (ht' i hi') (hll' i hi') w2 (hW1.trans (h2.mono hW1.size))
    have HV : Hid (∀ w2, Below w1.heap.size w1 w2 → w2.cell? ⟨w.heap.size, 0, none⟩ = some (.int .i64 k) ∧ w2.cell? ⟨w.heap.size, 1, none⟩ = some (.string s) ∧ w2.cell? ⟨w.heap.size, 2, none⟩ = some (.slice ka K.length kc) ∧ w2.cell? ⟨w.heap.size, 3, none⟩ = some (.slice la L.length lc) ∧ w2.cell? ⟨w.heap.size + 1, 0, none⟩ = some (.int .i64 k') ∧ w2.cell? ⟨w.heap.size + 1, 1, none⟩ = some (.string s') ∧ w2.cell? ⟨w.heap.size + 1, 2, none⟩ = some (.slice ka' K'.length kc') ∧ w2.cell? ⟨w.heap.size + 1, 3, none⟩ = some (.slice la' L'.length lc')) := fun w2 h2 => ⟨(hx1.below h2).cell 0, (hx1.below h2).cell 1, (hx1.below h2).cell 2, (hx1.below h2).cell 3, (hy1.below h2).cell 0, (hy1.below h2).cell 1, (hy1.below h2).cell 2, (hy1.below h2).cell 3⟩
    obtain ⟨kn, hkn⟩ : ∃ kn, K.length = kn := ⟨_, rfl⟩
    obtain ⟨ln, hln⟩ : ∃ ln, L.length = ln := ⟨_, rfl⟩
    obtain ⟨kn', hkn'⟩ : ∃ kn, K'.length = kn := ⟨_, rfl⟩
    obtain ⟨ln', hln'⟩ : ∃ ln, L'.length = ln := ⟨_, rfl⟩
    have HKN := hide hkn
    have HLN := hide hln
    have HKN' := hide hkn'
    have HLN' := hide hln'
    rw [hkn, hln, hkn', hln'] at HV
    have HKC : Hid (∀ w2, Below w1.heap.size w1 w2 → ∀ j, j < kn → ∃ b off, ka = some ⟨b, off, none⟩ ∧ w2.cell? ⟨b, off + j, none⟩ = some (.string (nthS K j))) := fun w2 h2 j hj => by
      obtain ⟨b, off, e, _, hx⟩ := hKc j (by omega)
      exact ⟨b, off, e, ((hW1.trans (h2.mono hW1.size)).cell (p := ⟨b, off + j, none⟩) (block_lt hx)).trans hx⟩
    have HLC : Hid (∀ w2, Below w1.heap.size w1 w2 → ∀ i, i < ln → ∃ b off, la = some ⟨b, off, none⟩ ∧ ∀ r, r < 4 → w2.cell? ⟨b, off + (i * 4 + r), none⟩ = (vcell (xs i))[r]?) := fun w2 h2 i hi => by
      obtain ⟨b, off, e, _, hx⟩ := hc i (by omega)
      refine ⟨b, off, e, fun r hr => ?_⟩
      have h0 := hx 0 (by omega)
      simp only [vcell, List.getElem?_cons_zero] at h0
      exact ((hW1.trans (h2.mono hW1.size)).cell (p := ⟨b, off + (i * 4 + r), none⟩) (block_lt h0)).trans (hx r hr)
    have HSL : Hid (∀ i, i < ln → IsSl (xs i).2.2.1 ∧ IsSl (xs i).2.2.2) := fun i hi => hsl i (by omega)
    have HKC' : Hid (∀ w2, Below w1.heap.size w1 w2 → ∀ j, j < kn' → ∃ b off, ka' = some ⟨b, off, none⟩ ∧ w2.cell? ⟨b, off + j, none⟩ = some (.string (nthS K' j))) := fun w2 h2 j hj => by
      obtain ⟨b, off, e, _, hx⟩ := hKc' j (by omega)
      exact ⟨b, off, e, ((hW1.trans (h2.mono hW1.size)).cell (p := ⟨b, off + j, none⟩) (block_lt hx)).trans hx⟩
    have HLC' : Hid (∀ w2, Below w1.heap.size w1 w2 → ∀ i, i < ln' → ∃ b off, la' = some ⟨b, off, none⟩ ∧ ∀ r, r < 4 → w2.cell? ⟨b, off + (i * 4 + r), none⟩ = (vcell (ys i))[r]?) := fun w2 h2 i hi => by
      obtain ⟨b, off, e, _, hx⟩ := hc' i (by omega)
      refine ⟨b, off, e, fun r hr => ?_⟩
      have h0 := hx 0 (by omega)
      simp only [vcell, List.getElem?_cons_zero] at h0
      exact ((hW1.trans (h2.mono hW1.size)).cell (p := ⟨b, off + (i * 4 + r), none⟩) (block_lt h0)).trans (hx r hr)
    have HSL' : Hid (∀ i, i < ln' → IsSl (ys i).2.2.1 ∧ IsSl (ys i).2.2.2) := fun i hi => hsl' i (by omega)
    have HH : Hid (ln ≤ 100 ∧ kn ≤ 100) := ⟨by omega, by omega⟩
    have HW1 := hide hw1
    have HB1 := hide hb1
    rw [hkn, hln, hkn', hln'] at HW1 ⊢
    clear hw1 hb1 hx1 hy1 hW1 hW ih ht ht' hc hc' hsl hsl' hKc hKc' hll hll' hKl hKl' hLl hLl' hsz hsz' hkn hln hkn' hln'
    by_cases hk : k = k'
    rotate_left
    · obtain ⟨v0, v1, v2, v3, u0, u1, u2, u3⟩ := HV.out _ (Below.refl _ _)
      have d1 : (k != k') = true := by simpa using hk
      have HKK := hide hk
      clear hk
      go_enter Tryd.func12, Tryd.ntmps12
      go_upto_region 1 with fail
      rw [HW1.out]
      clear HW1
      go_wp2
      go_ret
      refine ⟨?_, HB1.out⟩
      rw [eqJ_kind HKK.out]
      rfl
    subst hk
    by_cases h3 : k = 3
    · subst h3
      by_cases hs : s = s'
      · subst hs
        obtain ⟨v0, v1, v2, v3, u0, u1, u2, u3⟩ := HV.out _ (Below.refl _ _)
        go_enter Tryd.func12, Tryd.ntmps12
        go_upto_region 1 with fail
        rw [HW1.out]
        clear HW1
        go_wp2
        go_ret
        refine ⟨?_, HB1.out⟩
        rw [eqJ_text (by omega), decide_eq_true rfl]
        rfl
      · obtain ⟨v0, v1, v2, v3, u0, u1, u2, u3⟩ := HV.out _ (Below.refl _ _)
        have d1 : (s.toList == s'.toList) = false := str_ne hs
        have HKK := hide hs
        clear hs
        go_enter Tryd.func12, Tryd.ntmps12
        go_upto_region 1 with fail
        rw [HW1.out]
        clear HW1
        go_wp2
        go_ret
        refine ⟨?_, HB1.out⟩
        rw [eqJ_text (by omega), decide_eq_false HKK.out]
        rfl
    by_cases h4 : k = 4
    · subst h4
      by_cases hs : s = s'
      · subst hs
        obtain ⟨v0, v1, v2, v3, u0, u1, u2, u3⟩ := HV.out _ (Below.refl _ _)
        go_enter Tryd.func12, Tryd.ntmps12
        go_upto_region 1 with fail
        rw [HW1.out]
        clear HW1
        go_wp2
        go_ret
        refine ⟨?_, HB1.out⟩
        rw [eqJ_text (by omega), decide_eq_true rfl]
        rfl
      · obtain ⟨v0, v1, v2, v3, u0, u1, u2, u3⟩ := HV.out _ (Below.refl _ _)
        have d1 : (s.toList == s'.toList) = false := str_ne hs
        have HKK := hide hs
        clear hs
        go_enter Tryd.func12, Tryd.ntmps12
        go_upto_region 1 with fail
        rw [HW1.out]
        clear HW1
        go_wp2
        go_ret
        refine ⟨?_, HB1.out⟩
        rw [eqJ_text (by omega), decide_eq_false HKK.out]
        rfl
    by_cases h5 : k = 5
    · subst h5
      clear h3 h4
      by_cases hL : ln = ln'
      rotate_left
      · obtain ⟨v0, v1, v2, v3, u0, u1, u2, u3⟩ := HV.out _ (Below.refl _ _)
        have d1 : ((ln : Int) != (ln' : Int)) = true := by simp; omega
        have HKK := hide hL
        clear hL
        go_enter Tryd.func12, Tryd.ntmps12
        go_upto_region 1 with fail
        rw [HW1.out]
        clear HW1
        go_wp2
        go_ret
        refine ⟨?_, HB1.out⟩
        have hf : eqJ (.mk 5 s K L) (.mk 5 s' K' L') = false := Bool.eq_false_iff.2 (fun h => by have := ((eqJ_parts (.inl rfl)).1 h).2.1; have := HKK.out; have := HLN.out; have := HLN'.out; omega)
        rw [hf]
        rfl
      subst hL
      by_cases hz : kn = 0
      · subst hz
        obtain ⟨v0, v1, v2, v3, u0, u1, u2, u3⟩ := HV.out _ (Below.refl _ _)
        go_enter Tryd.func12, Tryd.ntmps12
        go_upto_region 1 with fail
        rw [HW1.out]
        clear HW1
        go_wp2
        go_loopw [5] (fun iv wr => iv = .int .i64 0 ∧ w1 = wr) (fun _ _ => 0)
        case atStart => exact ⟨rfl, rfl⟩
        case round =>
          obtain ⟨rfl, rfl⟩ := hrel
          have HB2 := hide (Below.refl w1.heap.size w1)
          go_wp2
          go_loopw [6] (fun iv wr => ∃ i : Nat, i ≤ ln ∧ iv = .int .i64 (i : Int) ∧ Below w1.heap.size w1 wr ∧ ∀ (q : Nat) (a b : JT), q < i → L[q]? = some a → L'[q]? = some b → eqJ a b = true) (fun iv _ => ln - (RowKit.intOf iv).toNat)
          case atStart => exact ⟨0, Nat.zero_le _, rfl, HB2.out, fun q _ _ h => by omega⟩
          case round =>
            obtain ⟨i, hi, rfl, hB, hL⟩ := hrel
            have HL := hide hL
            have HBR := hide hB
            clear hL hB HB2
            generalize wr = wo at *
            obtain ⟨v0, v1, v2, v3, u0, u1, u2, u3⟩ := HV.out wo HBR.out
            by_cases hlt : i < ln
            · obtain ⟨b, off, rfl, _⟩ := HLC.out w1 (Below.refl _ _) i hlt
              obtain ⟨b', off', rfl, _⟩ := HLC'.out w1 (Below.refl _ _) i hlt
              obtain ⟨hs2, hs3⟩ := HSL.out i hlt
              obtain ⟨hs4, hs5⟩ := HSL'.out i hlt
              obtain ⟨Ti, hTi⟩ : ∃ Ti, L[i]? = some Ti := ⟨L[i]'(by have := HLN.out; omega), List.getElem?_eq_getElem _⟩
              obtain ⟨Ui, hUi⟩ : ∃ Ui, L'[i]? = some Ui := ⟨L'[i]'(by have := HLN'.out; omega), List.getElem?_eq_getElem _⟩
              have hcall : ∀ w2, Below w1.heap.size w1 w2 → Calls Tryd.prog 12 #[vagg (xs i), vagg (ys i)] w2 (REqR w2 Ti Ui) := fun w2 h2 => by
                obtain ⟨h, rfl⟩ := List.getElem?_eq_some_iff.1 hTi
                obtain ⟨h', rfl⟩ := List.getElem?_eq_some_iff.1 hUi
                exact HIH.out i h h' w2 h2
              have hp : ∀ w2, Below w1.heap.size w1 w2 → ∀ r, r < 4 → w2.cell? ⟨b, off + (i * 4 + r), none⟩ = (vcell (xs i))[r]? := fun w2 h2 => by
                obtain ⟨_, _, e, h⟩ := HLC.out w2 h2 i hlt
                cases e
                exact h
              have hp' : ∀ w2, Below w1.heap.size w1 w2 → ∀ r, r < 4 → w2.cell? ⟨b', off' + (i * 4 + r), none⟩ = (vcell (ys i))[r]? := fun w2 h2 => by
                obtain ⟨_, _, e, h⟩ := HLC'.out w2 h2 i hlt
                cases e
                exact h
              generalize xs i = y at *
              obtain ⟨yk, ys', yK, yL⟩ := y
              generalize ys i = z at *
              obtain ⟨zk, zs, zK, zL⟩ := z
              simp only [vagg, vcell] at hcall hp hp' hs2 hs3 hs4 hs5
              obtain ⟨pa, pn, pc, rfl⟩ := hs2
              obtain ⟨qa, qn, qc, rfl⟩ := hs3
              obtain ⟨pa', pn', pc', rfl⟩ := hs4
              obtain ⟨qa', qn', qc', rfl⟩ := hs5
              have HSX : Hid (∀ X0 : World, Below w1.heap.size w1 X0 → (X0.cell? ⟨w.heap.size, 3, none⟩ = some (.slice (some ⟨b, off, none⟩) ln lc) ∧ X0.cell? ⟨w.heap.size + 1, 3, none⟩ = some (.slice (some ⟨b', off', none⟩) ln lc') ∧ X0.cell? ⟨b, off + i * 4, none⟩ = some (.int .i64 yk) ∧ X0.cell? ⟨b, off + i * 4 + 1, none⟩ = some (.string ys') ∧ X0.cell? ⟨b, off + i * 4 + 2, none⟩ = some (.slice pa pn pc) ∧ X0.cell? ⟨b, off + i * 4 + 3, none⟩ = some (.slice qa qn qc) ∧ X0.cell? ⟨b', off' + i * 4, none⟩ = some (.int .i64 zk) ∧ X0.cell? ⟨b', off' + i * 4 + 1, none⟩ = some (.string zs) ∧ X0.cell? ⟨b', off' + i * 4 + 2, none⟩ = some (.slice pa' pn' pc') ∧ X0.cell? ⟨b', off' + i * 4 + 3, none⟩ = some (.slice qa' qn' qc'))) := fun X0 h2 => by
                have x0 := hp X0 h2 0 (by omega)
                have x1 := hp X0 h2 1 (by omega)
                have x2 := hp X0 h2 2 (by omega)
                have x3 := hp X0 h2 3 (by omega)
                have y0 := hp' X0 h2 0 (by omega)
                have y1 := hp' X0 h2 1 (by omega)
                have y2 := hp' X0 h2 2 (by omega)
                have y3 := hp' X0 h2 3 (by omega)
                simp only [List.getElem?_cons_zero, List.getElem?_cons_succ, ← Nat.add_assoc, Nat.add_zero] at x0 x1 x2 x3 y0 y1 y2 y3
                obtain ⟨_, _, _, t3, _, _, _, t7⟩ := HV.out X0 h2
                exact ⟨t3, t7, x0, x1, x2, x3, y0, y1, y2, y3⟩
              have HCALL := hide hcall
              have HTI := hide hTi
              have HUI := hide hUi
              obtain ⟨i1, hi1⟩ : ∃ i1, i + 1 = i1 := ⟨_, rfl⟩
              have e1 : (i : Int) + 1 = (i1 : Int) := by omega
              have g1 : (i1 : Int) ≤ 1000000000 := by have := HH.out; omega
              have d1 : (i : Int) < (ln : Int) := by omega
              have d0 : (0 : Int) ≤ (i : Int) := by omega
              have HI := hide (And.intro hlt hi1)
              clear hcall hTi hUi hi1 hlt hi hp hp'
              go_upto_region 17 with fail
              refine wp_region_held_drew (S := fun X0 : World => X0.cell? ⟨w.heap.size, 3, none⟩ = some (.slice (some ⟨b, off, none⟩) ln lc) ∧ X0.cell? ⟨w.heap.size + 1, 3, none⟩ = some (.slice (some ⟨b', off', none⟩) ln lc') ∧ X0.cell? ⟨b, off + i * 4, none⟩ = some (.int .i64 yk) ∧ X0.cell? ⟨b, off + i * 4 + 1, none⟩ = some (.string ys') ∧ X0.cell? ⟨b, off + i * 4 + 2, none⟩ = some (.slice pa pn pc) ∧ X0.cell? ⟨b, off + i * 4 + 3, none⟩ = some (.slice qa qn qc) ∧ X0.cell? ⟨b', off' + i * 4, none⟩ = some (.int .i64 zk) ∧ X0.cell? ⟨b', off' + i * 4 + 1, none⟩ = some (.string zs) ∧ X0.cell? ⟨b', off' + i * 4 + 2, none⟩ = some (.slice pa' pn' pc') ∧ X0.cell? ⟨b', off' + i * 4 + 3, none⟩ = some (.slice qa' qn' qc')) (by kernel_rfl) (HSX.out _ HBR.out.drew) (fun hHeld => ?_)
              have HMD : Hid (Below w1.heap.size w1 wo.drew) := HBR.out.drew
              clear v0 v1 v2 v3 u0 u1 u2 u3
              generalize wo.drew = w8 at *
              refine takeD (i := 0) (v := ?v1) (some 84) rfl (by kernel_rfl) (by kernel_rfl) (by kernel_rfl) (fun _ _ _ h => h) (Or.inl ⟨by rfl, ?hy1⟩) (HSX.out _ HMD.out) (by rfl) ?rest1
              case hy1 => first | (intro w hSw; (try dsimp only at hSw); obtain ⟨s0, s1, s2, s3, s4, s5, s6, s7, s8, s9⟩ := hSw; go_simp; done) | (intro w hSw; (try dsimp only at hSw); obtain ⟨s0, s1, s2, s3, s4, s5, s6, s7, s8, s9⟩ := hSw; go_simp; with_reducible rfl)
              try simp only [Act.put, List.setIfInBounds_toArray, List.set_cons_zero, List.set_cons_succ, vagg]
              refine takeD (i := 1) (v := ?v2) (some 85) rfl (by kernel_rfl) (by kernel_rfl) (by kernel_rfl) (fun _ _ _ h => h) (Or.inl ⟨by rfl, ?hy2⟩) (HSX.out _ HMD.out) (by rfl) ?rest2
              case hy2 => first | (intro w hSw; (try dsimp only at hSw); obtain ⟨s0, s1, s2, s3, s4, s5, s6, s7, s8, s9⟩ := hSw; go_simp; done) | (intro w hSw; (try dsimp only at hSw); obtain ⟨s0, s1, s2, s3, s4, s5, s6, s7, s8, s9⟩ := hSw; go_simp; with_reducible rfl)
              try simp only [Act.put, List.setIfInBounds_toArray, List.set_cons_zero, List.set_cons_succ, vagg]
              refine takeD (i := 2) (v := ?v3) (some 86) rfl (by kernel_rfl) (by kernel_rfl) (by kernel_rfl) (fun _ _ _ h => h) (Or.inl ⟨by rfl, ?hy3⟩) (HSX.out _ HMD.out) (by rfl) ?rest3
              case hy3 => first | (intro w hSw; (try dsimp only at hSw); obtain ⟨s0, s1, s2, s3, s4, s5, s6, s7, s8, s9⟩ := hSw; go_simp; done) | (intro w hSw; (try dsimp only at hSw); obtain ⟨s0, s1, s2, s3, s4, s5, s6, s7, s8, s9⟩ := hSw; go_simp; with_reducible rfl)
              try simp only [Act.put, List.setIfInBounds_toArray, List.set_cons_zero, List.set_cons_succ, vagg]
              refine takeD (i := 3) (v := ?v4) (some 87) rfl (by kernel_rfl) (by kernel_rfl) (by kernel_rfl) (fun _ _ _ h => h) (Or.inl ⟨by rfl, ?hy4⟩) (HSX.out _ HMD.out) (by rfl) ?rest4
              case hy4 => first | (intro w hSw; (try dsimp only at hSw); obtain ⟨s0, s1, s2, s3, s4, s5, s6, s7, s8, s9⟩ := hSw; go_simp; done) | (intro w hSw; (try dsimp only at hSw); obtain ⟨s0, s1, s2, s3, s4, s5, s6, s7, s8, s9⟩ := hSw; go_simp; with_reducible rfl)
              try simp only [Act.put, List.setIfInBounds_toArray, List.set_cons_zero, List.set_cons_succ, vagg]
              refine takeD (i := 4) (v := ?v5) (some 88) rfl (by kernel_rfl) (by kernel_rfl) (by kernel_rfl) (fun _ _ _ h => h) (Or.inl ⟨by rfl, ?hy5⟩) (HSX.out _ HMD.out) (by rfl) ?rest5
              case hy5 => first | (intro w hSw; (try dsimp only at hSw); obtain ⟨s0, s1, s2, s3, s4, s5, s6, s7, s8, s9⟩ := hSw; go_simp; done) | (intro w hSw; (try dsimp only at hSw); obtain ⟨s0, s1, s2, s3, s4, s5, s6, s7, s8, s9⟩ := hSw; go_simp; with_reducible rfl)
              try simp only [Act.put, List.setIfInBounds_toArray, List.set_cons_zero, List.set_cons_succ, vagg]
              refine takeD (i := 5) (v := ?v6) (some 89) rfl (by kernel_rfl) (by kernel_rfl) (by kernel_rfl) (fun _ _ _ h => h) (Or.inl ⟨by rfl, ?hy6⟩) (HSX.out _ HMD.out) (by rfl) ?rest6
              case hy6 => first | (intro w hSw; (try dsimp only at hSw); obtain ⟨s0, s1, s2, s3, s4, s5, s6, s7, s8, s9⟩ := hSw; go_simp; done) | (intro w hSw; (try dsimp only at hSw); obtain ⟨s0, s1, s2, s3, s4, s5, s6, s7, s8, s9⟩ := hSw; go_simp; with_reducible rfl)
              try simp only [Act.put, List.setIfInBounds_toArray, List.set_cons_zero, List.set_cons_succ, vagg]
              refine takeD (i := 6) (v := ?v7) (some 90) rfl (by kernel_rfl) (by kernel_rfl) (by kernel_rfl) (fun _ _ _ h => h) (Or.inl ⟨by rfl, ?hy7⟩) (HSX.out _ HMD.out) (by rfl) ?rest7
              case hy7 => first | (intro w hSw; (try dsimp only at hSw); obtain ⟨s0, s1, s2, s3, s4, s5, s6, s7, s8, s9⟩ := hSw; go_simp; done) | (intro w hSw; (try dsimp only at hSw); obtain ⟨s0, s1, s2, s3, s4, s5, s6, s7, s8, s9⟩ := hSw; go_simp; with_reducible rfl)
              try simp only [Act.put, List.setIfInBounds_toArray, List.set_cons_zero, List.set_cons_succ, vagg]
              refine takeD (i := 7) (v := ?v8) (some 91) rfl (by kernel_rfl) (by kernel_rfl) (by kernel_rfl) (fun _ _ _ h => h) (Or.inl ⟨by rfl, ?hy8⟩) (HSX.out _ HMD.out) (by rfl) ?rest8
              case hy8 => first | (intro w hSw; (try dsimp only at hSw); obtain ⟨s0, s1, s2, s3, s4, s5, s6, s7, s8, s9⟩ := hSw; go_simp; done) | (intro w hSw; (try dsimp only at hSw); obtain ⟨s0, s1, s2, s3, s4, s5, s6, s7, s8, s9⟩ := hSw; go_simp; with_reducible rfl)
              try simp only [Act.put, List.setIfInBounds_toArray, List.set_cons_zero, List.set_cons_succ, vagg]
              refine takeD (i := 8) (v := ?v9) (some 92) rfl (by kernel_rfl) (by kernel_rfl) (by kernel_rfl) (fun _ _ _ h => h) (Or.inl ⟨by rfl, ?hy9⟩) (HSX.out _ HMD.out) (by rfl) ?rest9
              case hy9 => first | (intro w hSw; (try dsimp only at hSw); obtain ⟨s0, s1, s2, s3, s4, s5, s6, s7, s8, s9⟩ := hSw; go_simp; done) | (intro w hSw; (try dsimp only at hSw); obtain ⟨s0, s1, s2, s3, s4, s5, s6, s7, s8, s9⟩ := hSw; go_simp; with_reducible rfl)
              try simp only [Act.put, List.setIfInBounds_toArray, List.set_cons_zero, List.set_cons_succ, vagg]
              refine takeD (i := 9) (v := ?v10) (some 93) rfl (by kernel_rfl) (by kernel_rfl) (by kernel_rfl) (fun _ _ _ h => h) (Or.inl ⟨by rfl, ?hy10⟩) (HSX.out _ HMD.out) (by rfl) ?rest10
              case hy10 => first | (intro w hSw; (try dsimp only at hSw); obtain ⟨s0, s1, s2, s3, s4, s5, s6, s7, s8, s9⟩ := hSw; go_simp; done) | (intro w hSw; (try dsimp only at hSw); obtain ⟨s0, s1, s2, s3, s4, s5, s6, s7, s8, s9⟩ := hSw; go_simp; with_reducible rfl)
              try simp only [Act.put, List.setIfInBounds_toArray, List.set_cons_zero, List.set_cons_succ, vagg]
              refine wpAnyH_ready (rs := [10]) (by kernel_rfl) (by simp) ?_
              refine AllReadyH.cons rfl (fun K hK => ?_) AllReadyH.nil
              go_simp
              refine (HCALL.out w8 HMD.out).mono ?_
              rintro e w4 ⟨rfl, hB4⟩
              have HB4 := hide (HMD.out.trans (hB4.mono HMD.out.size))
              refine hK.out _ _ (HSX.out _ HB4.out) (fun _ => ?_)
              clear hK K hB4
              try simp only [Act.put, List.setIfInBounds_toArray, List.set_cons_zero, List.set_cons_succ, vagg]
              obtain ⟨r, hr⟩ : ∃ r, eqJ Ti Ui = r := ⟨_, rfl⟩
              have HR := hide hr
              rw [hr]
              clear hr
              cases r
              · refine takeD (i := 11) (v := ?v11) (some 95) rfl (by kernel_rfl) (by kernel_rfl) (by kernel_rfl) (fun _ _ _ h => h) (Or.inl ⟨by rfl, ?hy11⟩) (HSX.out _ HB4.out) (by rfl) ?rest11
                case hy11 => first | (intro w hSw; (try dsimp only at hSw); obtain ⟨s0, s1, s2, s3, s4, s5, s6, s7, s8, s9⟩ := hSw; go_simp; done) | (intro w hSw; (try dsimp only at hSw); obtain ⟨s0, s1, s2, s3, s4, s5, s6, s7, s8, s9⟩ := hSw; go_simp; with_reducible rfl)
                try simp only [Act.put, List.setIfInBounds_toArray, List.set_cons_zero, List.set_cons_succ, vagg]
                refine wpAnyH_done (by kernel_rfl) ?_ _
                go_wp2
                go_ret
                refine ⟨?_, HB1.out.trans (HB4.out.mono HB1.out.size)⟩
                have hf : eqJ (.mk 5 s K L) (.mk 5 s' K' L') = false := Bool.eq_false_iff.2 (fun h => by have := ((eqJ_parts (.inl rfl)).1 h).2.2 i Ti Ui HTI.out HUI.out; rw [HR.out] at this; cases this)
                rw [hf]
                rfl
              · refine takeD (i := 11) (v := ?v12) (some 95) rfl (by kernel_rfl) (by kernel_rfl) (by kernel_rfl) (fun _ _ _ h => h) (Or.inl ⟨by rfl, ?hy12⟩) (HSX.out _ HB4.out) (by rfl) ?rest12
                case hy12 => first | (intro w hSw; (try dsimp only at hSw); obtain ⟨s0, s1, s2, s3, s4, s5, s6, s7, s8, s9⟩ := hSw; go_simp; done) | (intro w hSw; (try dsimp only at hSw); obtain ⟨s0, s1, s2, s3, s4, s5, s6, s7, s8, s9⟩ := hSw; go_simp; with_reducible rfl)
                try simp only [Act.put, List.setIfInBounds_toArray, List.set_cons_zero, List.set_cons_succ, vagg]
                refine wpAnyH_done (by kernel_rfl) ?_ _
                go_wp2
                go_roundw
                case rel =>
                  refine ⟨i1, by have := HI.out; omega, by first | rfl | go_num, HB4.out, fun q a b hq ha hb => ?_⟩
                  rcases Nat.lt_or_ge q i with h | h
                  · exact HL.out q a b h ha hb
                  · obtain rfl : q = i := by have := HI.out; omega
                    rw [HTI.out] at ha
                    rw [HUI.out] at hb
                    cases ha
                    cases hb
                    exact HR.out
                case measure => have := HI.out; simp [RowKit.intOf]; omega
            · obtain rfl : i = ln := by omega
              have d5 : ¬ (i : Int) < (i : Int) := by omega
              clear hlt hi
              go_wp2
              go_ret
              refine ⟨?_, HB1.out.trans (HBR.out.mono HB1.out.size)⟩
              rw [(eqJ_parts (.inl rfl)).2 ⟨fun e => absurd e (by omega), by have := HLN.out; have := HLN'.out; omega, fun q a b ha hb => HL.out q a b (by have := (List.getElem?_eq_some_iff.1 ha).1; have := HLN.out; omega) ha hb⟩]
              rfl
      · have dz : (0 : Int) < (kn : Int) := by omega
        clear hz
        obtain ⟨v0, v1, v2, v3, u0, u1, u2, u3⟩ := HV.out _ (Below.refl _ _)
        go_enter Tryd.func12, Tryd.ntmps12
        go_upto_region 1 with fail
        rw [HW1.out]
        clear HW1
        go_wp2
        go_loopw [5] (fun iv wr => iv = .int .i64 0 ∧ w1 = wr) (fun _ _ => 0)
        case atStart => exact ⟨rfl, rfl⟩
        case round =>
          obtain ⟨rfl, rfl⟩ := hrel
          have HB2 := hide (Below.refl w1.heap.size w1)
          go_wp2
          go_loopw [6] (fun iv wr => ∃ i : Nat, i ≤ ln ∧ iv = .int .i64 (i : Int) ∧ Below w1.heap.size w1 wr ∧ ∀ (q : Nat) (a b : JT), q < i → L[q]? = some a → L'[q]? = some b → eqJ a b = true) (fun iv _ => ln - (RowKit.intOf iv).toNat)
          case atStart => exact ⟨0, Nat.zero_le _, rfl, HB2.out, fun q _ _ h => by omega⟩
          case round =>
            obtain ⟨i, hi, rfl, hB, hL⟩ := hrel
            have HL := hide hL
            have HBR := hide hB
            clear hL hB HB2
            generalize wr = wo at *
            obtain ⟨v0, v1, v2, v3, u0, u1, u2, u3⟩ := HV.out wo HBR.out
            by_cases hlt : i < ln
            · obtain ⟨b, off, rfl, _⟩ := HLC.out w1 (Below.refl _ _) i hlt
              obtain ⟨b', off', rfl, _⟩ := HLC'.out w1 (Below.refl _ _) i hlt
              obtain ⟨hs2, hs3⟩ := HSL.out i hlt
              obtain ⟨hs4, hs5⟩ := HSL'.out i hlt
              obtain ⟨Ti, hTi⟩ : ∃ Ti, L[i]? = some Ti := ⟨L[i]'(by have := HLN.out; omega), List.getElem?_eq_getElem _⟩
              obtain ⟨Ui, hUi⟩ : ∃ Ui, L'[i]? = some Ui := ⟨L'[i]'(by have := HLN'.out; omega), List.getElem?_eq_getElem _⟩
              have hcall : ∀ w2, Below w1.heap.size w1 w2 → Calls Tryd.prog 12 #[vagg (xs i), vagg (ys i)] w2 (REqR w2 Ti Ui) := fun w2 h2 => by
                obtain ⟨h, rfl⟩ := List.getElem?_eq_some_iff.1 hTi
                obtain ⟨h', rfl⟩ := List.getElem?_eq_some_iff.1 hUi
                exact HIH.out i h h' w2 h2
              have hp : ∀ w2, Below w1.heap.size w1 w2 → ∀ r, r < 4 → w2.cell? ⟨b, off + (i * 4 + r), none⟩ = (vcell (xs i))[r]? := fun w2 h2 => by
                obtain ⟨_, _, e, h⟩ := HLC.out w2 h2 i hlt
                cases e
                exact h
              have hp' : ∀ w2, Below w1.heap.size w1 w2 → ∀ r, r < 4 → w2.cell? ⟨b', off' + (i * 4 + r), none⟩ = (vcell (ys i))[r]? := fun w2 h2 => by
                obtain ⟨_, _, e, h⟩ := HLC'.out w2 h2 i hlt
                cases e
                exact h
              generalize xs i = y at *
              obtain ⟨yk, ys', yK, yL⟩ := y
              generalize ys i = z at *
              obtain ⟨zk, zs, zK, zL⟩ := z
              simp only [vagg, vcell] at hcall hp hp' hs2 hs3 hs4 hs5
              obtain ⟨pa, pn, pc, rfl⟩ := hs2
              obtain ⟨qa, qn, qc, rfl⟩ := hs3
              obtain ⟨pa', pn', pc', rfl⟩ := hs4
              obtain ⟨qa', qn', qc', rfl⟩ := hs5
              have HSX : Hid (∀ X0 : World, Below w1.heap.size w1 X0 → (X0.cell? ⟨w.heap.size, 3, none⟩ = some (.slice (some ⟨b, off, none⟩) ln lc) ∧ X0.cell? ⟨w.heap.size + 1, 3, none⟩ = some (.slice (some ⟨b', off', none⟩) ln lc') ∧ X0.cell? ⟨b, off + i * 4, none⟩ = some (.int .i64 yk) ∧ X0.cell? ⟨b, off + i * 4 + 1, none⟩ = some (.string ys') ∧ X0.cell? ⟨b, off + i * 4 + 2, none⟩ = some (.slice pa pn pc) ∧ X0.cell? ⟨b, off + i * 4 + 3, none⟩ = some (.slice qa qn qc) ∧ X0.cell? ⟨b', off' + i * 4, none⟩ = some (.int .i64 zk) ∧ X0.cell? ⟨b', off' + i * 4 + 1, none⟩ = some (.string zs) ∧ X0.cell? ⟨b', off' + i * 4 + 2, none⟩ = some (.slice pa' pn' pc') ∧ X0.cell? ⟨b', off' + i * 4 + 3, none⟩ = some (.slice qa' qn' qc'))) := fun X0 h2 => by
                have x0 := hp X0 h2 0 (by omega)
                have x1 := hp X0 h2 1 (by omega)
                have x2 := hp X0 h2 2 (by omega)
                have x3 := hp X0 h2 3 (by omega)
                have y0 := hp' X0 h2 0 (by omega)
                have y1 := hp' X0 h2 1 (by omega)
                have y2 := hp' X0 h2 2 (by omega)
                have y3 := hp' X0 h2 3 (by omega)
                simp only [List.getElem?_cons_zero, List.getElem?_cons_succ, ← Nat.add_assoc, Nat.add_zero] at x0 x1 x2 x3 y0 y1 y2 y3
                obtain ⟨_, _, _, t3, _, _, _, t7⟩ := HV.out X0 h2
                exact ⟨t3, t7, x0, x1, x2, x3, y0, y1, y2, y3⟩
              have HCALL := hide hcall
              have HTI := hide hTi
              have HUI := hide hUi
              obtain ⟨i1, hi1⟩ : ∃ i1, i + 1 = i1 := ⟨_, rfl⟩
              have e1 : (i : Int) + 1 = (i1 : Int) := by omega
              have g1 : (i1 : Int) ≤ 1000000000 := by have := HH.out; omega
              have d1 : (i : Int) < (ln : Int) := by omega
              have d0 : (0 : Int) ≤ (i : Int) := by omega
              have HI := hide (And.intro hlt hi1)
              clear hcall hTi hUi hi1 hlt hi hp hp'
              go_upto_region 17 with fail
              refine wp_region_held_drew (S := fun X0 : World => X0.cell? ⟨w.heap.size, 3, none⟩ = some (.slice (some ⟨b, off, none⟩) ln lc) ∧ X0.cell? ⟨w.heap.size + 1, 3, none⟩ = some (.slice (some ⟨b', off', none⟩) ln lc') ∧ X0.cell? ⟨b, off + i * 4, none⟩ = some (.int .i64 yk) ∧ X0.cell? ⟨b, off + i * 4 + 1, none⟩ = some (.string ys') ∧ X0.cell? ⟨b, off + i * 4 + 2, none⟩ = some (.slice pa pn pc) ∧ X0.cell? ⟨b, off + i * 4 + 3, none⟩ = some (.slice qa qn qc) ∧ X0.cell? ⟨b', off' + i * 4, none⟩ = some (.int .i64 zk) ∧ X0.cell? ⟨b', off' + i * 4 + 1, none⟩ = some (.string zs) ∧ X0.cell? ⟨b', off' + i * 4 + 2, none⟩ = some (.slice pa' pn' pc') ∧ X0.cell? ⟨b', off' + i * 4 + 3, none⟩ = some (.slice qa' qn' qc')) (by kernel_rfl) (HSX.out _ HBR.out.drew) (fun hHeld => ?_)
              have HMD : Hid (Below w1.heap.size w1 wo.drew) := HBR.out.drew
              clear v0 v1 v2 v3 u0 u1 u2 u3
              generalize wo.drew = w8 at *
              refine takeD (i := 0) (v := ?v13) (some 84) rfl (by kernel_rfl) (by kernel_rfl) (by kernel_rfl) (fun _ _ _ h => h) (Or.inl ⟨by rfl, ?hy13⟩) (HSX.out _ HMD.out) (by rfl) ?rest13
              case hy13 => first | (intro w hSw; (try dsimp only at hSw); obtain ⟨s0, s1, s2, s3, s4, s5, s6, s7, s8, s9⟩ := hSw; go_simp; done) | (intro w hSw; (try dsimp only at hSw); obtain ⟨s0, s1, s2, s3, s4, s5, s6, s7, s8, s9⟩ := hSw; go_simp; with_reducible rfl)
              try simp only [Act.put, List.setIfInBounds_toArray, List.set_cons_zero, List.set_cons_succ, vagg]
              refine takeD (i := 1) (v := ?v14) (some 85) rfl (by kernel_rfl) (by kernel_rfl) (by kernel_rfl) (fun _ _ _ h => h) (Or.inl ⟨by rfl, ?hy14⟩) (HSX.out _ HMD.out) (by rfl) ?rest14
              case hy14 => first | (intro w hSw; (try dsimp only at hSw); obtain ⟨s0, s1, s2, s3, s4, s5, s6, s7, s8, s9⟩ := hSw; go_simp; done) | (intro w hSw; (try dsimp only at hSw); obtain ⟨s0, s1, s2, s3, s4, s5, s6, s7, s8, s9⟩ := hSw; go_simp; with_reducible rfl)
              try simp only [Act.put, List.setIfInBounds_toArray, List.set_cons_zero, List.set_cons_succ, vagg]
              refine takeD (i := 2) (v := ?v15) (some 86) rfl (by kernel_rfl) (by kernel_rfl) (by kernel_rfl) (fun _ _ _ h => h) (Or.inl ⟨by rfl, ?hy15⟩) (HSX.out _ HMD.out) (by rfl) ?rest15
              case hy15 => first | (intro w hSw; (try dsimp only at hSw); obtain ⟨s0, s1, s2, s3, s4, s5, s6, s7, s8, s9⟩ := hSw; go_simp; done) | (intro w hSw; (try dsimp only at hSw); obtain ⟨s0, s1, s2, s3, s4, s5, s6, s7, s8, s9⟩ := hSw; go_simp; with_reducible rfl)
              try simp only [Act.put, List.setIfInBounds_toArray, List.set_cons_zero, List.set_cons_succ, vagg]
              refine takeD (i := 3) (v := ?v16) (some 87) rfl (by kernel_rfl) (by kernel_rfl) (by kernel_rfl) (fun _ _ _ h => h) (Or.inl ⟨by rfl, ?hy16⟩) (HSX.out _ HMD.out) (by rfl) ?rest16
              case hy16 => first | (intro w hSw; (try dsimp only at hSw); obtain ⟨s0, s1, s2, s3, s4, s5, s6, s7, s8, s9⟩ := hSw; go_simp; done) | (intro w hSw; (try dsimp only at hSw); obtain ⟨s0, s1, s2, s3, s4, s5, s6, s7, s8, s9⟩ := hSw; go_simp; with_reducible rfl)
              try simp only [Act.put, List.setIfInBounds_toArray, List.set_cons_zero, List.set_cons_succ, vagg]
              refine takeD (i := 4) (v := ?v17) (some 88) rfl (by kernel_rfl) (by kernel_rfl) (by kernel_rfl) (fun _ _ _ h => h) (Or.inl ⟨by rfl, ?hy17⟩) (HSX.out _ HMD.out) (by rfl) ?rest17
              case hy17 => first | (intro w hSw; (try dsimp only at hSw); obtain ⟨s0, s1, s2, s3, s4, s5, s6, s7, s8, s9⟩ := hSw; go_simp; done) | (intro w hSw; (try dsimp only at hSw); obtain ⟨s0, s1, s2, s3, s4, s5, s6, s7, s8, s9⟩ := hSw; go_simp; with_reducible rfl)
              try simp only [Act.put, List.setIfInBounds_toArray, List.set_cons_zero, List.set_cons_succ, vagg]
              refine takeD (i := 5) (v := ?v18) (some 89) rfl (by kernel_rfl) (by kernel_rfl) (by kernel_rfl) (fun _ _ _ h => h) (Or.inl ⟨by rfl, ?hy18⟩) (HSX.out _ HMD.out) (by rfl) ?rest18
              case hy18 => first | (intro w hSw; (try dsimp only at hSw); obtain ⟨s0, s1, s2, s3, s4, s5, s6, s7, s8, s9⟩ := hSw; go_simp; done) | (intro w hSw; (try dsimp only at hSw); obtain ⟨s0, s1, s2, s3, s4, s5, s6, s7, s8, s9⟩ := hSw; go_simp; with_reducible rfl)
              try simp only [Act.put, List.setIfInBounds_toArray, List.set_cons_zero, List.set_cons_succ, vagg]
              refine takeD (i := 6) (v := ?v19) (some 90) rfl (by kernel_rfl) (by kernel_rfl) (by kernel_rfl) (fun _ _ _ h => h) (Or.inl ⟨by rfl, ?hy19⟩) (HSX.out _ HMD.out) (by rfl) ?rest19
              case hy19 => first | (intro w hSw; (try dsimp only at hSw); obtain ⟨s0, s1, s2, s3, s4, s5, s6, s7, s8, s9⟩ := hSw; go_simp; done) | (intro w hSw; (try dsimp only at hSw); obtain ⟨s0, s1, s2, s3, s4, s5, s6, s7, s8, s9⟩ := hSw; go_simp; with_reducible rfl)
              try simp only [Act.put, List.setIfInBounds_toArray, List.set_cons_zero, List.set_cons_succ, vagg]
              refine takeD (i := 7) (v := ?v20) (some 91) rfl (by kernel_rfl) (by kernel_rfl) (by kernel_rfl) (fun _ _ _ h => h) (Or.inl ⟨by rfl, ?hy20⟩) (HSX.out _ HMD.out) (by rfl) ?rest20
              case hy20 => first | (intro w hSw; (try dsimp only at hSw); obtain ⟨s0, s1, s2, s3, s4, s5, s6, s7, s8, s9⟩ := hSw; go_simp; done) | (intro w hSw; (try dsimp only at hSw); obtain ⟨s0, s1, s2, s3, s4, s5, s6, s7, s8, s9⟩ := hSw; go_simp; with_reducible rfl)
              try simp only [Act.put, List.setIfInBounds_toArray, List.set_cons_zero, List.set_cons_succ, vagg]
              refine takeD (i := 8) (v := ?v21) (some 92) rfl (by kernel_rfl) (by kernel_rfl) (by kernel_rfl) (fun _ _ _ h => h) (Or.inl ⟨by rfl, ?hy21⟩) (HSX.out _ HMD.out) (by rfl) ?rest21
              case hy21 => first | (intro w hSw; (try dsimp only at hSw); obtain ⟨s0, s1, s2, s3, s4, s5, s6, s7, s8, s9⟩ := hSw; go_simp; done) | (intro w hSw; (try dsimp only at hSw); obtain ⟨s0, s1, s2, s3, s4, s5, s6, s7, s8, s9⟩ := hSw; go_simp; with_reducible rfl)
              try simp only [Act.put, List.setIfInBounds_toArray, List.set_cons_zero, List.set_cons_succ, vagg]
              refine takeD (i := 9) (v := ?v22) (some 93) rfl (by kernel_rfl) (by kernel_rfl) (by kernel_rfl) (fun _ _ _ h => h) (Or.inl ⟨by rfl, ?hy22⟩) (HSX.out _ HMD.out) (by rfl) ?rest22
              case hy22 => first | (intro w hSw; (try dsimp only at hSw); obtain ⟨s0, s1, s2, s3, s4, s5, s6, s7, s8, s9⟩ := hSw; go_simp; done) | (intro w hSw; (try dsimp only at hSw); obtain ⟨s0, s1, s2, s3, s4, s5, s6, s7, s8, s9⟩ := hSw; go_simp; with_reducible rfl)
              try simp only [Act.put, List.setIfInBounds_toArray, List.set_cons_zero, List.set_cons_succ, vagg]
              refine wpAnyH_ready (rs := [10]) (by kernel_rfl) (by simp) ?_
              refine AllReadyH.cons rfl (fun K hK => ?_) AllReadyH.nil
              go_simp
              refine (HCALL.out w8 HMD.out).mono ?_
              rintro e w4 ⟨rfl, hB4⟩
              have HB4 := hide (HMD.out.trans (hB4.mono HMD.out.size))
              refine hK.out _ _ (HSX.out _ HB4.out) (fun _ => ?_)
              clear hK K hB4
              try simp only [Act.put, List.setIfInBounds_toArray, List.set_cons_zero, List.set_cons_succ, vagg]
              obtain ⟨r, hr⟩ : ∃ r, eqJ Ti Ui = r := ⟨_, rfl⟩
              have HR := hide hr
              rw [hr]
              clear hr
              cases r
              · refine takeD (i := 11) (v := ?v23) (some 95) rfl (by kernel_rfl) (by kernel_rfl) (by kernel_rfl) (fun _ _ _ h => h) (Or.inl ⟨by rfl, ?hy23⟩) (HSX.out _ HB4.out) (by rfl) ?rest23
                case hy23 => first | (intro w hSw; (try dsimp only at hSw); obtain ⟨s0, s1, s2, s3, s4, s5, s6, s7, s8, s9⟩ := hSw; go_simp; done) | (intro w hSw; (try dsimp only at hSw); obtain ⟨s0, s1, s2, s3, s4, s5, s6, s7, s8, s9⟩ := hSw; go_simp; with_reducible rfl)
                try simp only [Act.put, List.setIfInBounds_toArray, List.set_cons_zero, List.set_cons_succ, vagg]
                refine wpAnyH_done (by kernel_rfl) ?_ _
                go_wp2
                go_ret
                refine ⟨?_, HB1.out.trans (HB4.out.mono HB1.out.size)⟩
                have hf : eqJ (.mk 5 s K L) (.mk 5 s' K' L') = false := Bool.eq_false_iff.2 (fun h => by have := ((eqJ_parts (.inl rfl)).1 h).2.2 i Ti Ui HTI.out HUI.out; rw [HR.out] at this; cases this)
                rw [hf]
                rfl
              · refine takeD (i := 11) (v := ?v24) (some 95) rfl (by kernel_rfl) (by kernel_rfl) (by kernel_rfl) (fun _ _ _ h => h) (Or.inl ⟨by rfl, ?hy24⟩) (HSX.out _ HB4.out) (by rfl) ?rest24
                case hy24 => first | (intro w hSw; (try dsimp only at hSw); obtain ⟨s0, s1, s2, s3, s4, s5, s6, s7, s8, s9⟩ := hSw; go_simp; done) | (intro w hSw; (try dsimp only at hSw); obtain ⟨s0, s1, s2, s3, s4, s5, s6, s7, s8, s9⟩ := hSw; go_simp; with_reducible rfl)
                try simp only [Act.put, List.setIfInBounds_toArray, List.set_cons_zero, List.set_cons_succ, vagg]
                refine wpAnyH_done (by kernel_rfl) ?_ _
                go_wp2
                go_roundw
                case rel =>
                  refine ⟨i1, by have := HI.out; omega, by first | rfl | go_num, HB4.out, fun q a b hq ha hb => ?_⟩
                  rcases Nat.lt_or_ge q i with h | h
                  · exact HL.out q a b h ha hb
                  · obtain rfl : q = i := by have := HI.out; omega
                    rw [HTI.out] at ha
                    rw [HUI.out] at hb
                    cases ha
                    cases hb
                    exact HR.out
                case measure => have := HI.out; simp [RowKit.intOf]; omega
            · obtain rfl : i = ln := by omega
              have d5 : ¬ (i : Int) < (i : Int) := by omega
              clear hlt hi
              go_wp2
              go_ret
              refine ⟨?_, HB1.out.trans (HBR.out.mono HB1.out.size)⟩
              rw [(eqJ_parts (.inl rfl)).2 ⟨fun e => absurd e (by omega), by have := HLN.out; have := HLN'.out; omega, fun q a b ha hb => HL.out q a b (by have := (List.getElem?_eq_some_iff.1 ha).1; have := HLN.out; omega) ha hb⟩]
              rfl
    by_cases h6 : k = 6
    · subst h6
      clear h3 h4 h5
      by_cases hL : ln = ln'
      rotate_left
      · obtain ⟨v0, v1, v2, v3, u0, u1, u2, u3⟩ := HV.out _ (Below.refl _ _)
        have d1 : ((ln : Int) != (ln' : Int)) = true := by simp; omega
        have HKK := hide hL
        clear hL
        go_enter Tryd.func12, Tryd.ntmps12
        go_upto_region 1 with fail
        rw [HW1.out]
        clear HW1
        go_wp2
        go_ret
        refine ⟨?_, HB1.out⟩
        have hf : eqJ (.mk 6 s K L) (.mk 6 s' K' L') = false := Bool.eq_false_iff.2 (fun h => by have := ((eqJ_parts (.inr rfl)).1 h).2.1; have := HKK.out; have := HLN.out; have := HLN'.out; omega)
        rw [hf]
        rfl
      subst hL
      by_cases hKn : kn = kn'
      rotate_left
      · obtain ⟨v0, v1, v2, v3, u0, u1, u2, u3⟩ := HV.out _ (Below.refl _ _)
        have d1 : ((kn : Int) != (kn' : Int)) = true := by simp; omega
        have HKK := hide hKn
        clear hKn
        go_enter Tryd.func12, Tryd.ntmps12
        go_upto_region 1 with fail
        rw [HW1.out]
        clear HW1
        go_wp2
        go_ret
        refine ⟨?_, HB1.out⟩
        have hf : eqJ (.mk 6 s K L) (.mk 6 s' K' L') = false := Bool.eq_false_iff.2 (fun h => by have := ((eqJ_parts (.inr rfl)).1 h).1 rfl; have e := congrArg List.length this; have := HKK.out; have := HKN.out; have := HKN'.out; omega)
        rw [hf]
        rfl
      subst hKn
      obtain ⟨v0, v1, v2, v3, u0, u1, u2, u3⟩ := HV.out _ (Below.refl _ _)
      go_enter Tryd.func12, Tryd.ntmps12
      go_upto_region 1 with fail
      rw [HW1.out]
      clear HW1
      go_wp2
      clear v0 v1 v2 v3 u0 u1 u2 u3
      go_loopw [5] (fun iv wr => ∃ j : Nat, j ≤ kn ∧ iv = .int .i64 (j : Int) ∧ Below w1.heap.size w1 wr ∧ ∀ q, q < j → nthS K q = nthS K' q) (fun iv _ => kn - (RowKit.intOf iv).toNat)
      case atStart => exact ⟨0, Nat.zero_le _, rfl, Below.refl _ _, fun q h => by omega⟩
      case round =>
        obtain ⟨j, hj, rfl, hB, hQ⟩ := hrel
        have HQ := hide hQ
        have HB2 := hide hB
        clear hB hQ
        generalize wr = wo at *
        obtain ⟨v0, v1, v2, v3, u0, u1, u2, u3⟩ := HV.out wo HB2.out
        by_cases hlt : j < kn
        · obtain ⟨b, off, rfl, cx⟩ := HKC.out wo HB2.out j hlt
          obtain ⟨b', off', rfl, cy⟩ := HKC'.out wo HB2.out j hlt
          obtain ⟨j1, hj1⟩ : ∃ j1, j + 1 = j1 := ⟨_, rfl⟩
          have e2 : (j : Int) + 1 = (j1 : Int) := by omega
          have g1 : (j1 : Int) ≤ 1000000000 := by have := HH.out; omega
          have d5 : (j : Int) < (kn : Int) := by omega
          have d0 : (0 : Int) ≤ (j : Int) := by omega
          have HI := hide (And.intro hlt hj1)
          obtain ⟨t, ht⟩ : ∃ t, nthS K j = t := ⟨_, rfl⟩
          obtain ⟨u, hu⟩ : ∃ u, nthS K' j = u := ⟨_, rfl⟩
          rw [ht] at cx
          rw [hu] at cy
          have HTJ := hide ht
          have HUJ := hide hu
          clear hlt hj1 hj ht hu
          by_cases htu : t = u
          · subst htu
            go_wp2
            go_quiet (fail)
            go_wp2
            go_roundw
            case rel =>
              refine ⟨j1, by have := HI.out; omega, by first | rfl | go_num, below_drewN HB2.out _, fun q hq => ?_⟩
              rcases Nat.lt_or_ge q j with h | h
              · exact HQ.out q h
              · obtain rfl : q = j := by have := HI.out; omega
                rw [HTJ.out, HUJ.out]
            case measure => have := HI.out; simp [RowKit.intOf]; omega
          · have dne : (t.toList == u.toList) = false := str_ne htu
            have dne2 : (t.toList != u.toList) = true := by rw [bne, dne]; rfl
            have HKK := hide htu
            clear htu
            go_wp2
            go_quiet (fail)
            go_wp2
            go_ret
            refine ⟨?_, below_drewN (HB1.out.trans (HB2.out.mono HB1.out.size)) _⟩
            have hf : eqJ (.mk 6 s K L) (.mk 6 s' K' L') = false := Bool.eq_false_iff.2 (fun h => by have e := ((eqJ_parts (.inr rfl)).1 h).1 rfl; rw [e] at HTJ; exact HKK.out (HTJ.out.symm.trans HUJ.out))
            rw [hf]
            rfl
        · obtain rfl : j = kn := by omega
          have d5 : ¬ (j : Int) < (j : Int) := by omega
          have HQK : Hid (K = K') := keys_same (by have := HKN.out; have := HKN'.out; omega) (fun q hq => HQ.out q (by have := HKN.out; omega))
          clear hlt hj
          go_wp2
          clear v0 v1 v2 v3 u0 u1 u2 u3
          go_loopw [6] (fun iv wr => ∃ i : Nat, i ≤ ln ∧ iv = .int .i64 (i : Int) ∧ Below w1.heap.size w1 wr ∧ ∀ (q : Nat) (a b : JT), q < i → L[q]? = some a → L'[q]? = some b → eqJ a b = true) (fun iv _ => ln - (RowKit.intOf iv).toNat)
          case atStart => exact ⟨0, Nat.zero_le _, rfl, HB2.out, fun q _ _ h => by omega⟩
          case round =>
            obtain ⟨i, hi, rfl, hB, hL⟩ := hrel
            have HL := hide hL
            have HBR := hide hB
            clear hL hB HB2
            generalize wr = wo at *
            obtain ⟨v0, v1, v2, v3, u0, u1, u2, u3⟩ := HV.out wo HBR.out
            by_cases hlt : i < ln
            · obtain ⟨b, off, rfl, _⟩ := HLC.out w1 (Below.refl _ _) i hlt
              obtain ⟨b', off', rfl, _⟩ := HLC'.out w1 (Below.refl _ _) i hlt
              obtain ⟨hs2, hs3⟩ := HSL.out i hlt
              obtain ⟨hs4, hs5⟩ := HSL'.out i hlt
              obtain ⟨Ti, hTi⟩ : ∃ Ti, L[i]? = some Ti := ⟨L[i]'(by have := HLN.out; omega), List.getElem?_eq_getElem _⟩
              obtain ⟨Ui, hUi⟩ : ∃ Ui, L'[i]? = some Ui := ⟨L'[i]'(by have := HLN'.out; omega), List.getElem?_eq_getElem _⟩
              have hcall : ∀ w2, Below w1.heap.size w1 w2 → Calls Tryd.prog 12 #[vagg (xs i), vagg (ys i)] w2 (REqR w2 Ti Ui) := fun w2 h2 => by
                obtain ⟨h, rfl⟩ := List.getElem?_eq_some_iff.1 hTi
                obtain ⟨h', rfl⟩ := List.getElem?_eq_some_iff.1 hUi
                exact HIH.out i h h' w2 h2
              have hp : ∀ w2, Below w1.heap.size w1 w2 → ∀ r, r < 4 → w2.cell? ⟨b, off + (i * 4 + r), none⟩ = (vcell (xs i))[r]? := fun w2 h2 => by
                obtain ⟨_, _, e, h⟩ := HLC.out w2 h2 i hlt
                cases e
                exact h
              have hp' : ∀ w2, Below w1.heap.size w1 w2 → ∀ r, r < 4 → w2.cell? ⟨b', off' + (i * 4 + r), none⟩ = (vcell (ys i))[r]? := fun w2 h2 => by
                obtain ⟨_, _, e, h⟩ := HLC'.out w2 h2 i hlt
                cases e
                exact h
              generalize xs i = y at *
              obtain ⟨yk, ys', yK, yL⟩ := y
              generalize ys i = z at *
              obtain ⟨zk, zs, zK, zL⟩ := z
              simp only [vagg, vcell] at hcall hp hp' hs2 hs3 hs4 hs5
              obtain ⟨pa, pn, pc, rfl⟩ := hs2
              obtain ⟨qa, qn, qc, rfl⟩ := hs3
              obtain ⟨pa', pn', pc', rfl⟩ := hs4
              obtain ⟨qa', qn', qc', rfl⟩ := hs5
              have HSX : Hid (∀ X0 : World, Below w1.heap.size w1 X0 → (X0.cell? ⟨w.heap.size, 3, none⟩ = some (.slice (some ⟨b, off, none⟩) ln lc) ∧ X0.cell? ⟨w.heap.size + 1, 3, none⟩ = some (.slice (some ⟨b', off', none⟩) ln lc') ∧ X0.cell? ⟨b, off + i * 4, none⟩ = some (.int .i64 yk) ∧ X0.cell? ⟨b, off + i * 4 + 1, none⟩ = some (.string ys') ∧ X0.cell? ⟨b, off + i * 4 + 2, none⟩ = some (.slice pa pn pc) ∧ X0.cell? ⟨b, off + i * 4 + 3, none⟩ = some (.slice qa qn qc) ∧ X0.cell? ⟨b', off' + i * 4, none⟩ = some (.int .i64 zk) ∧ X0.cell? ⟨b', off' + i * 4 + 1, none⟩ = some (.string zs) ∧ X0.cell? ⟨b', off' + i * 4 + 2, none⟩ = some (.slice pa' pn' pc') ∧ X0.cell? ⟨b', off' + i * 4 + 3, none⟩ = some (.slice qa' qn' qc'))) := fun X0 h2 => by
                have x0 := hp X0 h2 0 (by omega)
                have x1 := hp X0 h2 1 (by omega)
                have x2 := hp X0 h2 2 (by omega)
                have x3 := hp X0 h2 3 (by omega)
                have y0 := hp' X0 h2 0 (by omega)
                have y1 := hp' X0 h2 1 (by omega)
                have y2 := hp' X0 h2 2 (by omega)
                have y3 := hp' X0 h2 3 (by omega)
                simp only [List.getElem?_cons_zero, List.getElem?_cons_succ, ← Nat.add_assoc, Nat.add_zero] at x0 x1 x2 x3 y0 y1 y2 y3
                obtain ⟨_, _, _, t3, _, _, _, t7⟩ := HV.out X0 h2
                exact ⟨t3, t7, x0, x1, x2, x3, y0, y1, y2, y3⟩
              have HCALL := hide hcall
              have HTI := hide hTi
              have HUI := hide hUi
              obtain ⟨i1, hi1⟩ : ∃ i1, i + 1 = i1 := ⟨_, rfl⟩
              have e1 : (i : Int) + 1 = (i1 : Int) := by omega
              have g1 : (i1 : Int) ≤ 1000000000 := by have := HH.out; omega
              have d1 : (i : Int) < (ln : Int) := by omega
              have d0 : (0 : Int) ≤ (i : Int) := by omega
              have HI := hide (And.intro hlt hi1)
              clear hcall hTi hUi hi1 hlt hi hp hp'
              go_upto_region 17 with fail
              refine wp_region_held_drew (S := fun X0 : World => X0.cell? ⟨w.heap.size, 3, none⟩ = some (.slice (some ⟨b, off, none⟩) ln lc) ∧ X0.cell? ⟨w.heap.size + 1, 3, none⟩ = some (.slice (some ⟨b', off', none⟩) ln lc') ∧ X0.cell? ⟨b, off + i * 4, none⟩ = some (.int .i64 yk) ∧ X0.cell? ⟨b, off + i * 4 + 1, none⟩ = some (.string ys') ∧ X0.cell? ⟨b, off + i * 4 + 2, none⟩ = some (.slice pa pn pc) ∧ X0.cell? ⟨b, off + i * 4 + 3, none⟩ = some (.slice qa qn qc) ∧ X0.cell? ⟨b', off' + i * 4, none⟩ = some (.int .i64 zk) ∧ X0.cell? ⟨b', off' + i * 4 + 1, none⟩ = some (.string zs) ∧ X0.cell? ⟨b', off' + i * 4 + 2, none⟩ = some (.slice pa' pn' pc') ∧ X0.cell? ⟨b', off' + i * 4 + 3, none⟩ = some (.slice qa' qn' qc')) (by kernel_rfl) (HSX.out _ HBR.out.drew) (fun hHeld => ?_)
              have HMD : Hid (Below w1.heap.size w1 wo.drew) := HBR.out.drew
              clear v0 v1 v2 v3 u0 u1 u2 u3
              generalize wo.drew = w8 at *
              refine takeD (i := 0) (v := ?v25) (some 84) rfl (by kernel_rfl) (by kernel_rfl) (by kernel_rfl) (fun _ _ _ h => h) (Or.inl ⟨by rfl, ?hy25⟩) (HSX.out _ HMD.out) (by rfl) ?rest25
              case hy25 => first | (intro w hSw; (try dsimp only at hSw); obtain ⟨s0, s1, s2, s3, s4, s5, s6, s7, s8, s9⟩ := hSw; go_simp; done) | (intro w hSw; (try dsimp only at hSw); obtain ⟨s0, s1, s2, s3, s4, s5, s6, s7, s8, s9⟩ := hSw; go_simp; with_reducible rfl)
              try simp only [Act.put, List.setIfInBounds_toArray, List.set_cons_zero, List.set_cons_succ, vagg]
              refine takeD (i := 1) (v := ?v26) (some 85) rfl (by kernel_rfl) (by kernel_rfl) (by kernel_rfl) (fun _ _ _ h => h) (Or.inl ⟨by rfl, ?hy26⟩) (HSX.out _ HMD.out) (by rfl) ?rest26
              case hy26 => first | (intro w hSw; (try dsimp only at hSw); obtain ⟨s0, s1, s2, s3, s4, s5, s6, s7, s8, s9⟩ := hSw; go_simp; done) | (intro w hSw; (try dsimp only at hSw); obtain ⟨s0, s1, s2, s3, s4, s5, s6, s7, s8, s9⟩ := hSw; go_simp; with_reducible rfl)
              try simp only [Act.put, List.setIfInBounds_toArray, List.set_cons_zero, List.set_cons_succ, vagg]
              refine takeD (i := 2) (v := ?v27) (some 86) rfl (by kernel_rfl) (by kernel_rfl) (by kernel_rfl) (fun _ _ _ h => h) (Or.inl ⟨by rfl, ?hy27⟩) (HSX.out _ HMD.out) (by rfl) ?rest27
              case hy27 => first | (intro w hSw; (try dsimp only at hSw); obtain ⟨s0, s1, s2, s3, s4, s5, s6, s7, s8, s9⟩ := hSw; go_simp; done) | (intro w hSw; (try dsimp only at hSw); obtain ⟨s0, s1, s2, s3, s4, s5, s6, s7, s8, s9⟩ := hSw; go_simp; with_reducible rfl)
              try simp only [Act.put, List.setIfInBounds_toArray, List.set_cons_zero, List.set_cons_succ, vagg]
              refine takeD (i := 3) (v := ?v28) (some 87) rfl (by kernel_rfl) (by kernel_rfl) (by kernel_rfl) (fun _ _ _ h => h) (Or.inl ⟨by rfl, ?hy28⟩) (HSX.out _ HMD.out) (by rfl) ?rest28
              case hy28 => first | (intro w hSw; (try dsimp only at hSw); obtain ⟨s0, s1, s2, s3, s4, s5, s6, s7, s8, s9⟩ := hSw; go_simp; done) | (intro w hSw; (try dsimp only at hSw); obtain ⟨s0, s1, s2, s3, s4, s5, s6, s7, s8, s9⟩ := hSw; go_simp; with_reducible rfl)
              try simp only [Act.put, List.setIfInBounds_toArray, List.set_cons_zero, List.set_cons_succ, vagg]
              refine takeD (i := 4) (v := ?v29) (some 88) rfl (by kernel_rfl) (by kernel_rfl) (by kernel_rfl) (fun _ _ _ h => h) (Or.inl ⟨by rfl, ?hy29⟩) (HSX.out _ HMD.out) (by rfl) ?rest29
              case hy29 => first | (intro w hSw; (try dsimp only at hSw); obtain ⟨s0, s1, s2, s3, s4, s5, s6, s7, s8, s9⟩ := hSw; go_simp; done) | (intro w hSw; (try dsimp only at hSw); obtain ⟨s0, s1, s2, s3, s4, s5, s6, s7, s8, s9⟩ := hSw; go_simp; with_reducible rfl)
              try simp only [Act.put, List.setIfInBounds_toArray, List.set_cons_zero, List.set_cons_succ, vagg]
              refine takeD (i := 5) (v := ?v30) (some 89) rfl (by kernel_rfl) (by kernel_rfl) (by kernel_rfl) (fun _ _ _ h => h) (Or.inl ⟨by rfl, ?hy30⟩) (HSX.out _ HMD.out) (by rfl) ?rest30
              case hy30 => first | (intro w hSw; (try dsimp only at hSw); obtain ⟨s0, s1, s2, s3, s4, s5, s6, s7, s8, s9⟩ := hSw; go_simp; done) | (intro w hSw; (try dsimp only at hSw); obtain ⟨s0, s1, s2, s3, s4, s5, s6, s7, s8, s9⟩ := hSw; go_simp; with_reducible rfl)
              try simp only [Act.put, List.setIfInBounds_toArray, List.set_cons_zero, List.set_cons_succ, vagg]
              refine takeD (i := 6) (v := ?v31) (some 90) rfl (by kernel_rfl) (by kernel_rfl) (by kernel_rfl) (fun _ _ _ h => h) (Or.inl ⟨by rfl, ?hy31⟩) (HSX.out _ HMD.out) (by rfl) ?rest31
              case hy31 => first | (intro w hSw; (try dsimp only at hSw); obtain ⟨s0, s1, s2, s3, s4, s5, s6, s7, s8, s9⟩ := hSw; go_simp; done) | (intro w hSw; (try dsimp only at hSw); obtain ⟨s0, s1, s2, s3, s4, s5, s6, s7, s8, s9⟩ := hSw; go_simp; with_reducible rfl)
              try simp only [Act.put, List.setIfInBounds_toArray, List.set_cons_zero, List.set_cons_succ, vagg]
              refine takeD (i := 7) (v := ?v32) (some 91) rfl (by kernel_rfl) (by kernel_rfl) (by kernel_rfl) (fun _ _ _ h => h) (Or.inl ⟨by rfl, ?hy32⟩) (HSX.out _ HMD.out) (by rfl) ?rest32
              case hy32 => first | (intro w hSw; (try dsimp only at hSw); obtain ⟨s0, s1, s2, s3, s4, s5, s6, s7, s8, s9⟩ := hSw; go_simp; done) | (intro w hSw; (try dsimp only at hSw); obtain ⟨s0, s1, s2, s3, s4, s5, s6, s7, s8, s9⟩ := hSw; go_simp; with_reducible rfl)
              try simp only [Act.put, List.setIfInBounds_toArray, List.set_cons_zero, List.set_cons_succ, vagg]
              refine takeD (i := 8) (v := ?v33) (some 92) rfl (by kernel_rfl) (by kernel_rfl) (by kernel_rfl) (fun _ _ _ h => h) (Or.inl ⟨by rfl, ?hy33⟩) (HSX.out _ HMD.out) (by rfl) ?rest33
              case hy33 => first | (intro w hSw; (try dsimp only at hSw); obtain ⟨s0, s1, s2, s3, s4, s5, s6, s7, s8, s9⟩ := hSw; go_simp; done) | (intro w hSw; (try dsimp only at hSw); obtain ⟨s0, s1, s2, s3, s4, s5, s6, s7, s8, s9⟩ := hSw; go_simp; with_reducible rfl)
              try simp only [Act.put, List.setIfInBounds_toArray, List.set_cons_zero, List.set_cons_succ, vagg]
              refine takeD (i := 9) (v := ?v34) (some 93) rfl (by kernel_rfl) (by kernel_rfl) (by kernel_rfl) (fun _ _ _ h => h) (Or.inl ⟨by rfl, ?hy34⟩) (HSX.out _ HMD.out) (by rfl) ?rest34
              case hy34 => first | (intro w hSw; (try dsimp only at hSw); obtain ⟨s0, s1, s2, s3, s4, s5, s6, s7, s8, s9⟩ := hSw; go_simp; done) | (intro w hSw; (try dsimp only at hSw); obtain ⟨s0, s1, s2, s3, s4, s5, s6, s7, s8, s9⟩ := hSw; go_simp; with_reducible rfl)
              try simp only [Act.put, List.setIfInBounds_toArray, List.set_cons_zero, List.set_cons_succ, vagg]
              refine wpAnyH_ready (rs := [10]) (by kernel_rfl) (by simp) ?_
              refine AllReadyH.cons rfl (fun K hK => ?_) AllReadyH.nil
              go_simp
              refine (HCALL.out w8 HMD.out).mono ?_
              rintro e w4 ⟨rfl, hB4⟩
              have HB4 := hide (HMD.out.trans (hB4.mono HMD.out.size))
              refine hK.out _ _ (HSX.out _ HB4.out) (fun _ => ?_)
              clear hK K hB4
              try simp only [Act.put, List.setIfInBounds_toArray, List.set_cons_zero, List.set_cons_succ, vagg]
              obtain ⟨r, hr⟩ : ∃ r, eqJ Ti Ui = r := ⟨_, rfl⟩
              have HR := hide hr
              rw [hr]
              clear hr
              cases r
              · refine takeD (i := 11) (v := ?v35) (some 95) rfl (by kernel_rfl) (by kernel_rfl) (by kernel_rfl) (fun _ _ _ h => h) (Or.inl ⟨by rfl, ?hy35⟩) (HSX.out _ HB4.out) (by rfl) ?rest35
                case hy35 => first | (intro w hSw; (try dsimp only at hSw); obtain ⟨s0, s1, s2, s3, s4, s5, s6, s7, s8, s9⟩ := hSw; go_simp; done) | (intro w hSw; (try dsimp only at hSw); obtain ⟨s0, s1, s2, s3, s4, s5, s6, s7, s8, s9⟩ := hSw; go_simp; with_reducible rfl)
                try simp only [Act.put, List.setIfInBounds_toArray, List.set_cons_zero, List.set_cons_succ, vagg]
                refine wpAnyH_done (by kernel_rfl) ?_ _
                go_wp2
                go_ret
                refine ⟨?_, HB1.out.trans (HB4.out.mono HB1.out.size)⟩
                have hf : eqJ (.mk 6 s K L) (.mk 6 s' K' L') = false := Bool.eq_false_iff.2 (fun h => by have := ((eqJ_parts (.inr rfl)).1 h).2.2 i Ti Ui HTI.out HUI.out; rw [HR.out] at this; cases this)
                rw [hf]
                rfl
              · refine takeD (i := 11) (v := ?v36) (some 95) rfl (by kernel_rfl) (by kernel_rfl) (by kernel_rfl) (fun _ _ _ h => h) (Or.inl ⟨by rfl, ?hy36⟩) (HSX.out _ HB4.out) (by rfl) ?rest36
                case hy36 => first | (intro w hSw; (try dsimp only at hSw); obtain ⟨s0, s1, s2, s3, s4, s5, s6, s7, s8, s9⟩ := hSw; go_simp; done) | (intro w hSw; (try dsimp only at hSw); obtain ⟨s0, s1, s2, s3, s4, s5, s6, s7, s8, s9⟩ := hSw; go_simp; with_reducible rfl)
                try simp only [Act.put, List.setIfInBounds_toArray, List.set_cons_zero, List.set_cons_succ, vagg]
                refine wpAnyH_done (by kernel_rfl) ?_ _
                go_wp2
                go_roundw
                case rel =>
                  refine ⟨i1, by have := HI.out; omega, by first | rfl | go_num, HB4.out, fun q a b hq ha hb => ?_⟩
                  rcases Nat.lt_or_ge q i with h | h
                  · exact HL.out q a b h ha hb
                  · obtain rfl : q = i := by have := HI.out; omega
                    rw [HTI.out] at ha
                    rw [HUI.out] at hb
                    cases ha
                    cases hb
                    exact HR.out
                case measure => have := HI.out; simp [RowKit.intOf]; omega
            · obtain rfl : i = ln := by omega
              have d5 : ¬ (i : Int) < (i : Int) := by omega
              clear hlt hi
              go_wp2
              go_ret
              refine ⟨?_, HB1.out.trans (HBR.out.mono HB1.out.size)⟩
              rw [(eqJ_parts (.inr rfl)).2 ⟨fun _ => HQK.out, by have := HLN.out; have := HLN'.out; omega, fun q a b ha hb => HL.out q a b (by have := (List.getElem?_eq_some_iff.1 ha).1; have := HLN.out; omega) ha hb⟩]
              rfl
    obtain ⟨v0, v1, v2, v3, u0, u1, u2, u3⟩ := HV.out _ (Below.refl _ _)
    have d3 : (k == 3) = false := by simpa using h3
    have d4 : (k == 4) = false := by simpa using h4
    have d5 : (k != 5) = true := by simpa using h5
    have d6 : (k != 6) = true := by simpa using h6
    have HKK := hide (And.intro h3 (And.intro h4 (And.intro h5 h6)))
    go_enter Tryd.func12, Tryd.ntmps12
    go_upto_region 1 with fail
    rw [HW1.out]
    clear HW1
    go_wp2
    go_ret
    refine ⟨?_, HB1.out⟩
    rw [eqJ_plain HKK.out.1 HKK.out.2.1 HKK.out.2.2.1 HKK.out.2.2.2]
    rfl

end Go.Proofs.YtcedcbonphgecaaDoor
