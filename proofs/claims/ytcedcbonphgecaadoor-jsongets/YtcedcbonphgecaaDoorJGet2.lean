/- Json: Get. -/
import Derived.Test.YtcedcbonphgecaaDoorJGet
namespace Go.Proofs.YtcedcbonphgecaaDoor
set_option linter.unusedVariables false
set_option linter.unusedSimpArgs false
set_option maxRecDepth 100000
open Go Go.RowKit Go.Shelf Go.Lib


set_option maxHeartbeats 16000000 in
theorem get_any {S : Nat → Prop} {x : JC} {T : JT} (s : ByteArray) (w : World) (h : TIn w S x T) (hl : LtT T) : Calls Tryd.prog 18 #[vagg x, .string s] w (GetR (getJ T s) w) := by
  cases h with
  | mk k s0 kv la lc K L xs hK hc hsl ht =>
    obtain ⟨_, _, _, _, hKl, hLl, hsz, hll⟩ := hl
    obtain ⟨ka, kc, rfl, hKc⟩ := hK
    have hKS : StrsS w S (.slice ka K.length kc) K := ⟨ka, kc, rfl, hKc⟩
    unfold vagg
    simp only
    obtain ⟨kn, hkn⟩ : ∃ kn, K.length = kn := ⟨_, rfl⟩
    obtain ⟨n, hn⟩ : ∃ n, L.length = n := ⟨_, rfl⟩
    have HGJ : Hid (getJ (.mk k s0 K L) s = if k = 6 ∧ kn = n then (fndK K s).bind (fun j => L[j]?) else none) := by
      rw [Hid, ← hkn, ← hn]
      rfl
    rw [hkn] at hKS
    rw [hkn, hn]
    have hb : Below w.heap.size w ((w.alloc (.cells #[.int .i64 k, .string s0, .slice ka kn kc, .slice la n lc] 27)).alloc (.cells #[.int .i64 0, .string ⟨#[]⟩, .slice none 0 0, .slice none 0 0] 27)) := (bel w _).alloc (by simp) _
    have hp := (BoxC.new w 27 #[.int .i64 k, .string s0, .slice ka kn kc, .slice la n lc]).alloc (.cells #[.int .i64 0, .string ⟨#[]⟩, .slice none 0 0, .slice none 0 0] 27)
    have hq := BoxC.new (w.alloc (.cells #[.int .i64 k, .string s0, .slice ka kn kc, .slice la n lc] 27)) 27 #[.int .i64 0, .string ⟨#[]⟩, .slice none 0 0, .slice none 0 0]
    rw [World.size_alloc] at hq
    generalize hw0 : (w.alloc (.cells #[.int .i64 k, .string s0, .slice ka kn kc, .slice la n lc] 27)).alloc (.cells #[.int .i64 0, .string ⟨#[]⟩, .slice none 0 0, .slice none 0 0] 27) = w0 at *
    have HIX := hide (fun W (hW : Below w0.heap.size w0 W) => idx_any s W (hKS.keep (W' := W) (S' := S) (fun b hs hlt => ⟨hs, (hb.trans (hW.mono hb.size)).block b hlt⟩)) (by omega))
    have HPC : Hid (∀ W, Below w0.heap.size w0 W → ∀ i, i < n → ∃ b off, la = some ⟨b, off, none⟩ ∧ ∀ r, r < 4 → W.cell? ⟨b, off + (i * 4 + r), none⟩ = (vcell (xs i))[r]?) := fun W hW i hi => by
      obtain ⟨b, off, e, _, hx⟩ := hc i (by omega)
      refine ⟨b, off, e, fun r hr => ?_⟩
      have h0 := hx 0 (by omega)
      simp only [vcell, List.getElem?_cons_zero] at h0
      exact ((hb.trans (hW.mono hb.size)).cell (p := ⟨b, off + (i * 4 + r), none⟩) (block_lt h0)).trans (hx r hr)
    have HKC : Hid (∀ W, Below w0.heap.size w0 W → ∀ j, j < kn → ∃ b off, ka = some ⟨b, off, none⟩ ∧ W.cell? ⟨b, off + j, none⟩ = some (.string (nthS K j))) := fun W hW j hj => by
      obtain ⟨b, off, e, _, hx⟩ := hKc j (by omega)
      exact ⟨b, off, e, ((hb.trans (hW.mono hb.size)).cell (p := ⟨b, off + j, none⟩) (block_lt hx)).trans hx⟩
    have HPT : Hid (∀ i, i < n → ∃ Ti, L[i]? = some Ti ∧ TIn w S (xs i) Ti ∧ LtT Ti ∧ IsSl (xs i).2.2.1 ∧ IsSl (xs i).2.2.2) := fun i hi => ⟨L[i]'(by omega), List.getElem?_eq_getElem _, ht i (by omega), hll i (by omega), (hsl i (by omega)).1, (hsl i (by omega)).2⟩
    have p0 : w0.cell? ⟨w.heap.size, 0, none⟩ = some (.int .i64 k) := hp.cell 0
    have p1 : w0.cell? ⟨w.heap.size, 1, none⟩ = some (.string s0) := hp.cell 1
    have p2 : w0.cell? ⟨w.heap.size, 2, none⟩ = some (.slice ka kn kc) := hp.cell 2
    have p3 : w0.cell? ⟨w.heap.size, 3, none⟩ = some (.slice la n lc) := hp.cell 3
    have z0 := hq.cell 0
    have z1 := hq.cell 1
    have z2 := hq.cell 2
    have z3 := hq.cell 3
    simp only [List.getElem?_toArray, List.getElem?_cons_zero, List.getElem?_cons_succ] at z0 z1 z2 z3
    have y0 := hq.frozen 0
    have y1 := hq.frozen 1
    have y2 := hq.frozen 2
    have y3 := hq.frozen 3
    have lX := hq.lt
    have HKN : Hid (kn ≤ 100) := by show kn ≤ 100; omega
    have HKL := hide hkn
    have HW0 := hide hw0
    have HP := hide hp
    have HQ := hide hq
    have HB := hide hb
    clear hw0 hp hq hb hKc hc hsl ht hKS hKl hLl hsz hll hkn hn
    by_cases h6 : k = 6
    rotate_left
    · have d6 : (k == 6) = false := by simpa using h6
      have d6' : (k != 6) = true := by simpa using h6
      have HR : Hid (getJ (.mk k s0 K L) s = none) := by rw [Hid, HGJ.out]; exact if_neg (fun h => h6 h.1)
      clear h6
      go_enter Tryd.func18, Tryd.ntmps18
      go_upto_region 1 with fail
      rw [HW0.out]
      clear HW0
      go_wp2
      refine bodyPost_ret (results_jv2 rfl rfl rfl (resJ_v HQ.out (.int .i64 0) (.string ⟨#[]⟩) (.slice none 0 0) (.slice none 0 0))) rfl ?_
      rw [HR.out]
      exact ⟨zeroC, rfl, below4 HB.out (Nat.le_succ _) _ _ _ _, zero_in _ _⟩
    subst h6
    by_cases hkn : kn = n
    rotate_left
    · have d7 : ((kn : Int) != (n : Int)) = true := by simp; omega
      have HR : Hid (getJ (.mk 6 s0 K L) s = none) := by rw [Hid, HGJ.out]; exact if_neg (fun h => hkn h.2)
      clear hkn
      go_enter Tryd.func18, Tryd.ntmps18
      go_upto_region 1 with fail
      rw [HW0.out]
      clear HW0
      go_wp2
      refine bodyPost_ret (results_jv2 rfl rfl rfl (resJ_v HQ.out (.int .i64 0) (.string ⟨#[]⟩) (.slice none 0 0) (.slice none 0 0))) rfl ?_
      rw [HR.out]
      exact ⟨zeroC, rfl, below4 HB.out (Nat.le_succ _) _ _ _ _, zero_in _ _⟩
    subst hkn
    have d7 : ((kn : Int) != (kn : Int)) = false := by simp
    have HGF : Hid (getJ (.mk 6 s0 K L) s = (fndK K s).bind (fun j => L[j]?)) := by rw [Hid, HGJ.out]; exact if_pos ⟨rfl, rfl⟩
    clear HGJ
    cases hf : fndK K s with
    | none =>
      have HIX0 := hide (HIX.out w0 (Below.refl _ _))
      have HR : Hid (getJ (.mk 6 s0 K L) s = none) := by rw [Hid, HGF.out, hf]; rfl
      have HF := hide hf
      clear hf HIX
      go_enter Tryd.func18, Tryd.ntmps18
      go_upto_region 1 with fail
      rw [HW0.out]
      clear HW0
      go_wp2_with fail
      refine HIX0.out.mono ?_
      rintro e w1 ⟨rfl, hb1⟩
      rw [HF.out]
      simp only [idxV]
      have HB1 := hide (HB.out.trans (hb1.mono HB.out.size))
      have hq1 := HQ.out.below hb1
      have HQ1 := hide hq1
      clear z0 z1 z2 z3 y0 y1 y2 y3 lX p0 p1 p2 p3 hb1
      have z0 := hq1.cell 0
      have z1 := hq1.cell 1
      have z2 := hq1.cell 2
      have z3 := hq1.cell 3
      simp only [List.getElem?_toArray, List.getElem?_cons_zero, List.getElem?_cons_succ] at z0 z1 z2 z3
      have y0 := hq1.frozen 0
      have y1 := hq1.frozen 1
      have y2 := hq1.frozen 2
      have y3 := hq1.frozen 3
      have lX := hq1.lt
      clear hq1
      go_wp2
      refine bodyPost_ret (results_jv2 rfl rfl rfl (resJ_v HQ1.out (.int .i64 0) (.string ⟨#[]⟩) (.slice none 0 0) (.slice none 0 0))) rfl ?_
      rw [HR.out]
      exact ⟨zeroC, rfl, below4 HB1.out (Nat.le_succ _) _ _ _ _, zero_in _ _⟩
    | some j =>
      have HIX0 := hide (HIX.out w0 (Below.refl _ _))
      have hjl : j < kn := by have := fnd_lt hf; have := HKL.out; omega
      obtain ⟨Tj, hTj, hin, hlt, hs2, hs3⟩ := HPT.out j hjl
      have HR : Hid (getJ (.mk 6 s0 K L) s = some Tj) := by rw [Hid, HGF.out, hf]; exact hTj
      have HF := hide hf
      have HCL := hide (fun W (hW : Below w0.heap.size w0 W) => clone_any hin hlt W (HB.out.trans (hW.mono HB.out.size)))
      have hpc := fun W hW => HPC.out W hW j hjl
      generalize xs j = y at *
      obtain ⟨yk, ys', yK, yL⟩ := y
      simp only [vagg, vcell] at hpc hs2 hs3 HCL
      obtain ⟨ka', kl', kc', rfl⟩ := hs2
      obtain ⟨la', ll', lc', rfl⟩ := hs3
      have HPJ := hide hpc
      have HJL := hide hjl
      have d8 : (j : Int) < (kn : Int) := by omega
      have d9 : ¬ (j : Int) < 0 := by omega
      have d10 : (0 : Int) ≤ (j : Int) := by omega
      clear hf HIX hTj hin hlt hpc hjl
      go_enter Tryd.func18, Tryd.ntmps18
      go_upto_region 1 with fail
      rw [HW0.out]
      clear HW0
      go_wp2_with fail
      refine HIX0.out.mono ?_
      rintro e w1 ⟨rfl, hb1⟩
      rw [HF.out]
      simp only [idxV]
      have HB1 := hide (HB.out.trans (hb1.mono HB.out.size))
      have HBI := hide hb1
      have HP1 := hide (HP.out.below hb1)
      have HQ1 := hide (HQ.out.below hb1)
      clear z0 z1 z2 z3 y0 y1 y2 y3 lX p0 p1 p2 p3 hb1
      have p3 : w1.cell? ⟨w.heap.size, 3, none⟩ = some (.slice la kn lc) := HP1.out.cell 3
      obtain ⟨b, off, rfl, hx⟩ := HPJ.out w1 HBI.out
      have x0 := hx 0 (by omega)
      have x1 := hx 1 (by omega)
      have x2 := hx 2 (by omega)
      have x3 := hx 3 (by omega)
      simp only [List.getElem?_cons_zero, List.getElem?_cons_succ, ← Nat.add_assoc, Nat.add_zero] at x0 x1 x2 x3
      clear hx
      go_wp2_with fail
      refine (HCL.out w1 HBI.out).mono ?_
      rintro e w2 ⟨y', rfl, hb2, hT2⟩
      obtain ⟨yk2, ys2, yK2, yL2⟩ := y'
      obtain ⟨hs4, hs5⟩ := hT2.sl
      simp only at hs4 hs5
      obtain ⟨pa, pn, pc, rfl⟩ := hs4
      obtain ⟨qa, qn, qc, rfl⟩ := hs5
      simp only [vagg]
      have HB2 := hide (HB1.out.trans (hb2.mono HB1.out.size))
      have hq2 := HQ1.out.below hb2
      have HQ2 := hide hq2
      have z0 := hq2.cell 0
      have z1 := hq2.cell 1
      have z2 := hq2.cell 2
      have z3 := hq2.cell 3
      simp only [List.getElem?_toArray, List.getElem?_cons_zero, List.getElem?_cons_succ] at z0 z1 z2 z3
      have y0 := hq2.frozen 0
      have y1 := hq2.frozen 1
      have y2 := hq2.frozen 2
      have y3 := hq2.frozen 3
      have lX := hq2.lt
      have HT2 := hide (hT2.keep (W' := (((w2.setCell ⟨w.heap.size + 1, 0, none⟩ (.int .i64 yk2)).setCell ⟨w.heap.size + 1, 1, none⟩ (.string ys2)).setCell ⟨w.heap.size + 1, 2, none⟩ (.slice pa pn pc)).setCell ⟨w.heap.size + 1, 3, none⟩ (.slice qa qn qc)) (S' := fun b => w.heap.size ≤ b) (fun b hs hlt => by
        have hs' : w1.heap.size ≤ b := hs
        have hlq := HQ1.out.lt
        refine ⟨by show w.heap.size ≤ b; omega, ?_⟩
        have hne : b ≠ w.heap.size + 1 := by omega
        rw [Below.heap_setCell _ ⟨w.heap.size + 1, 3, none⟩ _ b hne, Below.heap_setCell _ ⟨w.heap.size + 1, 2, none⟩ _ b hne, Below.heap_setCell _ ⟨w.heap.size + 1, 1, none⟩ _ b hne, Below.heap_setCell _ ⟨w.heap.size + 1, 0, none⟩ _ b hne]))
      clear hq2 hb2 hT2 x0 x1 x2 x3 p3
      go_wp2
      refine bodyPost_ret (results_jv2 rfl rfl rfl (resJ_v HQ2.out (.int .i64 yk2) (.string ys2) (.slice pa pn pc) (.slice qa qn qc))) rfl ?_
      rw [HR.out]
      exact ⟨(yk2, ys2, .slice pa pn pc, .slice qa qn qc), rfl, below4 HB2.out (Nat.le_succ _) _ _ _ _, HT2.out⟩

end Go.Proofs.YtcedcbonphgecaaDoor
