/- Json: the reference's Get. -/
import Derived.Test.YtcedcbonphgecaaDoorJGet2
namespace Go.Proofs.YtcedcbonphgecaaDoor
set_option linter.unusedVariables false
set_option linter.unusedSimpArgs false
set_option maxRecDepth 100000
open Go Go.RowKit Go.Shelf Go.Lib

/-- What the reference's Get answers. -/
def RGetR (S : Nat → Prop) (o : Option JT) (w : World) (e : Ending) (w' : World) : Prop := ∃ y : JC, e = .returned (.tuple #[vagg y, .bool o.isSome]) ∧ Below w.heap.size w w' ∧ TIn w' S y (o.getD zeroT)

set_option maxHeartbeats 16000000 in
theorem rget_any {S : Nat → Prop} {x : JC} {T : JT} (s : ByteArray) (w : World) (h : TIn w S x T) (hl : LtT T) : Calls Tryd.prog 19 #[vagg x, .string s] w (RGetR S (getJ T s) w) := by
  cases h with
  | mk k s0 kv la lc K L xs hK hc hsl ht =>
    obtain ⟨_, _, _, _, hKl, hLl, hsz, hll⟩ := hl
    obtain ⟨ka, kc, rfl, hKc⟩ := hK
    have hKS : StrsS w S (.slice ka K.length kc) K := ⟨ka, kc, rfl, hKc⟩
    unfold vagg
    simp only
    obtain ⟨kn, hkn⟩ : ∃ kn, K.length = kn := ⟨_, rfl⟩
    obtain ⟨n, hn⟩ : ∃ n, L.length = n := ⟨_, rfl⟩
    have HGJ : Hid (getJ (.mk k s0 K L) s = if k = 6 ∧ kn = n then (fndK K s).bind (fun j => L[j]?) else none) := by
      rw [Hid, ← hkn, ← hn]
      rfl
    rw [hkn] at hKS
    rw [hkn, hn]
    have hb : Below w.heap.size w ((w.alloc (.cells #[.int .i64 k, .string s0, .slice ka kn kc, .slice la n lc] 33)).alloc (.cells #[.int .i64 0, .string ⟨#[]⟩, .slice none 0 0, .slice none 0 0] 33)) := (bel w _).alloc (by simp) _
    have hp := (BoxC.new w 33 #[.int .i64 k, .string s0, .slice ka kn kc, .slice la n lc]).alloc (.cells #[.int .i64 0, .string ⟨#[]⟩, .slice none 0 0, .slice none 0 0] 33)
    have hq := BoxC.new (w.alloc (.cells #[.int .i64 k, .string s0, .slice ka kn kc, .slice la n lc] 33)) 33 #[.int .i64 0, .string ⟨#[]⟩, .slice none 0 0, .slice none 0 0]
    rw [World.size_alloc] at hq
    generalize hw0 : (w.alloc (.cells #[.int .i64 k, .string s0, .slice ka kn kc, .slice la n lc] 33)).alloc (.cells #[.int .i64 0, .string ⟨#[]⟩, .slice none 0 0, .slice none 0 0] 33) = w0 at *
    have HIX := hide (fun W (hW : Below w0.heap.size w0 W) => idx_any s W (hKS.keep (W' := W) (S' := S) (fun b hs hlt => ⟨hs, (hb.trans (hW.mono hb.size)).block b hlt⟩)) (by omega))
    have HPC : Hid (∀ W, Below w0.heap.size w0 W → ∀ i, i < n → ∃ b off, la = some ⟨b, off, none⟩ ∧ ∀ r, r < 4 → W.cell? ⟨b, off + (i * 4 + r), none⟩ = (vcell (xs i))[r]?) := fun W hW i hi => by
      obtain ⟨b, off, e, _, hx⟩ := hc i (by omega)
      refine ⟨b, off, e, fun r hr => ?_⟩
      have h0 := hx 0 (by omega)
      simp only [vcell, List.getElem?_cons_zero] at h0
      exact ((hb.trans (hW.mono hb.size)).cell (p := ⟨b, off + (i * 4 + r), none⟩) (block_lt h0)).trans (hx r hr)
    have HKC : Hid (∀ W, Below w0.heap.size w0 W → ∀ j, j < kn → ∃ b off, ka = some ⟨b, off, none⟩ ∧ W.cell? ⟨b, off + j, none⟩ = some (.string (nthS K j))) := fun W hW j hj => by
      obtain ⟨b, off, e, _, hx⟩ := hKc j (by omega)
      exact ⟨b, off, e, ((hb.trans (hW.mono hb.size)).cell (p := ⟨b, off + j, none⟩) (block_lt hx)).trans hx⟩
    have HPT : Hid (∀ i, i < n → ∃ Ti, L[i]? = some Ti ∧ TIn w S (xs i) Ti ∧ LtT Ti ∧ IsSl (xs i).2.2.1 ∧ IsSl (xs i).2.2.2) := fun i hi => ⟨L[i]'(by omega), List.getElem?_eq_getElem _, ht i (by omega), hll i (by omega), (hsl i (by omega)).1, (hsl i (by omega)).2⟩
    have p0 : w0.cell? ⟨w.heap.size, 0, none⟩ = some (.int .i64 k) := hp.cell 0
    have p1 : w0.cell? ⟨w.heap.size, 1, none⟩ = some (.string s0) := hp.cell 1
    have p2 : w0.cell? ⟨w.heap.size, 2, none⟩ = some (.slice ka kn kc) := hp.cell 2
    have p3 : w0.cell? ⟨w.heap.size, 3, none⟩ = some (.slice la n lc) := hp.cell 3
    have z0 := hq.cell 0
    have z1 := hq.cell 1
    have z2 := hq.cell 2
    have z3 := hq.cell 3
    simp only [List.getElem?_toArray, List.getElem?_cons_zero, List.getElem?_cons_succ] at z0 z1 z2 z3
    have y0 := hq.frozen 0
    have y1 := hq.frozen 1
    have y2 := hq.frozen 2
    have y3 := hq.frozen 3
    have lX := hq.lt
    have HKN : Hid (kn ≤ 100) := by show kn ≤ 100; omega
    have HKL := hide hkn
    have HW0 := hide hw0
    have HP := hide hp
    have HQ := hide hq
    have HB := hide hb
    clear hw0 hp hq hb hKc hc hsl ht hKS hKl hLl hsz hll hkn hn
    by_cases h6 : k = 6
    rotate_left
    · have d6 : (k == 6) = false := by simpa using h6
      have d6' : (k != 6) = true := by simpa using h6
      have HR : Hid (getJ (.mk k s0 K L) s = none) := by rw [Hid, HGJ.out]; exact if_neg (fun h => h6 h.1)
      clear h6
      go_enter Tryd.func19, Tryd.ntmps19
      go_upto_region 1 with fail
      rw [HW0.out]
      clear HW0
      go_wp2
      refine bodyPost_ret (results_rv2 rfl rfl rfl (resJ_v HQ.out (.int .i64 0) (.string ⟨#[]⟩) (.slice none 0 0) (.slice none 0 0))) rfl ?_
      rw [HR.out]
      exact ⟨zeroC, rfl, below4 HB.out (Nat.le_succ _) _ _ _ _, zero_in _ _⟩
    subst h6
    by_cases hkn : kn = n
    rotate_left
    · have d7 : ((kn : Int) != (n : Int)) = true := by simp; omega
      have HR : Hid (getJ (.mk 6 s0 K L) s = none) := by rw [Hid, HGJ.out]; exact if_neg (fun h => hkn h.2)
      clear hkn
      go_enter Tryd.func19, Tryd.ntmps19
      go_upto_region 1 with fail
      rw [HW0.out]
      clear HW0
      go_wp2
      refine bodyPost_ret (results_rv2 rfl rfl rfl (resJ_v HQ.out (.int .i64 0) (.string ⟨#[]⟩) (.slice none 0 0) (.slice none 0 0))) rfl ?_
      rw [HR.out]
      exact ⟨zeroC, rfl, below4 HB.out (Nat.le_succ _) _ _ _ _, zero_in _ _⟩
    subst hkn
    have d7 : ((kn : Int) != (kn : Int)) = false := by simp
    have HGF : Hid (getJ (.mk 6 s0 K L) s = (fndK K s).bind (fun j => L[j]?)) := by rw [Hid, HGJ.out]; exact if_pos ⟨rfl, rfl⟩
    clear HGJ
    clear HIX
    go_enter Tryd.func19, Tryd.ntmps19
    go_upto_region 1 with fail
    rw [HW0.out]
    clear HW0
    go_wp2
    go_loopw [6] (fun iv wr => ∃ j : Nat, j ≤ kn ∧ iv = .int .i64 (j : Int) ∧ wr = w0 ∧ ∀ q, q < j → nthS K q ≠ s) (fun iv _ => kn - (RowKit.intOf iv).toNat)
    case atStart => exact ⟨0, Nat.zero_le _, rfl, rfl, fun q h => by omega⟩
    case round =>
      obtain ⟨j, hj, rfl, rfl, hQ⟩ := hrel
      have HQQ := hide hQ
      clear hQ
      by_cases hlt : j < kn
      · obtain ⟨b, off, rfl, cx⟩ := HKC.out _ (Below.refl _ _) j hlt
        obtain ⟨j1, hj1⟩ : ∃ j1, j + 1 = j1 := ⟨_, rfl⟩
        have e2 : (j : Int) + 1 = (j1 : Int) := by omega
        have g1 : (j1 : Int) ≤ 1000000000 := by have := HKN.out; omega
        have d5 : (j : Int) < (kn : Int) := by omega
        have d0 : (0 : Int) ≤ (j : Int) := by omega
        have HI := hide (And.intro hlt hj1)
        obtain ⟨t, htt⟩ : ∃ t, nthS K j = t := ⟨_, rfl⟩
        rw [htt] at cx
        have HTJ := hide htt
        clear hlt hj1 hj htt
        by_cases htu : t = s
        · subst htu
          obtain ⟨Tj, hTj, hin, _, hs2, hs3⟩ := HPT.out j HI.out.1
          have HR : Hid (getJ (.mk 6 s0 K L) t = some Tj) := by
            rw [Hid, HGF.out, fnd_hit (by have := HI.out; have := HKL.out; omega) HTJ.out HQQ.out]
            exact hTj
          obtain ⟨b', off', rfl, hx⟩ := HPC.out _ (Below.refl _ _) j HI.out.1
          have HIN := hide hin
          generalize xs j = y at *
          obtain ⟨yk, ys', yK, yL⟩ := y
          simp only [vcell] at hx hs2 hs3
          obtain ⟨ka', kl', kc', rfl⟩ := hs2
          obtain ⟨la', ll', lc', rfl⟩ := hs3
          have x0 := hx 0 (by omega)
          have x1 := hx 1 (by omega)
          have x2 := hx 2 (by omega)
          have x3 := hx 3 (by omega)
          simp only [List.getElem?_cons_zero, List.getElem?_cons_succ, ← Nat.add_assoc, Nat.add_zero] at x0 x1 x2 x3
          clear hx hTj hin
          go_wp2
          refine bodyPost_ret (results_rv2 rfl rfl rfl (resJ_v HQ.out (.int .i64 yk) (.string ys') (.slice ka' kl' kc') (.slice la' ll' lc'))) rfl ?_
          rw [HR.out]
          exact ⟨(yk, ys', .slice ka' kl' kc', .slice la' ll' lc'), rfl, below4 HB.out (Nat.le_succ _) _ _ _ _, HIN.out.bel (below4 HB.out (Nat.le_succ _) _ _ _ _)⟩
        · have dne : (t.toList == s.toList) = false := str_ne htu
          have HKK := hide htu
          clear htu
          go_wp2
          go_roundw
          case rel =>
            refine ⟨j1, by have := HI.out; omega, by first | rfl | go_num, by first | rfl | trivial, fun q hq => ?_⟩
            rcases Nat.lt_or_ge q j with h | h
            · exact HQQ.out q h
            · obtain rfl : q = j := by have := HI.out; omega
              rw [HTJ.out]
              exact HKK.out
          case measure => have := HI.out; simp [RowKit.intOf]; omega
      · obtain rfl : j = kn := by omega
        have d5 : ¬ (j : Int) < (j : Int) := by omega
        have HR : Hid (getJ (.mk 6 s0 K L) s = none) := by
          rw [Hid, HGF.out, fnd_none (fun q hq => HQQ.out q (by have := HKL.out; omega))]
          rfl
        clear hlt hj
        go_wp2
        refine bodyPost_ret (results_rv2 rfl rfl rfl (resJ_v HQ.out (.int .i64 0) (.string ⟨#[]⟩) (.slice none 0 0) (.slice none 0 0))) rfl ?_
        rw [HR.out]
        exact ⟨zeroC, rfl, below4 HB.out (Nat.le_succ _) _ _ _ _, zero_in _ _⟩

end Go.Proofs.YtcedcbonphgecaaDoor
