/- Json: slices.Index; Get, and the reference's; Of. -/
import Derived.Test.YtcedcbonphgecaaDoorJClo
import Derived.Test.YtcedcbonphgecaaDoorJInts
import Derived.Lib.AppendIntMem
namespace Go.Proofs.YtcedcbonphgecaaDoor
set_option linter.unusedVariables false
set_option linter.unusedSimpArgs false
set_option maxRecDepth 100000
open Go Go.RowKit Go.Shelf Go.Lib

theorem results_jv2 {fn : Func} {i k : Tmp} (h : fn.results = #[.cell i 27, .tmp k]) {tmps : Array Value} {W : World} {b : Nat} {x y z u : Value} {t : TypeId} {ev : Value} (hp : tmps.getD i undef = .pointer (some ⟨b, 0, none⟩)) (he : tmps.getD k undef = ev) (T : BoxC W b t #[x, y, z, u]) :
    (results fn tmps).run Tryd.prog W = .ok (.tuple #[.agg #[x, y, z, u], ev]) W := by
  have c0 : W.cell? ⟨b, 0, none⟩ = some x := T.cell 0
  have c1 : W.cell? ⟨b, 1, none⟩ = some y := T.cell 1
  have c2 : W.cell? ⟨b, 2, none⟩ = some z := T.cell 2
  have c3 : W.cell? ⟨b, 3, none⟩ = some u := T.cell 3
  have hp' : tmps[i]?.getD undef = .pointer (some ⟨b, 0, none⟩) := by simpa using hp
  have he' : tmps[k]?.getD undef = ev := by simpa using he
  simp [results, h, hp', he', go_sem, c0, c1, c2, c3]
theorem results_rv2 {fn : Func} {i k : Tmp} (h : fn.results = #[.cell i 33, .tmp k]) {tmps : Array Value} {W : World} {b : Nat} {x y z u : Value} {t : TypeId} {ev : Value} (hp : tmps.getD i undef = .pointer (some ⟨b, 0, none⟩)) (he : tmps.getD k undef = ev) (T : BoxC W b t #[x, y, z, u]) :
    (results fn tmps).run Tryd.prog W = .ok (.tuple #[.agg #[x, y, z, u], ev]) W := by
  have c0 : W.cell? ⟨b, 0, none⟩ = some x := T.cell 0
  have c1 : W.cell? ⟨b, 1, none⟩ = some y := T.cell 1
  have c2 : W.cell? ⟨b, 2, none⟩ = some z := T.cell 2
  have c3 : W.cell? ⟨b, 3, none⟩ = some u := T.cell 3
  have hp' : tmps[i]?.getD undef = .pointer (some ⟨b, 0, none⟩) := by simpa using hp
  have he' : tmps[k]?.getD undef = ev := by simpa using he
  simp [results, h, hp', he', go_sem, c0, c1, c2, c3]

/-- Where a string stands first in a row. -/
def fndK : List ByteArray → ByteArray → Option Nat
  | [], _ => none
  | a :: l, s => if a = s then some 0 else (fndK l s).map (· + 1)
theorem fnd_hit : ∀ {K : List ByteArray} {s : ByteArray} {j : Nat}, j < K.length → nthS K j = s → (∀ q, q < j → nthS K q ≠ s) → fndK K s = some j
  | [], _, j, h, _, _ => absurd h (by simp)
  | a :: l, s, 0, _, h, _ => by
    have h : a = s := by simpa [nthS] using h
    rw [fndK, if_pos h]
  | a :: l, s, j + 1, h1, h2, h3 => by
    have h0 : a ≠ s := by have := h3 0 (by omega); simpa [nthS] using this
    rw [fndK, if_neg h0, fnd_hit (K := l) (j := j) (by simpa using h1) (by simpa [nthS] using h2) (fun q hq => by have := h3 (q + 1) (by omega); simpa [nthS] using this)]
    rfl
theorem fnd_none : ∀ {K : List ByteArray} {s : ByteArray}, (∀ q, q < K.length → nthS K q ≠ s) → fndK K s = none
  | [], _, _ => rfl
  | a :: l, s, h => by
    have h0 : a ≠ s := by have := h 0 (by simp); simpa [nthS] using this
    rw [fndK, if_neg h0, fnd_none (K := l) (fun q hq => by have := h (q + 1) (by simpa using hq); simpa [nthS] using this)]
    rfl
theorem fnd_lt : ∀ {K : List ByteArray} {s : ByteArray} {j : Nat}, fndK K s = some j → j < K.length
  | [], _, _, h => by simp [fndK] at h
  | a :: l, s, j, h => by
    rw [fndK] at h
    split at h
    · cases h; simp
    · obtain ⟨q, hq, rfl⟩ := Option.map_eq_some_iff.1 h
      have := fnd_lt hq
      simp; omega

/-- What Index answers. -/
def idxV (o : Option Nat) : Int := match o with | some j => (j : Int) | none => -1
def IdxR (K : List ByteArray) (s : ByteArray) (w : World) (e : Ending) (w' : World) : Prop := e = .returned (.int .i64 (idxV (fndK K s))) ∧ Below w.heap.size w w'
set_option maxHeartbeats 8000000 in
theorem idx_any {S : Nat → Prop} {u : Value} {K : List ByteArray} (s : ByteArray) (w : World) (h : StrsS w S u K) (hl : K.length ≤ 1000) : Calls Tryd.prog 46 #[u, .string s] w (IdxR K s w) := by
  obtain ⟨ka, kc, rfl, hKc⟩ := h
  obtain ⟨kn, hkn⟩ : ∃ kn, K.length = kn := ⟨_, rfl⟩
  have HKC : Hid (∀ w2, Below w.heap.size w w2 → ∀ j, j < kn → ∃ b off, ka = some ⟨b, off, none⟩ ∧ w2.cell? ⟨b, off + j, none⟩ = some (.string (nthS K j))) := fun w2 h2 j hj => by
    obtain ⟨b, off, e, _, hx⟩ := hKc j (by omega)
    exact ⟨b, off, e, (h2.cell (p := ⟨b, off + j, none⟩) (block_lt hx)).trans hx⟩
  have HKN := hide hkn
  have HH : Hid (kn ≤ 1000) := by show kn ≤ 1000; omega
  rw [hkn]
  clear hKc hkn hl
  go_enter Tryd.func46, Tryd.ntmps46
  go_wp2
  go_loopw [8] (fun iv wr => ∃ j : Nat, j ≤ kn ∧ iv = .int .i64 (j : Int) ∧ Below w.heap.size w wr ∧ ∀ q, q < j → nthS K q ≠ s) (fun iv _ => kn - (RowKit.intOf iv).toNat)
  case atStart => exact ⟨0, Nat.zero_le _, rfl, Below.refl _ _, fun q h => by omega⟩
  case round =>
    obtain ⟨j, hj, rfl, hB, hQ⟩ := hrel
    have HQ := hide hQ
    have HB2 := hide hB
    clear hB hQ
    generalize wr = wo at *
    by_cases hlt : j < kn
    · obtain ⟨b, off, rfl, cx⟩ := HKC.out wo HB2.out j hlt
      obtain ⟨j1, hj1⟩ : ∃ j1, j + 1 = j1 := ⟨_, rfl⟩
      have e2 : (j : Int) + 1 = (j1 : Int) := by omega
      have g1 : (j1 : Int) ≤ 1000000000 := by have := HH.out; omega
      have d5 : (j : Int) < (kn : Int) := by omega
      have d0 : (0 : Int) ≤ (j : Int) := by omega
      have HI := hide (And.intro hlt hj1)
      obtain ⟨t, ht⟩ : ∃ t, nthS K j = t := ⟨_, rfl⟩
      rw [ht] at cx
      have HTJ := hide ht
      clear hlt hj1 hj ht
      by_cases htu : s = t
      · subst htu
        have HR := hide (fnd_hit (K := K) (s := s) (j := j) (by have := HI.out; have := HKN.out; omega) HTJ.out HQ.out)
        go_wp2
        go_ret
        refine ⟨?_, HB2.out⟩
        rw [HR.out]
        rfl
      · have dne : (s.toList == t.toList) = false := str_ne htu
        have HKK := hide htu
        clear htu
        go_wp2
        go_roundw
        case rel =>
          refine ⟨j1, by have := HI.out; omega, by first | rfl | go_num, HB2.out, fun q hq => ?_⟩
          rcases Nat.lt_or_ge q j with h | h
          · exact HQ.out q h
          · obtain rfl : q = j := by have := HI.out; omega
            rw [HTJ.out]
            exact fun e => HKK.out e.symm
        case measure => have := HI.out; simp [RowKit.intOf]; omega
    · obtain rfl : j = kn := by omega
      have d5 : ¬ (j : Int) < (j : Int) := by omega
      have HR := hide (fnd_none (K := K) (s := s) (fun q hq => HQ.out q (by have := HKN.out; omega)))
      clear hlt hj
      go_wp2
      go_ret
      refine ⟨?_, HB2.out⟩
      rw [HR.out]
      rfl

/-- What stands under a key. -/
def getJ (T : JT) (s : ByteArray) : Option JT := match T with
  | .mk k _ K L => if k = 6 ∧ K.length = L.length then (fndK K s).bind (fun j => L[j]?) else none
def zeroT : JT := .mk 0 ⟨#[]⟩ [] []
def zeroC : JC := (0, ⟨#[]⟩, .slice none 0 0, .slice none 0 0)
theorem zero_in (W : World) (S : Nat → Prop) : TIn W S zeroC zeroT := .mk 0 ⟨#[]⟩ (.slice none 0 0) none 0 [] [] (fun _ => zeroC) strs_nil (fun i hi => by simp at hi) (fun i hi => by simp at hi) (fun i hi => by simp at hi)
/-- What Get answers. -/
def GetR (o : Option JT) (w : World) (e : Ending) (w' : World) : Prop := ∃ y : JC, e = .returned (.tuple #[vagg y, .bool o.isSome]) ∧ Below w.heap.size w w' ∧ TIn w' (fun b => w.heap.size ≤ b) y ((o.map clJ).getD zeroT)

set_option maxHeartbeats 16000000 in
theorem get_any {S : Nat → Prop} {x : JC} {T : JT} (s : ByteArray) (w : World) (h : TIn w S x T) (hl : LtT T) : Calls Tryd.prog 18 #[vagg x, .string s] w (GetR (getJ T s) w) := by
  cases h with
  | mk k s0 kv la lc K L xs hK hc hsl ht =>
    obtain ⟨_, _, _, _, hKl, hLl, hsz, hll⟩ := hl
    obtain ⟨ka, kc, rfl, hKc⟩ := hK
    have hKS : StrsS w S (.slice ka K.length kc) K := ⟨ka, kc, rfl, hKc⟩
    unfold vagg
    simp only
    obtain ⟨kn, hkn⟩ : ∃ kn, K.length = kn := ⟨_, rfl⟩
    obtain ⟨n, hn⟩ : ∃ n, L.length = n := ⟨_, rfl⟩
    have HGJ : Hid (getJ (.mk k s0 K L) s = if k = 6 ∧ kn = n then (fndK K s).bind (fun j => L[j]?) else none) := by
      rw [Hid, ← hkn, ← hn]
      rfl
    rw [hkn] at hKS
    rw [hkn, hn]
    have hb : Below w.heap.size w ((w.alloc (.cells #[.int .i64 k, .string s0, .slice ka kn kc, .slice la n lc] 27)).alloc (.cells #[.int .i64 0, .string ⟨#[]⟩, .slice none 0 0, .slice none 0 0] 27)) := (bel w _).alloc (by simp) _
    have hp := (BoxC.new w 27 #[.int .i64 k, .string s0, .slice ka kn kc, .slice la n lc]).alloc (.cells #[.int .i64 0, .string ⟨#[]⟩, .slice none 0 0, .slice none 0 0] 27)
    have hq := BoxC.new (w.alloc (.cells #[.int .i64 k, .string s0, .slice ka kn kc, .slice la n lc] 27)) 27 #[.int .i64 0, .string ⟨#[]⟩, .slice none 0 0, .slice none 0 0]
    rw [World.size_alloc] at hq
    generalize hw0 : (w.alloc (.cells #[.int .i64 k, .string s0, .slice ka kn kc, .slice la n lc] 27)).alloc (.cells #[.int .i64 0, .string ⟨#[]⟩, .slice none 0 0, .slice none 0 0] 27) = w0 at *
    have HIX := hide (fun W (hW : Below w0.heap.size w0 W) => idx_any s W (hKS.keep (W' := W) (S' := S) (fun b hs hlt => ⟨hs, (hb.trans (hW.mono hb.size)).block b hlt⟩)) (by omega))
    have HPC : Hid (∀ W, Below w0.heap.size w0 W → ∀ i, i < n → ∃ b off, la = some ⟨b, off, none⟩ ∧ ∀ r, r < 4 → W.cell? ⟨b, off + (i * 4 + r), none⟩ = (vcell (xs i))[r]?) := fun W hW i hi => by
      obtain ⟨b, off, e, _, hx⟩ := hc i (by omega)
      refine ⟨b, off, e, fun r hr => ?_⟩
      have h0 := hx 0 (by omega)
      simp only [vcell, List.getElem?_cons_zero] at h0
      exact ((hb.trans (hW.mono hb.size)).cell (p := ⟨b, off + (i * 4 + r), none⟩) (block_lt h0)).trans (hx r hr)
    have HKC : Hid (∀ W, Below w0.heap.size w0 W → ∀ j, j < kn → ∃ b off, ka = some ⟨b, off, none⟩ ∧ W.cell? ⟨b, off + j, none⟩ = some (.string (nthS K j))) := fun W hW j hj => by
      obtain ⟨b, off, e, _, hx⟩ := hKc j (by omega)
      exact ⟨b, off, e, ((hb.trans (hW.mono hb.size)).cell (p := ⟨b, off + j, none⟩) (block_lt hx)).trans hx⟩
    have HPT : Hid (∀ i, i < n → ∃ Ti, L[i]? = some Ti ∧ TIn w S (xs i) Ti ∧ LtT Ti ∧ IsSl (xs i).2.2.1 ∧ IsSl (xs i).2.2.2) := fun i hi => ⟨L[i]'(by omega), List.getElem?_eq_getElem _, ht i (by omega), hll i (by omega), (hsl i (by omega)).1, (hsl i (by omega)).2⟩
    have p0 : w0.cell? ⟨w.heap.size, 0, none⟩ = some (.int .i64 k) := hp.cell 0
    have p1 : w0.cell? ⟨w.heap.size, 1, none⟩ = some (.string s0) := hp.cell 1
    have p2 : w0.cell? ⟨w.heap.size, 2, none⟩ = some (.slice ka kn kc) := hp.cell 2
    have p3 : w0.cell? ⟨w.heap.size, 3, none⟩ = some (.slice la n lc) := hp.cell 3
    have z0 := hq.cell 0
    have z1 := hq.cell 1
    have z2 := hq.cell 2
    have z3 := hq.cell 3
    simp only [List.getElem?_toArray, List.getElem?_cons_zero, List.getElem?_cons_succ] at z0 z1 z2 z3
    have y0 := hq.frozen 0
    have y1 := hq.frozen 1
    have y2 := hq.frozen 2
    have y3 := hq.frozen 3
    have lX := hq.lt
    have HKN : Hid (kn ≤ 100) := by show kn ≤ 100; omega
    have HKL := hide hkn
    have HW0 := hide hw0
    have HP := hide hp
    have HQ := hide hq
    have HB := hide hb
    clear hw0 hp hq hb hKc hc hsl ht hKS hKl hLl hsz hll hkn hn
    by_cases h6 : k = 6
    rotate_left
    · have d6 : (k == 6) = false := by simpa using h6
      have d6' : (k != 6) = true := by simpa using h6
      have HR : Hid (getJ (.mk k s0 K L) s = none) := by rw [Hid, HGJ.out]; exact if_neg (fun h => h6 h.1)
      clear h6
      go_enter Tryd.func18, Tryd.ntmps18
      go_upto_region 1 with fail
      rw [HW0.out]
      clear HW0
      go_wp2
      refine bodyPost_ret (results_jv2 rfl rfl rfl (resJ_v HQ.out (.int .i64 0) (.string ⟨#[]⟩) (.slice none 0 0) (.slice none 0 0))) rfl ?_
      rw [HR.out]
      exact ⟨zeroC, rfl, below4 HB.out (Nat.le_succ _) _ _ _ _, zero_in _ _⟩
    subst h6
    by_cases hkn : kn = n
    rotate_left
    · have d7 : ((kn : Int) != (n : Int)) = true := by simp; omega
      have HR : Hid (getJ (.mk 6 s0 K L) s = none) := by rw [Hid, HGJ.out]; exact if_neg (fun h => hkn h.2)
      clear hkn
      go_enter Tryd.func18, Tryd.ntmps18
      go_upto_region 1 with fail
      rw [HW0.out]
      clear HW0
      go_wp2
      refine bodyPost_ret (results_jv2 rfl rfl rfl (resJ_v HQ.out (.int .i64 0) (.string ⟨#[]⟩) (.slice none 0 0) (.slice none 0 0))) rfl ?_
      rw [HR.out]
      exact ⟨zeroC, rfl, below4 HB.out (Nat.le_succ _) _ _ _ _, zero_in _ _⟩
    subst hkn
    have d7 : ((kn : Int) != (kn : Int)) = false := by simp
    have HGF : Hid (getJ (.mk 6 s0 K L) s = (fndK K s).bind (fun j => L[j]?)) := by rw [Hid, HGJ.out]; exact if_pos ⟨rfl, rfl⟩
    clear HGJ
    cases hf : fndK K s with
    | none =>
      have HIX0 := hide (HIX.out w0 (Below.refl _ _))
      have HR : Hid (getJ (.mk 6 s0 K L) s = none) := by rw [Hid, HGF.out, hf]; rfl
      have HF := hide hf
      clear hf HIX
      go_enter Tryd.func18, Tryd.ntmps18
      go_upto_region 1 with fail
      rw [HW0.out]
      clear HW0
      go_wp2_with fail
      refine HIX0.out.mono ?_
      rintro e w1 ⟨rfl, hb1⟩
      rw [HF.out]
      simp only [idxV]
      have HB1 := hide (HB.out.trans (hb1.mono HB.out.size))
      have hq1 := HQ.out.below hb1
      have HQ1 := hide hq1
      clear z0 z1 z2 z3 y0 y1 y2 y3 lX p0 p1 p2 p3 hb1
      have z0 := hq1.cell 0
      have z1 := hq1.cell 1
      have z2 := hq1.cell 2
      have z3 := hq1.cell 3
      simp only [List.getElem?_toArray, List.getElem?_cons_zero, List.getElem?_cons_succ] at z0 z1 z2 z3
      have y0 := hq1.frozen 0
      have y1 := hq1.frozen 1
      have y2 := hq1.frozen 2
      have y3 := hq1.frozen 3
      have lX := hq1.lt
      clear hq1
      go_wp2
      refine bodyPost_ret (results_jv2 rfl rfl rfl (resJ_v HQ1.out (.int .i64 0) (.string ⟨#[]⟩) (.slice none 0 0) (.slice none 0 0))) rfl ?_
      rw [HR.out]
      exact ⟨zeroC, rfl, below4 HB1.out (Nat.le_succ _) _ _ _ _, zero_in _ _⟩
    | some j =>
      have HIX0 := hide (HIX.out w0 (Below.refl _ _))
      have hjl : j < kn := by have := fnd_lt hf; have := HKL.out; omega
      obtain ⟨Tj, hTj, hin, hlt, hs2, hs3⟩ := HPT.out j hjl
      have HR : Hid (getJ (.mk 6 s0 K L) s = some Tj) := by rw [Hid, HGF.out, hf]; exact hTj
      have HF := hide hf
      have HCL := hide (fun W (hW : Below w0.heap.size w0 W) => clone_any hin hlt W (HB.out.trans (hW.mono HB.out.size)))
      have hpc := fun W hW => HPC.out W hW j hjl
      generalize xs j = y at *
      obtain ⟨yk, ys', yK, yL⟩ := y
      simp only [vagg, vcell] at hpc hs2 hs3 HCL
      obtain ⟨ka', kl', kc', rfl⟩ := hs2
      obtain ⟨la', ll', lc', rfl⟩ := hs3
      have HPJ := hide hpc
      have HJL := hide hjl
      have d8 : (j : Int) < (kn : Int) := by omega
      have d9 : ¬ (j : Int) < 0 := by omega
      have d10 : (0 : Int) ≤ (j : Int) := by omega
      clear hf HIX hTj hin hlt hpc hjl
      go_enter Tryd.func18, Tryd.ntmps18
      go_upto_region 1 with fail
      rw [HW0.out]
      clear HW0
      go_wp2_with fail
      refine HIX0.out.mono ?_
      rintro e w1 ⟨rfl, hb1⟩
      rw [HF.out]
      simp only [idxV]
      have HB1 := hide (HB.out.trans (hb1.mono HB.out.size))
      have HBI := hide hb1
      have HP1 := hide (HP.out.below hb1)
      have HQ1 := hide (HQ.out.below hb1)
      clear z0 z1 z2 z3 y0 y1 y2 y3 lX p0 p1 p2 p3 hb1
      have p3 : w1.cell? ⟨w.heap.size, 3, none⟩ = some (.slice la kn lc) := HP1.out.cell 3
      obtain ⟨b, off, rfl, hx⟩ := HPJ.out w1 HBI.out
      have x0 := hx 0 (by omega)
      have x1 := hx 1 (by omega)
      have x2 := hx 2 (by omega)
      have x3 := hx 3 (by omega)
      simp only [List.getElem?_cons_zero, List.getElem?_cons_succ, ← Nat.add_assoc, Nat.add_zero] at x0 x1 x2 x3
      clear hx
      go_wp2_with fail
      refine (HCL.out w1 HBI.out).mono ?_
      rintro e w2 ⟨y', rfl, hb2, hT2⟩
      obtain ⟨yk2, ys2, yK2, yL2⟩ := y'
      obtain ⟨hs4, hs5⟩ := hT2.sl
      simp only at hs4 hs5
      obtain ⟨pa, pn, pc, rfl⟩ := hs4
      obtain ⟨qa, qn, qc, rfl⟩ := hs5
      simp only [vagg]
      have HB2 := hide (HB1.out.trans (hb2.mono HB1.out.size))
      have hq2 := HQ1.out.below hb2
      have HQ2 := hide hq2
      have z0 := hq2.cell 0
      have z1 := hq2.cell 1
      have z2 := hq2.cell 2
      have z3 := hq2.cell 3
      simp only [List.getElem?_toArray, List.getElem?_cons_zero, List.getElem?_cons_succ] at z0 z1 z2 z3
      have y0 := hq2.frozen 0
      have y1 := hq2.frozen 1
      have y2 := hq2.frozen 2
      have y3 := hq2.frozen 3
      have lX := hq2.lt
      have HT2 := hide (hT2.keep (W' := (((w2.setCell ⟨w.heap.size + 1, 0, none⟩ (.int .i64 yk2)).setCell ⟨w.heap.size + 1, 1, none⟩ (.string ys2)).setCell ⟨w.heap.size + 1, 2, none⟩ (.slice pa pn pc)).setCell ⟨w.heap.size + 1, 3, none⟩ (.slice qa qn qc)) (S' := fun b => w.heap.size ≤ b) (fun b hs hlt => by
        have hs' : w1.heap.size ≤ b := hs
        have hlq := HQ1.out.lt
        refine ⟨by show w.heap.size ≤ b; omega, ?_⟩
        have hne : b ≠ w.heap.size + 1 := by omega
        rw [Below.heap_setCell _ ⟨w.heap.size + 1, 3, none⟩ _ b hne, Below.heap_setCell _ ⟨w.heap.size + 1, 2, none⟩ _ b hne, Below.heap_setCell _ ⟨w.heap.size + 1, 1, none⟩ _ b hne, Below.heap_setCell _ ⟨w.heap.size + 1, 0, none⟩ _ b hne]))
      clear hq2 hb2 hT2 x0 x1 x2 x3 p3
      go_wp2
      refine bodyPost_ret (results_jv2 rfl rfl rfl (resJ_v HQ2.out (.int .i64 yk2) (.string ys2) (.slice pa pn pc) (.slice qa qn qc))) rfl ?_
      rw [HR.out]
      exact ⟨(yk2, ys2, .slice pa pn pc, .slice qa qn qc), rfl, below4 HB2.out (Nat.le_succ _) _ _ _ _, HT2.out⟩

/-- What the reference's Get answers. -/
def RGetR (S : Nat → Prop) (o : Option JT) (w : World) (e : Ending) (w' : World) : Prop := ∃ y : JC, e = .returned (.tuple #[vagg y, .bool o.isSome]) ∧ Below w.heap.size w w' ∧ TIn w' S y (o.getD zeroT)

set_option maxHeartbeats 16000000 in
theorem rget_any {S : Nat → Prop} {x : JC} {T : JT} (s : ByteArray) (w : World) (h : TIn w S x T) (hl : LtT T) : Calls Tryd.prog 19 #[vagg x, .string s] w (RGetR S (getJ T s) w) := by
  cases h with
  | mk k s0 kv la lc K L xs hK hc hsl ht =>
    obtain ⟨_, _, _, _, hKl, hLl, hsz, hll⟩ := hl
    obtain ⟨ka, kc, rfl, hKc⟩ := hK
    have hKS : StrsS w S (.slice ka K.length kc) K := ⟨ka, kc, rfl, hKc⟩
    unfold vagg
    simp only
    obtain ⟨kn, hkn⟩ : ∃ kn, K.length = kn := ⟨_, rfl⟩
    obtain ⟨n, hn⟩ : ∃ n, L.length = n := ⟨_, rfl⟩
    have HGJ : Hid (getJ (.mk k s0 K L) s = if k = 6 ∧ kn = n then (fndK K s).bind (fun j => L[j]?) else none) := by
      rw [Hid, ← hkn, ← hn]
      rfl
    rw [hkn] at hKS
    rw [hkn, hn]
    have hb : Below w.heap.size w ((w.alloc (.cells #[.int .i64 k, .string s0, .slice ka kn kc, .slice la n lc] 33)).alloc (.cells #[.int .i64 0, .string ⟨#[]⟩, .slice none 0 0, .slice none 0 0] 33)) := (bel w _).alloc (by simp) _
    have hp := (BoxC.new w 33 #[.int .i64 k, .string s0, .slice ka kn kc, .slice la n lc]).alloc (.cells #[.int .i64 0, .string ⟨#[]⟩, .slice none 0 0, .slice none 0 0] 33)
    have hq := BoxC.new (w.alloc (.cells #[.int .i64 k, .string s0, .slice ka kn kc, .slice la n lc] 33)) 33 #[.int .i64 0, .string ⟨#[]⟩, .slice none 0 0, .slice none 0 0]
    rw [World.size_alloc] at hq
    generalize hw0 : (w.alloc (.cells #[.int .i64 k, .string s0, .slice ka kn kc, .slice la n lc] 33)).alloc (.cells #[.int .i64 0, .string ⟨#[]⟩, .slice none 0 0, .slice none 0 0] 33) = w0 at *
    have HIX := hide (fun W (hW : Below w0.heap.size w0 W) => idx_any s W (hKS.keep (W' := W) (S' := S) (fun b hs hlt => ⟨hs, (hb.trans (hW.mono hb.size)).block b hlt⟩)) (by omega))
    have HPC : Hid (∀ W, Below w0.heap.size w0 W → ∀ i, i < n → ∃ b off, la = some ⟨b, off, none⟩ ∧ ∀ r, r < 4 → W.cell? ⟨b, off + (i * 4 + r), none⟩ = (vcell (xs i))[r]?) := fun W hW i hi => by
      obtain ⟨b, off, e, _, hx⟩ := hc i (by omega)
      refine ⟨b, off, e, fun r hr => ?_⟩
      have h0 := hx 0 (by omega)
      simp only [vcell, List.getElem?_cons_zero] at h0
      exact ((hb.trans (hW.mono hb.size)).cell (p := ⟨b, off + (i * 4 + r), none⟩) (block_lt h0)).trans (hx r hr)
    have HKC : Hid (∀ W, Below w0.heap.size w0 W → ∀ j, j < kn → ∃ b off, ka = some ⟨b, off, none⟩ ∧ W.cell? ⟨b, off + j, none⟩ = some (.string (nthS K j))) := fun W hW j hj => by
      obtain ⟨b, off, e, _, hx⟩ := hKc j (by omega)
      exact ⟨b, off, e, ((hb.trans (hW.mono hb.size)).cell (p := ⟨b, off + j, none⟩) (block_lt hx)).trans hx⟩
    have HPT : Hid (∀ i, i < n → ∃ Ti, L[i]? = some Ti ∧ TIn w S (xs i) Ti ∧ LtT Ti ∧ IsSl (xs i).2.2.1 ∧ IsSl (xs i).2.2.2) := fun i hi => ⟨L[i]'(by omega), List.getElem?_eq_getElem _, ht i (by omega), hll i (by omega), (hsl i (by omega)).1, (hsl i (by omega)).2⟩
    have p0 : w0.cell? ⟨w.heap.size, 0, none⟩ = some (.int .i64 k) := hp.cell 0
    have p1 : w0.cell? ⟨w.heap.size, 1, none⟩ = some (.string s0) := hp.cell 1
    have p2 : w0.cell? ⟨w.heap.size, 2, none⟩ = some (.slice ka kn kc) := hp.cell 2
    have p3 : w0.cell? ⟨w.heap.size, 3, none⟩ = some (.slice la n lc) := hp.cell 3
    have z0 := hq.cell 0
    have z1 := hq.cell 1
    have z2 := hq.cell 2
    have z3 := hq.cell 3
    simp only [List.getElem?_toArray, List.getElem?_cons_zero, List.getElem?_cons_succ] at z0 z1 z2 z3
    have y0 := hq.frozen 0
    have y1 := hq.frozen 1
    have y2 := hq.frozen 2
    have y3 := hq.frozen 3
    have lX := hq.lt
    have HKN : Hid (kn ≤ 100) := by show kn ≤ 100; omega
    have HKL := hide hkn
    have HW0 := hide hw0
    have HP := hide hp
    have HQ := hide hq
    have HB := hide hb
    clear hw0 hp hq hb hKc hc hsl ht hKS hKl hLl hsz hll hkn hn
    by_cases h6 : k = 6
    rotate_left
    · have d6 : (k == 6) = false := by simpa using h6
      have d6' : (k != 6) = true := by simpa using h6
      have HR : Hid (getJ (.mk k s0 K L) s = none) := by rw [Hid, HGJ.out]; exact if_neg (fun h => h6 h.1)
      clear h6
      go_enter Tryd.func19, Tryd.ntmps19
      go_upto_region 1 with fail
      rw [HW0.out]
      clear HW0
      go_wp2
      refine bodyPost_ret (results_rv2 rfl rfl rfl (resJ_v HQ.out (.int .i64 0) (.string ⟨#[]⟩) (.slice none 0 0) (.slice none 0 0))) rfl ?_
      rw [HR.out]
      exact ⟨zeroC, rfl, below4 HB.out (Nat.le_succ _) _ _ _ _, zero_in _ _⟩
    subst h6
    by_cases hkn : kn = n
    rotate_left
    · have d7 : ((kn : Int) != (n : Int)) = true := by simp; omega
      have HR : Hid (getJ (.mk 6 s0 K L) s = none) := by rw [Hid, HGJ.out]; exact if_neg (fun h => hkn h.2)
      clear hkn
      go_enter Tryd.func19, Tryd.ntmps19
      go_upto_region 1 with fail
      rw [HW0.out]
      clear HW0
      go_wp2
      refine bodyPost_ret (results_rv2 rfl rfl rfl (resJ_v HQ.out (.int .i64 0) (.string ⟨#[]⟩) (.slice none 0 0) (.slice none 0 0))) rfl ?_
      rw [HR.out]
      exact ⟨zeroC, rfl, below4 HB.out (Nat.le_succ _) _ _ _ _, zero_in _ _⟩
    subst hkn
    have d7 : ((kn : Int) != (kn : Int)) = false := by simp
    have HGF : Hid (getJ (.mk 6 s0 K L) s = (fndK K s).bind (fun j => L[j]?)) := by rw [Hid, HGJ.out]; exact if_pos ⟨rfl, rfl⟩
    clear HGJ
    clear HIX
    go_enter Tryd.func19, Tryd.ntmps19
    go_upto_region 1 with fail
    rw [HW0.out]
    clear HW0
    go_wp2
    go_loopw [6] (fun iv wr => ∃ j : Nat, j ≤ kn ∧ iv = .int .i64 (j : Int) ∧ wr = w0 ∧ ∀ q, q < j → nthS K q ≠ s) (fun iv _ => kn - (RowKit.intOf iv).toNat)
    case atStart => exact ⟨0, Nat.zero_le _, rfl, rfl, fun q h => by omega⟩
    case round =>
      obtain ⟨j, hj, rfl, rfl, hQ⟩ := hrel
      have HQQ := hide hQ
      clear hQ
      by_cases hlt : j < kn
      · obtain ⟨b, off, rfl, cx⟩ := HKC.out _ (Below.refl _ _) j hlt
        obtain ⟨j1, hj1⟩ : ∃ j1, j + 1 = j1 := ⟨_, rfl⟩
        have e2 : (j : Int) + 1 = (j1 : Int) := by omega
        have g1 : (j1 : Int) ≤ 1000000000 := by have := HKN.out; omega
        have d5 : (j : Int) < (kn : Int) := by omega
        have d0 : (0 : Int) ≤ (j : Int) := by omega
        have HI := hide (And.intro hlt hj1)
        obtain ⟨t, htt⟩ : ∃ t, nthS K j = t := ⟨_, rfl⟩
        rw [htt] at cx
        have HTJ := hide htt
        clear hlt hj1 hj htt
        by_cases htu : t = s
        · subst htu
          obtain ⟨Tj, hTj, hin, _, hs2, hs3⟩ := HPT.out j HI.out.1
          have HR : Hid (getJ (.mk 6 s0 K L) t = some Tj) := by
            rw [Hid, HGF.out, fnd_hit (by have := HI.out; have := HKL.out; omega) HTJ.out HQQ.out]
            exact hTj
          obtain ⟨b', off', rfl, hx⟩ := HPC.out _ (Below.refl _ _) j HI.out.1
          have HIN := hide hin
          generalize xs j = y at *
          obtain ⟨yk, ys', yK, yL⟩ := y
          simp only [vcell] at hx hs2 hs3
          obtain ⟨ka', kl', kc', rfl⟩ := hs2
          obtain ⟨la', ll', lc', rfl⟩ := hs3
          have x0 := hx 0 (by omega)
          have x1 := hx 1 (by omega)
          have x2 := hx 2 (by omega)
          have x3 := hx 3 (by omega)
          simp only [List.getElem?_cons_zero, List.getElem?_cons_succ, ← Nat.add_assoc, Nat.add_zero] at x0 x1 x2 x3
          clear hx hTj hin
          go_wp2
          refine bodyPost_ret (results_rv2 rfl rfl rfl (resJ_v HQ.out (.int .i64 yk) (.string ys') (.slice ka' kl' kc') (.slice la' ll' lc'))) rfl ?_
          rw [HR.out]
          exact ⟨(yk, ys', .slice ka' kl' kc', .slice la' ll' lc'), rfl, below4 HB.out (Nat.le_succ _) _ _ _ _, HIN.out.bel (below4 HB.out (Nat.le_succ _) _ _ _ _)⟩
        · have dne : (t.toList == s.toList) = false := str_ne htu
          have HKK := hide htu
          clear htu
          go_wp2
          go_roundw
          case rel =>
            refine ⟨j1, by have := HI.out; omega, by first | rfl | go_num, by first | rfl | trivial, fun q hq => ?_⟩
            rcases Nat.lt_or_ge q j with h | h
            · exact HQQ.out q h
            · obtain rfl : q = j := by have := HI.out; omega
              rw [HTJ.out]
              exact HKK.out
          case measure => have := HI.out; simp [RowKit.intOf]; omega
      · obtain rfl : j = kn := by omega
        have d5 : ¬ (j : Int) < (j : Int) := by omega
        have HR : Hid (getJ (.mk 6 s0 K L) s = none) := by
          rw [Hid, HGF.out, fnd_none (fun q hq => HQQ.out q (by have := HKL.out; omega))]
          rfl
        clear hlt hj
        go_wp2
        refine bodyPost_ret (results_rv2 rfl rfl rfl (resJ_v HQ.out (.int .i64 0) (.string ⟨#[]⟩) (.slice none 0 0) (.slice none 0 0))) rfl ?_
        rw [HR.out]
        exact ⟨zeroC, rfl, below4 HB.out (Nat.le_succ _) _ _ _ _, zero_in _ _⟩

/-- The table of powers. -/
def Pow (w : World) : Prop := Lib.TabIs Tryd.prog w "internal/strconv.uint64pow10" .u64 Lib.pow10Tab
theorem Pow.lt {w : World} (h : Pow w) : 5 < w.heap.size := by
  unfold Pow Lib.TabIs World.var? at h
  have e : Tryd.prog.globalNamed "internal/strconv.uint64pow10" = some 5 := by kernel_rfl
  rw [e] at h
  simp only [Option.bind_some] at h
  rcases Nat.lt_or_ge 5 w.heap.size with q | q
  · exact q
  · rw [Array.getElem?_eq_none q] at h
    simp at h
theorem Pow.below {w w' : World} (h : Pow w) (hb : Below w.heap.size w w') : Pow w' := by
  have hg := h.lt
  unfold Pow Lib.TabIs World.var? at *
  have e : Tryd.prog.globalNamed "internal/strconv.uint64pow10" = some 5 := by kernel_rfl
  rw [e] at h ⊢
  simp only [Option.bind_some] at h ⊢
  rw [hb.block 5 hg]
  exact h

/-- A string is its bytes. -/
theorem str_bytes (s : ByteArray) : ∃ T : List Nat, (∀ x ∈ T, x < 256) ∧ T.length = s.size ∧ s = strOf T := by
  obtain ⟨⟨l⟩⟩ := s
  refine ⟨l.map (·.toNat), fun x hx => ?_, by simp [ByteArray.size], ?_⟩
  · obtain ⟨c, _, rfl⟩ := List.mem_map.1 hx
    exact c.toNat_lt
  · unfold strOf
    rw [List.map_map]
    have : (UInt8.ofNat ∘ fun x : UInt8 => x.toNat) = id := by
      funext x
      simp
    rw [this, List.map_id]

def OfNR (n : Int) (w : World) (e : Ending) (w' : World) : Prop := e = .returned (vagg (nC (strOf (itoaT n)))) ∧ Below w.heap.size w w'
set_option maxHeartbeats 2000000 in
theorem ofn_any (w : World) (n : Int) (h1 : -999999999 ≤ n) (h2 : n ≤ 999999999) (hP : Pow w) :
    Calls Tryd.prog 22 #[.int .i64 n] w (OfNR n w) := by
  have hb := bel w (.cells jv0 27)
  have hx := BoxC.new w 27 jv0
  have HI := hide (Tryd.strconv_Itoa n (by omega) (by omega) (w.alloc (.cells jv0 27)) (hP.below hb))
  unfold jv0 at hb hx HI
  rw [itoa_str] at HI
  generalize hw0 : w.alloc (.cells #[.int .i64 0, .string ⟨#[]⟩, .slice none 0 0, .slice none 0 0] 27) = w0 at *
  generalize hs : strOf (itoaT n) = s at *
  have HS := hide hs
  have HX := hide hx
  have HB := hide hb
  have HW := hide hw0
  clear hx hb hw0 hs h1 h2 hP
  go_enter Tryd.func22, Tryd.ntmps22
  go_wp2_with fail
  rw [HW.out]
  clear HW
  refine HI.out.mono ?_
  rintro e w1 ⟨rfl, k, os, hw⟩
  have hb1 : Below w0.heap.size w0 w1 := by rw [hw]; exact below_grow _ _ (Nat.le_refl _) _ _
  have HX1 := hide (HX.out.below hb1)
  have HB1 := hide (HB.out.trans (hb1.mono HB.out.size))
  have x0 : w1.cell? ⟨w.heap.size, 0, none⟩ = some (.int .i64 0) := HX1.out.cell 0
  have x1 : w1.cell? ⟨w.heap.size, 1, none⟩ = some (.string ⟨#[]⟩) := HX1.out.cell 1
  have x2 : w1.cell? ⟨w.heap.size, 2, none⟩ = some (.slice none 0 0) := HX1.out.cell 2
  have x3 : w1.cell? ⟨w.heap.size, 3, none⟩ = some (.slice none 0 0) := HX1.out.cell 3
  have y0 := HX1.out.frozen 0
  have y1 := HX1.out.frozen 1
  have y2 := HX1.out.frozen 2
  have y3 := HX1.out.frozen 3
  have lX := HX1.out.lt
  clear hw hb1 HI
  go_wp2
  refine bodyPost_ret (results_jv rfl rfl (resJ_v HX1.out (.int .i64 3) (.string s) (.slice none 0 0) (.slice none 0 0))) rfl ?_
  exact ⟨by rw [HS.out]; rfl, (((HB1.out.setCell (p := ⟨w.heap.size, 0, none⟩) (Nat.le_refl _) _).setCell (p := ⟨w.heap.size, 1, none⟩) (Nat.le_refl _) _).setCell (p := ⟨w.heap.size, 2, none⟩) (Nat.le_refl _) _).setCell (p := ⟨w.heap.size, 3, none⟩) (Nat.le_refl _) _⟩

end Go.Proofs.YtcedcbonphgecaaDoor
